/-
  EntryBack holds: what was made of an entry tells it, and bytes that tell an entry are what is made of it. Conditions: none.
-/
import Derived.Test.YtcohcjhbkiangaaEBack
namespace Go.Proofs.Ytcohcjhbkiangaa
open Go.ChangeShapes Go.WideShapes Go.ChangeAt Go.RowKit

set_option maxRecDepth 100000 in
set_option maxHeartbeats 2000000 in
theorem entryBack_lifted (os : Os) (started : os.Started) (H : Type) (enc : TypeId × Value → H) :
    ReturnsInHanded {} Try.checked os 6 .any (Rows.entryBackSpec.pre6 enc Try.prog Try.f6 Rows.entryBackRow.domain false) (Rows.entryBackSpec.post enc Try.prog Try.f6 false true false false) := by
  refine returnsInHanded_of_change_sized (C := Try.checked) ownKnobs started (by kernel_rfl) Try.func6
    (ChangeSpec.witness6 (enc := enc) (C := Try.checked) false ⟨#[], #[.agg #[.int .u64 0, .slice none 0 0], .slice none 0 0, .agg #[.slice none 0 0, .slice none 0 0]], []⟩ 8 (by kernel_rfl) (by kernel_rfl) (by kernel_rfl) (by kernel_rfl)) ?_
  intro W base args ds gs before hval hW hcond hsz _
  have hW' := hW
  obtain ⟨p, q, hA0, hV, rfl, _, _⟩ := hW
  have hA : DataW.TrodAll enc Try.prog W 0 (fun _ => true) true Try.f6.params.toList args.toList ds p := hA0
  have hval' := hval
  rw [Try.params6] at hA hval'
  obtain ⟨v0, v1, v2, d0, d1, d2, _, _, _, rfl, rfl, -, h0, h1, h2⟩ := trodAll_three hA
  obtain ⟨rfl, rfl⟩ := trodVars_none hV
  have hv0 := hval' 0 25 v0 rfl rfl
  have hv2 := hval' 2 34 v2 rfl rfl
  simp only [Value.okWide] at hv0 hv2
  obtain ⟨cs0, rfl, -, -⟩ := hv0
  obtain ⟨cs2, rfl, -, -⟩ := hv2
  obtain ⟨p0, hf0⟩ := h0
  obtain ⟨a1, l1, c1, rfl⟩ := okWide_slice Try.underlying27 (hval' 1 27 v1 rfl rfl)
  obtain ⟨p1, hf1⟩ := h1
  obtain ⟨p2, hf2⟩ := h2
  have w0 : WOK Try.prog 25 d0 := wok_top hsz (j := 0) rfl rfl
  have w1 : WOK Try.prog 27 d1 := wok_top hsz (j := 1) rfl rfl
  have w2 : WOK Try.prog 34 d2 := wok_top hsz (j := 2) rfl rfl
  obtain ⟨t, al, n, cap, xss, e0, ht, hc, hn, hx⟩ := entry_of_wok (y := (d0, _)) hf0 (fun _ => rfl) w0
  obtain ⟨ba, bn, bc, bs, e1, hrb, hbn⟩ := rd_of_wok (y := (d1, _)) hf1 (fun _ => rfl) w1
  cases e1
  obtain ⟨la, ln, lc, ls, xa, xn, xc, xs, e2, hrl, hln, hrx, hxn⟩ := item_of_wok (y := (d2, _)) hf2 (fun _ => rfl) w2
  obtain rfl : cs0 = #[.int .u64 (t : Int), .slice al n cap] := by apply Array.toList_inj.1; exact e0
  obtain rfl : cs2 = #[.slice la ln lc, .slice xa xn xc] := by apply Array.toList_inj.1; exact e2
  refine (Back_law t al n cap xss a1 l1 c1 bs la ln lc xa xn xc ls xs W ht (by omega) hc (by omega) hrb (by omega) (by omega) hrl hrx).mono fun e W' ⟨he, hw⟩ => ?_
  subst he
  exact ⟨_, rfl, law_post laidOuts (by kernel_rfl) rfl Try.underlying4 rfl hW' hw rfl⟩

theorem entryBack_proved : Rows.EntryBackSaid :=
  OpenClaim.holds_of_wide 6 Try.f6 rfl rfl rfl rfl rfl rfl rfl ⟨rfl, rfl, rfl, rfl, rfl⟩ rfl rfl rfl rfl rfl (by kernel_rfl) Try.func6 (by kernel_rfl)
    (of_decide_eq_true (by kernel_rfl)) (by unfold Func.isWrapper; first | (rw [if_pos (by decide +kernel)]; kernel_rfl) | (rw [if_neg (by decide +kernel)]; exact ⟨rfl, rfl⟩))
    (fun os started H enc _ => entryBack_lifted os started H enc)
end Go.Proofs.Ytcohcjhbkiangaa
