/-
  EntryMakes holds: what is made of entries is the document's, for any two; they stay, what is answered is new memory. Conditions: none.
-/
import Derived.Test.YtcohcjhbkiangaaEMakes
namespace Go.Proofs.Ytcohcjhbkiangaa
open Go.ChangeShapes Go.WideShapes Go.ChangeAt Go.RowKit

set_option maxRecDepth 100000 in
set_option maxHeartbeats 2000000 in
theorem entryMakes_lifted (os : Os) (started : os.Started) (H : Type) (enc : TypeId × Value → H) :
    ReturnsInHanded {} Try.checked os 3 .any (Rows.entryMakesSpec.pre6 enc Try.prog Try.f3 Rows.entryMakesRow.domain false) (Rows.entryMakesSpec.post enc Try.prog Try.f3 false true false false) := by
  refine returnsInHanded_of_change_sized (C := Try.checked) ownKnobs started (by kernel_rfl) Try.func3
    (ChangeSpec.witness6 (enc := enc) (C := Try.checked) false ⟨#[], #[.agg #[.int .u64 0, .slice none 0 0], .agg #[.int .u64 0, .slice none 0 0]], []⟩ 8 (by kernel_rfl) (by kernel_rfl) (by kernel_rfl) (by kernel_rfl)) ?_
  intro W base args ds gs before hval hW hcond hsz _
  have hW' := hW
  obtain ⟨p, q, hA0, hV, rfl, _, _⟩ := hW
  have hA : DataW.TrodAll enc Try.prog W 0 (fun _ => true) true Try.f3.params.toList args.toList ds p := hA0
  have hval' := hval
  rw [Try.params3] at hA hval'
  obtain ⟨v0, v1, d0, d1, _, _, rfl, rfl, -, h0, h1⟩ := trodAll_two hA
  obtain ⟨rfl, rfl⟩ := trodVars_none hV
  have hv0 := hval' 0 25 v0 rfl rfl
  have hv1 := hval' 1 25 v1 rfl rfl
  simp only [Value.okWide] at hv0 hv1
  obtain ⟨cs0, rfl, -, -⟩ := hv0
  obtain ⟨cs1, rfl, -, -⟩ := hv1
  obtain ⟨p0, hf0⟩ := h0
  obtain ⟨p1, hf1⟩ := h1
  have w0 : WOK Try.prog 25 d0 := wok_top hsz (j := 0) rfl rfl
  have w1 : WOK Try.prog 25 d1 := wok_top hsz (j := 1) rfl rfl
  obtain ⟨t, al, n, cap, xss, e0, ht, hc, hn, hx⟩ := entry_of_wok (y := (d0, _)) hf0 (fun _ => rfl) w0
  obtain ⟨u, bl, m, mc, yss, e1, -, hc', hm, -⟩ := entry_of_wok (y := (d1, _)) hf1 (fun _ => rfl) w1
  obtain rfl : cs0 = #[.int .u64 (t : Int), .slice al n cap] := by apply Array.toList_inj.1; exact e0
  obtain rfl : cs1 = #[.int .u64 (u : Int), .slice bl m mc] := by apply Array.toList_inj.1; exact e1
  refine (Makes_law t al n cap xss u bl m mc yss W ht (by omega) hc (fun x h => Nat.le_trans (hx x h) (by decide)) (by omega) hc').mono fun e W' ⟨he, hw⟩ => ?_
  subst he
  exact ⟨_, rfl, law_post laidOuts (by kernel_rfl) rfl Try.underlying4 rfl hW' hw rfl⟩

theorem entryMakes_proved : Rows.EntryMakesSaid :=
  OpenClaim.holds_of_wide 3 Try.f3 rfl rfl rfl rfl rfl rfl rfl ⟨rfl, rfl, rfl, rfl, rfl⟩ rfl rfl rfl rfl rfl (by kernel_rfl) Try.func3 (by kernel_rfl)
    (of_decide_eq_true (by kernel_rfl)) (by unfold Func.isWrapper; first | (rw [if_pos (by decide +kernel)]; kernel_rfl) | (rw [if_neg (by decide +kernel)]; exact ⟨rfl, rfl⟩))
    (fun os started H enc _ => entryMakes_lifted os started H enc)
end Go.Proofs.Ytcohcjhbkiangaa
