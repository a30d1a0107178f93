/-
  EntryTakes holds: what bytes say, as a record and as an item, is the document's; they stay. Conditions: none.
-/
import Derived.Test.YtcohcjhbkiangaaETakes
namespace Go.Proofs.Ytcohcjhbkiangaa
open Go.ChangeShapes Go.WideShapes Go.ChangeAt Go.RowKit

set_option maxRecDepth 100000 in
set_option maxHeartbeats 2000000 in
theorem entryTakes_lifted (os : Os) (started : os.Started) (H : Type) (enc : TypeId × Value → H) :
    ReturnsInHanded {} Try.checked os 4 .any (Rows.entryTakesSpec.pre6 enc Try.prog Try.f4 Rows.entryTakesRow.domain false) (Rows.entryTakesSpec.post enc Try.prog Try.f4 false true false false) := by
  refine returnsInHanded_of_change_sized (C := Try.checked) ownKnobs started (by kernel_rfl) Try.func4
    (ChangeSpec.witness6 (enc := enc) (C := Try.checked) false ⟨#[], #[.slice none 0 0, .agg #[.slice none 0 0, .slice none 0 0]], []⟩ 8 (by kernel_rfl) (by kernel_rfl) (by kernel_rfl) (by kernel_rfl)) ?_
  intro W base args ds gs before hval hW hcond hsz _
  have hW' := hW
  obtain ⟨p, q, hA0, hV, rfl, _, _⟩ := hW
  have hA : DataW.TrodAll enc Try.prog W 0 (fun _ => true) true Try.f4.params.toList args.toList ds p := hA0
  have hval' := hval
  rw [Try.params4] at hA hval'
  obtain ⟨v1, v2, d1, d2, _, _, rfl, rfl, -, h1, h2⟩ := trodAll_two hA
  obtain ⟨rfl, rfl⟩ := trodVars_none hV
  have hv2 := hval' 1 34 v2 rfl rfl
  simp only [Value.okWide] at hv2
  obtain ⟨cs2, rfl, -, -⟩ := hv2
  obtain ⟨a1, l1, c1, rfl⟩ := okWide_slice Try.underlying27 (hval' 0 27 v1 rfl rfl)
  obtain ⟨p1, hf1⟩ := h1
  obtain ⟨p2, hf2⟩ := h2
  have w1 : WOK Try.prog 27 d1 := wok_top hsz (j := 0) rfl rfl
  have w2 : WOK Try.prog 34 d2 := wok_top hsz (j := 1) rfl rfl
  obtain ⟨ba, bn, bc, bs, e1, hrb, hbn⟩ := rd_of_wok (y := (d1, _)) hf1 (fun _ => rfl) w1
  cases e1
  obtain ⟨la, ln, lc, ls, xa, xn, xc, xs, e2, hrl, hln, hrx, hxn⟩ := item_of_wok (y := (d2, _)) hf2 (fun _ => rfl) w2
  obtain rfl : cs2 = #[.slice la ln lc, .slice xa xn xc] := by apply Array.toList_inj.1; exact e2
  refine (Takes_law a1 l1 c1 bs la ln lc xa xn xc ls xs W (by omega) hrb (by omega) (by omega) hrl hrx).mono fun e W' ⟨he, hw⟩ => ?_
  subst he
  exact ⟨_, rfl, law_post laidOuts (by kernel_rfl) rfl Try.underlying4 rfl hW' hw rfl⟩

theorem entryTakes_proved : Rows.EntryTakesSaid :=
  OpenClaim.holds_of_wide 4 Try.f4 rfl rfl rfl rfl rfl rfl rfl ⟨rfl, rfl, rfl, rfl, rfl⟩ rfl rfl rfl rfl rfl (by kernel_rfl) Try.func4 (by kernel_rfl)
    (of_decide_eq_true (by kernel_rfl)) (by unfold Func.isWrapper; first | (rw [if_pos (by decide +kernel)]; kernel_rfl) | (rw [if_neg (by decide +kernel)]; exact ⟨rfl, rfl⟩))
    (fun os started H enc _ => entryTakes_lifted os started H enc)
end Go.Proofs.Ytcohcjhbkiangaa
