/-
  PlaceCovers holds, whatever the arguments: covers and splits are the document's; the arguments read as they did.
-/
import Derived.Test.YtbhmgkpkagjmnaaPlN
import Derived.Test.YtbhmgkpkagjmnaaPlT
namespace Go.Proofs.Ytbhmgkpkagjmnaa
open Go.ChangeShapes Go.WideShapes Go.ChangeAt Go.RowKit

theorem placeCovers_lifted (os : Os) (started : os.Started) (H : Type) (enc : TypeId × Value → H) :
    ReturnsInHanded {} Try.checked os 4 .any (Rows.placeCoversSpec.pre6 enc Try.prog Try.f4 Rows.placeCoversRow.domain false) (Rows.placeCoversSpec.post enc Try.prog Try.f4 false true false false) := by
  refine returnsInHanded_of_change_sized (C := Try.checked) ownKnobs started (by kernel_rfl) Try.func4
    (ChangeSpec.witness6 (enc := enc) (C := Try.checked) false ⟨#[], #[.int .u64 0, .int .u64 0, .int .u64 0], []⟩ 8 (by kernel_rfl) (by kernel_rfl) (by kernel_rfl) (by kernel_rfl)) ?_
  intro W base args ds gs before hval hW _ _ _
  have hW' := hW
  obtain ⟨p, q, hA0, hV, rfl, _, _⟩ := hW
  have hA : DataW.TrodAll enc Try.prog W 0 (fun _ => true) true Try.f4.params.toList args.toList ds p := hA0
  have hval' := hval
  rw [Try.params4] at hA hval'
  obtain ⟨v0, v1, v2, d0, d1, d2, p0, p1, p2, rfl, rfl, rfl, h0, h1, h2⟩ := trodAll_three hA
  obtain ⟨rfl, rfl⟩ := trodVars_none hV
  obtain ⟨m0, rfl, b0⟩ := u64_of_trod (hval' 0 22 v0 rfl rfl) h0
  obtain ⟨m1, rfl, b1⟩ := u64_of_trod (hval' 1 22 v1 rfl rfl) h1
  obtain ⟨m2, rfl, b2⟩ := u64_of_trod (hval' 2 22 v2 rfl rfl) h2
  refine (Covers_law m0 m1 m2 W b0 b2).mono fun e W' ⟨he, hw⟩ => ?_
  subst he
  exact ⟨_, rfl, law_post laidOuts (by kernel_rfl) rfl Try.underlying4 rfl hW' hw rfl⟩

theorem placeCovers_proved : Rows.PlaceCoversSaid :=
  OpenClaim.holds_of_wide 4 Try.f4 rfl rfl rfl rfl rfl rfl rfl ⟨rfl, rfl, rfl, rfl, rfl⟩ rfl rfl rfl rfl rfl (by kernel_rfl) Try.func4 (by kernel_rfl)
    (of_decide_eq_true (by kernel_rfl)) (by unfold Func.isWrapper; first | (rw [if_pos (by decide +kernel)]; kernel_rfl) | (rw [if_neg (by decide +kernel)]; exact ⟨rfl, rfl⟩))
    (fun os started H enc _ => placeCovers_lifted os started H enc)
end Go.Proofs.Ytbhmgkpkagjmnaa
