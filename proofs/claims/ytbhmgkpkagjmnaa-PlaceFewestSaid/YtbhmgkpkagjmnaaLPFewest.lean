/-
  PlaceFewest holds, whatever the arguments: a cover covers, by the fewest nodes, at most 40.
-/
import Derived.Test.YtbhmgkpkagjmnaaPlP
import Derived.Test.YtbhmgkpkagjmnaaPlT
namespace Go.Proofs.Ytbhmgkpkagjmnaa
open Go.ChangeShapes Go.WideShapes Go.ChangeAt Go.RowKit

theorem placeFewest_lifted (os : Os) (started : os.Started) (H : Type) (enc : TypeId × Value → H) :
    ReturnsInHanded {} Try.checked os 5 .any (Rows.placeFewestSpec.pre6 enc Try.prog Try.f5 Rows.placeFewestRow.domain false) (Rows.placeFewestSpec.post enc Try.prog Try.f5 false true false false) := by
  refine returnsInHanded_of_change_sized (C := Try.checked) ownKnobs started (by kernel_rfl) Try.func5
    (ChangeSpec.witness6 (enc := enc) (C := Try.checked) false ⟨#[], #[.int .u64 0, .int .u64 0], []⟩ 8 (by kernel_rfl) (by kernel_rfl) (by kernel_rfl) (by kernel_rfl)) ?_
  intro W base args ds gs before hval hW _ _ _
  have hW' := hW
  obtain ⟨p, q, hA0, hV, rfl, _, _⟩ := hW
  have hA : DataW.TrodAll enc Try.prog W 0 (fun _ => true) true Try.f5.params.toList args.toList ds p := hA0
  have hval' := hval
  rw [Try.params5] at hA hval'
  obtain ⟨v0, v1, d0, d1, p0, p1, rfl, rfl, rfl, h0, h1⟩ := trodAll_two hA
  obtain ⟨rfl, rfl⟩ := trodVars_none hV
  obtain ⟨m0, rfl, b0⟩ := u64_of_trod (hval' 0 22 v0 rfl rfl) h0
  obtain ⟨m1, rfl, b1⟩ := u64_of_trod (hval' 1 22 v1 rfl rfl) h1
  refine (Fewest_law m0 m1 W b0).mono fun e W' ⟨he, hw⟩ => ?_
  subst he
  exact ⟨_, rfl, law_post laidOuts (by kernel_rfl) rfl Try.underlying4 rfl hW' hw rfl⟩

theorem placeFewest_proved : Rows.PlaceFewestSaid :=
  OpenClaim.holds_of_wide 5 Try.f5 rfl rfl rfl rfl rfl rfl rfl ⟨rfl, rfl, rfl, rfl, rfl⟩ rfl rfl rfl rfl rfl (by kernel_rfl) Try.func5 (by kernel_rfl)
    (of_decide_eq_true (by kernel_rfl)) (by unfold Func.isWrapper; first | (rw [if_pos (by decide +kernel)]; kernel_rfl) | (rw [if_neg (by decide +kernel)]; exact ⟨rfl, rfl⟩))
    (fun os started H enc _ => placeFewest_lifted os started H enc)
end Go.Proofs.Ytbhmgkpkagjmnaa
