/-
  PlaceDoes holds, whatever the nodes: what is said of nodes is the document's.
-/
import Derived.Test.YtbhmgkpkagjmnaaPlS
import Derived.Test.YtbhmgkpkagjmnaaPlT
namespace Go.Proofs.Ytbhmgkpkagjmnaa
open Go.ChangeShapes Go.WideShapes Go.ChangeAt Go.RowKit

theorem placeDoes_lifted (os : Os) (started : os.Started) (H : Type) (enc : TypeId × Value → H) :
    ReturnsInHanded {} Try.checked os 3 .any (Rows.placeDoesSpec.pre6 enc Try.prog Try.f3 Rows.placeDoesRow.domain false) (Rows.placeDoesSpec.post enc Try.prog Try.f3 false true false false) := by
  refine returnsInHanded_of_change_sized (C := Try.checked) ownKnobs started (by kernel_rfl) Try.func3
    (ChangeSpec.witness6 (enc := enc) (C := Try.checked) false ⟨#[], #[.agg #[.int .i64 0, .int .u64 0], .agg #[.int .i64 0, .int .u64 0]], []⟩ 8 (by kernel_rfl) (by kernel_rfl) (by kernel_rfl) (by kernel_rfl)) ?_
  intro W base args ds gs before hval hW _ _ _
  have hW' := hW
  obtain ⟨p, q, hA0, hV, rfl, _, _⟩ := hW
  have hA : DataW.TrodAll enc Try.prog W 0 (fun _ => true) true Try.f3.params.toList args.toList ds p := hA0
  have hval' := hval
  rw [Try.params3] at hA hval'
  obtain ⟨v0, v1, d0, d1, p0, p1, rfl, rfl, rfl, h0, h1⟩ := trodAll_two hA
  obtain ⟨rfl, rfl⟩ := trodVars_none hV
  obtain ⟨l0, i0, rfl, b0⟩ := node_of_trod (hval' 0 24 v0 rfl rfl) h0
  obtain ⟨l1, i1, rfl, b1⟩ := node_of_trod (hval' 1 24 v1 rfl rfl) h1
  refine (Does_law l0 i0 l1 i1 W b0 b1).mono fun e W' ⟨he, hw⟩ => ?_
  subst he
  exact ⟨_, rfl, law_post laidOuts (by kernel_rfl) rfl Try.underlying4 rfl hW' hw rfl⟩

theorem placeDoes_proved : Rows.PlaceDoesSaid :=
  OpenClaim.holds_of_wide 3 Try.f3 rfl rfl rfl rfl rfl rfl rfl ⟨rfl, rfl, rfl, rfl, rfl⟩ rfl rfl rfl rfl rfl (by kernel_rfl) Try.func3 (by kernel_rfl)
    (of_decide_eq_true (by kernel_rfl)) (by unfold Func.isWrapper; first | (rw [if_pos (by decide +kernel)]; kernel_rfl) | (rw [if_neg (by decide +kernel)]; exact ⟨rfl, rfl⟩))
    (fun os started H enc _ => placeDoes_lifted os started H enc)
end Go.Proofs.Ytbhmgkpkagjmnaa
