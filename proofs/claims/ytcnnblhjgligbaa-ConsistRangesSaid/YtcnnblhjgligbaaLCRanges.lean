/-
  ConsistRanges holds, whatever the arguments: the ranges of proofs are the document's.
-/
import Derived.Test.YtcnnblhjgligbaaCpR
import Derived.Test.YtcnnblhjgligbaaMgT
namespace Go.Proofs.Ytcnnblhjgligbaa
open Go.ChangeShapes Go.WideShapes Go.ChangeAt Go.RowKit

theorem consistRanges_lifted (os : Os) (started : os.Started) (H : Type) (enc : TypeId × Value → H) :
    ReturnsInHanded {} Try.checked os 3 .any (Rows.consistRangesSpec.pre6 enc Try.prog Try.f3 Rows.consistRangesRow.domain false) (Rows.consistRangesSpec.post enc Try.prog Try.f3 false true false false) := by
  refine returnsInHanded_of_change_sized (C := Try.checked) ownKnobs started (by kernel_rfl) Try.func3
    (ChangeSpec.witness6 (enc := enc) (C := Try.checked) false ⟨#[], #[.int .u64 0, .int .u64 0], []⟩ 8 (by kernel_rfl) (by kernel_rfl) (by kernel_rfl) (by kernel_rfl)) ?_
  intro W base args ds gs before hval hW hcond hsz _
  have hW' := hW
  obtain ⟨p, q, hA0, hV, rfl, _, _⟩ := hW
  have hA : DataW.TrodAll enc Try.prog W 0 (fun _ => true) true Try.f3.params.toList args.toList ds p := hA0
  have hval' := hval
  rw [Try.params3] at hA hval' hsz
  obtain ⟨v0, v1, d0, d1, p0, p1, hargs, rfl, rfl, h0, h1⟩ := trodAll_two hA
  obtain rfl : args = #[v0, v1] := by cases args; simp_all
  obtain ⟨rfl, rfl⟩ := trodVars_none hV
  obtain ⟨_, rfl, -, -, w0⟩ := open_int Try.underlying22 (hval' 0 22 v0 rfl rfl) h0
  obtain ⟨x0, rfl⟩ := wf_n64 w0
  obtain ⟨_, rfl, -, -, w1⟩ := open_int Try.underlying22 (hval' 1 22 v1 rfl rfl) h1
  obtain ⟨x1, rfl⟩ := wf_n64 w1
  refine (LRanges_any x0 x1 W).mono fun e W' ⟨he, hw⟩ => ?_
  subst he
  exact ⟨_, rfl, law_post laidOuts (by kernel_rfl) rfl Try.underlying4 rfl hW' hw rfl⟩

theorem consistRanges_proved : Rows.ConsistRangesSaid :=
  OpenClaim.holds_of_wide 3 Try.f3 rfl rfl rfl rfl rfl rfl rfl ⟨rfl, rfl, rfl, rfl, rfl⟩ rfl rfl rfl rfl rfl (by kernel_rfl) Try.func3 (by kernel_rfl)
    (of_decide_eq_true (by kernel_rfl)) (by unfold Func.isWrapper; first | (rw [if_pos (by decide +kernel)]; kernel_rfl) | (rw [if_neg (by decide +kernel)]; exact ⟨rfl, rfl⟩))
    (fun os started H enc _ => consistRanges_lifted os started H enc)
end Go.Proofs.Ytcnnblhjgligbaa
