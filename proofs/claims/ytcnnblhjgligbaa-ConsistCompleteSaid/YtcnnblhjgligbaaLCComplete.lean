/-
  ConsistComplete holds, whatever the arguments: the proof of a tree's first leaves tells both heads, is verified, and one hash less or more is not.
-/
import Derived.Test.YtcnnblhjgligbaaCpW
import Derived.Test.YtcnnblhjgligbaaMgT
namespace Go.Proofs.Ytcnnblhjgligbaa
open Go.ChangeShapes Go.WideShapes Go.ChangeAt Go.RowKit

theorem consistComplete_lifted (os : Os) (started : os.Started) (H : Type) (enc : TypeId × Value → H) :
    ReturnsInHanded {} Try.checked os 6 .any (Rows.consistCompleteSpec.pre6 enc Try.prog Try.f6 Rows.consistCompleteRow.domain false) (Rows.consistCompleteSpec.post enc Try.prog Try.f6 false true false false) := by
  refine returnsInHanded_of_change_sized (C := Try.checked) ownKnobs started (by kernel_rfl) Try.func6
    (ChangeSpec.witness6 (enc := enc) (C := Try.checked) false ⟨#[], #[.slice none 0 0, .int .u64 0], []⟩ 8 (by kernel_rfl) (by kernel_rfl) (by kernel_rfl) (by kernel_rfl)) ?_
  intro W base args ds gs before hval hW hcond hsz _
  have hW' := hW
  obtain ⟨p, q, hA0, hV, rfl, _, _⟩ := hW
  have hA : DataW.TrodAll enc Try.prog W 0 (fun _ => true) true Try.f6.params.toList args.toList ds p := hA0
  have hval' := hval
  rw [Try.params6] at hA hval' hsz
  obtain ⟨v0, v1, d0, d1, p0, p1, hargs, rfl, rfl, h0, h1⟩ := trodAll_two hA
  obtain rfl : args = #[v0, v1] := by cases args; simp_all
  obtain ⟨rfl, rfl⟩ := trodVars_none hV
  obtain ⟨a0, n0, c0, L0, rfl, hr0, -⟩ := rdD_of_trod (hval' 0 33 v0 rfl rfl) h0
  have b0 : n0 ≤ 2 ^ 42 := by
    obtain ⟨f, hf⟩ := h0
    have h1 := slice_len_d Try.underlying33 hf
    have h2 := dlen_size hsz (j := 0) (t := 33) (e := 41) rfl rfl Try.underlying33
    rw [show Try.checked.prog.bytesOf 41 = 32 from bytesDg] at h2
    simp only [reachBytes] at h2
    simp only at h1
    omega
  obtain ⟨_, rfl, -, -, w1⟩ := open_int Try.underlying22 (hval' 1 22 v1 rfl rfl) h1
  obtain ⟨x1, rfl⟩ := wf_n64 w1
  refine (LComplete_any L0 a0 n0 c0 x1 W hr0).mono fun e W' ⟨he, hw⟩ => ?_
  subst he
  exact ⟨_, rfl, law_post laidOuts (by kernel_rfl) rfl Try.underlying4 rfl hW' hw rfl⟩

theorem consistComplete_proved : Rows.ConsistCompleteSaid :=
  OpenClaim.holds_of_wide 6 Try.f6 rfl rfl rfl rfl rfl rfl rfl ⟨rfl, rfl, rfl, rfl, rfl⟩ rfl rfl rfl rfl rfl (by kernel_rfl) Try.func6 (by kernel_rfl)
    (of_decide_eq_true (by kernel_rfl)) (by unfold Func.isWrapper; first | (rw [if_pos (by decide +kernel)]; kernel_rfl) | (rw [if_neg (by decide +kernel)]; exact ⟨rfl, rfl⟩))
    (fun os started H enc _ => consistComplete_lifted os started H enc)
end Go.Proofs.Ytcnnblhjgligbaa
