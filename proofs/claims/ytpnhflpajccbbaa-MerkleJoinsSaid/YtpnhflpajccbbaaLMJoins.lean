/-
  MerkleJoins holds, whatever the argument: the head of leaves is put together from both parts' heads, and from the peaks, the last one first.
-/
import Derived.Test.YtpnhflpajccbbaaMlJ
import Derived.Test.YtpnhflpajccbbaaMkT
import Derived.Test.YtpnhflpajccbbaaMlT
namespace Go.Proofs.Ytpnhflpajccbbaa
open Go.ChangeShapes Go.WideShapes Go.ChangeAt Go.RowKit

theorem merkleJoins_lifted (os : Os) (started : os.Started) (H : Type) (enc : TypeId × Value → H) :
    ReturnsInHanded {} Try.checked os 5 .any (Rows.merkleJoinsSpec.pre6 enc Try.prog Try.f5 Rows.merkleJoinsRow.domain false) (Rows.merkleJoinsSpec.post enc Try.prog Try.f5 false true false false) := by
  refine returnsInHanded_of_change_sized (C := Try.checked) ownKnobs started (by kernel_rfl) Try.func5
    (ChangeSpec.witness6 (enc := enc) (C := Try.checked) false ⟨#[], #[.slice none 0 0], []⟩ 8 (by kernel_rfl) (by kernel_rfl) (by kernel_rfl) (by kernel_rfl)) ?_
  intro W base args ds gs before hval hW hcond hsz _
  have hW' := hW
  obtain ⟨p, q, hA0, hV, rfl, _, _⟩ := hW
  have hA : DataW.TrodAll enc Try.prog W 0 (fun _ => true) true Try.f5.params.toList args.toList ds p := hA0
  have hval' := hval
  rw [Try.params5] at hA hval' hsz
  obtain ⟨v0, d0, hargs, rfl, h0⟩ := trodAll_one hA
  obtain rfl : args = #[v0] := by cases args; simp_all
  obtain ⟨rfl, rfl⟩ := trodVars_none hV
  obtain ⟨a0, n0, c0, L0, rfl, hr0, -⟩ := rdD_of_trod (hval' 0 22 v0 rfl rfl) h0
  have b0 : n0 ≤ 2 ^ 42 := by
    obtain ⟨f, hf⟩ := h0
    have h1 := slice_len_d Try.underlying22 hf
    have h2 := dlen_size hsz (j := 0) (t := 22) (e := 25) rfl rfl Try.underlying22
    rw [show Try.checked.prog.bytesOf 25 = 32 from bytesDg] at h2
    simp only [reachBytes] at h2
    simp only at h1
    omega
  refine (Joins_any L0 a0 n0 c0 W b0 hr0).mono fun e W' ⟨he, hw⟩ => ?_
  subst he
  exact ⟨_, rfl, law_post laidOuts (by kernel_rfl) rfl Try.underlying4 rfl hW' hw rfl⟩

theorem merkleJoins_proved : Rows.MerkleJoinsSaid :=
  OpenClaim.holds_of_wide 5 Try.f5 rfl rfl rfl rfl rfl rfl rfl ⟨rfl, rfl, rfl, rfl, rfl⟩ rfl rfl rfl rfl rfl (by kernel_rfl) Try.func5 (by kernel_rfl)
    (of_decide_eq_true (by kernel_rfl)) (by unfold Func.isWrapper; first | (rw [if_pos (by decide +kernel)]; kernel_rfl) | (rw [if_neg (by decide +kernel)]; exact ⟨rfl, rfl⟩))
    (fun os started H enc _ => merkleJoins_lifted os started H enc)
end Go.Proofs.Ytpnhflpajccbbaa
