/-
  ConsistChains holds, whatever the arguments: proofs of beginnings of beginnings go on.
-/
import Derived.Test.YtcnnblhjgligbaaCpH
import Derived.Test.YtcnnblhjgligbaaMgT
namespace Go.Proofs.Ytcnnblhjgligbaa
open Go.ChangeShapes Go.WideShapes Go.ChangeAt Go.RowKit

theorem consistChains_lifted (os : Os) (started : os.Started) (H : Type) (enc : TypeId × Value → H) :
    ReturnsInHanded {} Try.checked os 8 .any (Rows.consistChainsSpec.pre6 enc Try.prog Try.f8 Rows.consistChainsRow.domain false) (Rows.consistChainsSpec.post enc Try.prog Try.f8 false true false false) := by
  refine returnsInHanded_of_change_sized (C := Try.checked) ownKnobs started (by kernel_rfl) Try.func8
    (ChangeSpec.witness6 (enc := enc) (C := Try.checked) false ⟨#[], #[.slice none 0 0, .int .u64 0, .int .u64 0], []⟩ 8 (by kernel_rfl) (by kernel_rfl) (by kernel_rfl) (by kernel_rfl)) ?_
  intro W base args ds gs before hval hW hcond hsz _
  have hW' := hW
  obtain ⟨p, q, hA0, hV, rfl, _, _⟩ := hW
  have hA : DataW.TrodAll enc Try.prog W 0 (fun _ => true) true Try.f8.params.toList args.toList ds p := hA0
  have hval' := hval
  rw [Try.params8] at hA hval' hsz
  obtain ⟨v0, v1, v2, d0, d1, d2, p0, p1, p2, hargs, rfl, rfl, h0, h1, h2⟩ := trodAll_three hA
  obtain rfl : args = #[v0, v1, v2] := by cases args; simp_all
  obtain ⟨rfl, rfl⟩ := trodVars_none hV
  obtain ⟨a0, n0, c0, L0, rfl, hr0, -⟩ := rdD_of_trod (hval' 0 33 v0 rfl rfl) h0
  have b0 : n0 ≤ 2 ^ 42 := by
    obtain ⟨f, hf⟩ := h0
    have h1 := slice_len_d Try.underlying33 hf
    have h2 := dlen_size hsz (j := 0) (t := 33) (e := 41) rfl rfl Try.underlying33
    rw [show Try.checked.prog.bytesOf 41 = 32 from bytesDg] at h2
    simp only [reachBytes] at h2
    simp only at h1
    omega
  obtain ⟨_, rfl, -, -, w1⟩ := open_int Try.underlying22 (hval' 1 22 v1 rfl rfl) h1
  obtain ⟨x1, rfl⟩ := wf_n64 w1
  obtain ⟨_, rfl, -, -, w2⟩ := open_int Try.underlying22 (hval' 2 22 v2 rfl rfl) h2
  obtain ⟨x2, rfl⟩ := wf_n64 w2
  refine (LChains_any L0 a0 n0 c0 x1 x2 W hr0).mono fun e W' ⟨he, hw⟩ => ?_
  subst he
  exact ⟨_, rfl, law_post laidOuts (by kernel_rfl) rfl Try.underlying4 rfl hW' hw rfl⟩

theorem consistChains_proved : Rows.ConsistChainsSaid :=
  OpenClaim.holds_of_wide 8 Try.f8 rfl rfl rfl rfl rfl rfl rfl ⟨rfl, rfl, rfl, rfl, rfl⟩ rfl rfl rfl rfl rfl (by kernel_rfl) Try.func8 (by kernel_rfl)
    (of_decide_eq_true (by kernel_rfl)) (by unfold Func.isWrapper; first | (rw [if_pos (by decide +kernel)]; kernel_rfl) | (rw [if_neg (by decide +kernel)]; exact ⟨rfl, rfl⟩))
    (fun os started H enc _ => consistChains_lifted os started H enc)
end Go.Proofs.Ytcnnblhjgligbaa
