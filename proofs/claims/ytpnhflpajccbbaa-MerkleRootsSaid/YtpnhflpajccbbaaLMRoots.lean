/-
  MerkleRoots holds, whatever the arguments: the head of the leaves, of a part of them, and all levels are the document's, and the list handed in stays as it was.
-/
import Derived.Test.YtpnhflpajccbbaaMkZ
import Derived.Test.YtpnhflpajccbbaaMkT
import Derived.Test.YtpnhflpajccbbaaMlT
namespace Go.Proofs.Ytpnhflpajccbbaa
open Go.ChangeShapes Go.WideShapes Go.ChangeAt Go.RowKit

theorem merkleRoots_lifted (os : Os) (started : os.Started) (H : Type) (enc : TypeId × Value → H) :
    ReturnsInHanded {} Try.checked os 3 .any (Rows.merkleRootsSpec.pre6 enc Try.prog Try.f3 Rows.merkleRootsRow.domain false) (Rows.merkleRootsSpec.post enc Try.prog Try.f3 false true false false) := by
  refine returnsInHanded_of_change_sized (C := Try.checked) ownKnobs started (by kernel_rfl) Try.func3
    (ChangeSpec.witness6 (enc := enc) (C := Try.checked) false ⟨#[], #[.slice none 0 0, .int .i64 0, .int .i64 0], []⟩ 8 (by kernel_rfl) (by kernel_rfl) (by kernel_rfl) (by kernel_rfl)) ?_
  intro W base args ds gs before hval hW hcond hsz _
  have hW' := hW
  obtain ⟨p, q, hA0, hV, rfl, _, _⟩ := hW
  have hA : DataW.TrodAll enc Try.prog W 0 (fun _ => true) true Try.f3.params.toList args.toList ds p := hA0
  have hval' := hval
  rw [Try.params3] at hA hval' hsz
  obtain ⟨v0, v1, v2, d0, d1, d2, p0, p1, p2, hargs, rfl, rfl, h0, h1, h2⟩ := trodAll_three hA
  obtain rfl : args = #[v0, v1, v2] := by cases args; simp_all
  obtain ⟨rfl, rfl⟩ := trodVars_none hV
  obtain ⟨a0, n0, c0, L0, rfl, hr0, -⟩ := rdD_of_trod (hval' 0 22 v0 rfl rfl) h0
  have b0 : n0 ≤ 2 ^ 42 := by
    obtain ⟨f, hf⟩ := h0
    have h1 := slice_len_d Try.underlying22 hf
    have h2 := dlen_size hsz (j := 0) (t := 22) (e := 25) rfl rfl Try.underlying22
    rw [show Try.checked.prog.bytesOf 25 = 32 from bytesDg] at h2
    simp only [reachBytes] at h2
    simp only at h1
    omega
  obtain ⟨x1, rfl, -, -, -⟩ := open_int Try.underlying3 (hval' 1 3 v1 rfl rfl) h1
  obtain ⟨x2, rfl, -, -, -⟩ := open_int Try.underlying3 (hval' 2 3 v2 rfl rfl) h2
  refine (Roots_any L0 a0 n0 c0 x1 x2 W b0 hr0).mono fun e W' ⟨he, hw⟩ => ?_
  subst he
  exact ⟨_, rfl, law_post laidOuts (by kernel_rfl) rfl Try.underlying4 rfl hW' hw rfl⟩

theorem merkleRoots_proved : Rows.MerkleRootsSaid :=
  OpenClaim.holds_of_wide 3 Try.f3 rfl rfl rfl rfl rfl rfl rfl ⟨rfl, rfl, rfl, rfl, rfl⟩ rfl rfl rfl rfl rfl (by kernel_rfl) Try.func3 (by kernel_rfl)
    (of_decide_eq_true (by kernel_rfl)) (by unfold Func.isWrapper; first | (rw [if_pos (by decide +kernel)]; kernel_rfl) | (rw [if_neg (by decide +kernel)]; exact ⟨rfl, rfl⟩))
    (fun os started H enc _ => merkleRoots_lifted os started H enc)
end Go.Proofs.Ytpnhflpajccbbaa
