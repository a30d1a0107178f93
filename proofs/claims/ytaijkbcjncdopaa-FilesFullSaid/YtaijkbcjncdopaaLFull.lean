/-
  FilesFull holds: what does not fit is not appended, and nothing has changed; what fits just so is.
-/
import Derived.Test.YtaijkbcjncdopaaFiT
import Derived.Test.YtaijkbcjncdopaaSized
namespace Go.Proofs.Ytaijkbcjncdopaa
open Go.ChangeShapes Go.WideShapes Go.ChangeAt Go.RowKit

set_option maxRecDepth 100000 in
theorem filesFull_lifted (os : Os) (started : os.Started) (H : Type) (enc : TypeId × Value → H) :
    ReturnsInHanded {} Try.checked os 4 .any (Rows.filesFullSpec.pre6 enc Try.prog Try.f4 Rows.filesFullRow.domain false) (Rows.filesFullSpec.post enc Try.prog Try.f4 false true false false) := by
  refine returnsInHanded_of_change_sized (C := Try.checked) ownKnobs started (by kernel_rfl) Try.func4
    (ChangeSpec.witness6 (enc := enc) (C := Try.checked) false ⟨#[], #[.int .u16 0, .slice none 0 0], []⟩ 8 (by kernel_rfl) (by kernel_rfl) (by kernel_rfl) (by kernel_rfl)) ?_
  intro W base args ds gs before hval hW hcond hsz _
  have hW' := hW
  obtain ⟨p, q, hA0, hV, rfl, _, _⟩ := hW
  have hA : DataW.TrodAll enc Try.prog W 0 (fun _ => true) true Try.f4.params.toList args.toList ds p := hA0
  have hval' := hval
  rw [Try.params4] at hA hval' hsz
  obtain ⟨v0, v1, d0, d1, p0, p1, hargs, rfl, rfl, h0, h1⟩ := trodAll_two hA
  obtain rfl : args = #[v0, v1] := by cases args; simp_all
  obtain ⟨rfl, rfl⟩ := trodVars_none hV
  obtain ⟨_, rfl, -, -, w0⟩ := open_int Try.underlying55 (hval' 0 55 v0 rfl rfl) h0
  obtain ⟨x0, rfl, lt0⟩ := wf_n16 w0
  obtain ⟨a1, n1, c1, L1, rfl, hr1, hn1⟩ := rdR_of_trod (hval' 1 56 v1 rfl rfl) h1 (fun _ => rfl) (fun l r e x hx => by
    subst e
    have h2 := dlen_inner hsz (j := 1) (t := 56) (e := 31) (e2 := 5) rfl rfl Try.underlying56 Try.underlying31 hx
    rw [show Try.checked.prog.bytesOf 5 = 1 from bytesU8] at h2
    simp only [reachBytes] at h2
    omega)
  have b1 : n1 ≤ 5900000000000 := by
    have h2 := dlen_size hsz (j := 1) (t := 56) (e := 31) rfl rfl Try.underlying56
    rw [show Try.checked.prog.bytesOf 31 = 24 from bytesRw] at h2
    simp only [reachBytes] at h2
    omega
  refine (Full_any W x0 (Nat.lt_succ_of_le lt0) a1 n1 c1 L1 hr1 b1).mono fun e W' ⟨he, hw⟩ => ?_
  subst he
  exact ⟨_, rfl, law_post laidOuts (by kernel_rfl) rfl Try.underlying4 rfl hW' hw rfl⟩

theorem filesFull_proved : Rows.FilesFullSaid :=
  OpenClaim.holds_of_wide 4 Try.f4 rfl rfl rfl rfl rfl rfl rfl ⟨rfl, rfl, rfl, rfl, rfl⟩ rfl rfl rfl rfl rfl (by kernel_rfl) Try.func4 (by kernel_rfl)
    (of_decide_eq_true (by kernel_rfl)) (by unfold Func.isWrapper; first | (rw [if_pos (by decide +kernel)]; kernel_rfl) | (rw [if_neg (by decide +kernel)]; exact ⟨rfl, rfl⟩))
    (fun os started H enc _ => filesFull_lifted os started H enc)
end Go.Proofs.Ytaijkbcjncdopaa
