/-
  SignMarks holds, whatever the arguments: any signature's mark and any bytes as a mark are the document's; the arguments read as they did.
-/
import Derived.Test.YtebegdifnkifgaaSgN
import Derived.Test.YtebegdifnkifgaaSgT
namespace Go.Proofs.Ytebegdifnkifgaa
open Go.ChangeShapes Go.WideShapes Go.ChangeAt Go.RowKit

theorem signMarks_lifted (os : Os) (started : os.Started) (H : Type) (enc : TypeId × Value → H) :
    ReturnsInHanded {} Try.checked os 4 .any (Rows.signMarksSpec.pre6 enc Try.prog Try.f4 Rows.signMarksRow.domain false) (Rows.signMarksSpec.post enc Try.prog Try.f4 false true false false) := by
  refine returnsInHanded_of_change_sized (C := Try.checked) ownKnobs started (by kernel_rfl) Try.func4
    (ChangeSpec.witness6 (enc := enc) (C := Try.checked) false ⟨#[], #[.agg (bvs (Z8 64)).toArray, .slice none 0 0], []⟩ 8 (by kernel_rfl) (by kernel_rfl) (by kernel_rfl) (by kernel_rfl)) ?_
  intro W base args ds gs before hval hW hcond hsz _
  have hW' := hW
  obtain ⟨p, q, hA0, hV, rfl, _, _⟩ := hW
  have hA : DataW.TrodAll enc Try.prog W 0 (fun _ => true) true Try.f4.params.toList args.toList ds p := hA0
  have hval' := hval
  rw [Try.params4] at hA hval' hsz
  obtain ⟨v0, v1, d0, d1, p0, p1, hargs, rfl, rfl, h0, h1⟩ := trodAll_two hA
  obtain rfl : args = #[v0, v1] := by cases args; simp_all
  obtain ⟨rfl, rfl⟩ := trodVars_none hV
  obtain ⟨xs0, hx0, rfl⟩ := sig_of_trod (hval' 0 23 v0 rfl rfl) h0
  obtain ⟨a1, l1, c1, rfl⟩ := okWide_slice Try.underlying22 (hval' 1 22 v1 rfl rfl)
  obtain ⟨f1, hf1⟩ := h1
  obtain ⟨pa1, n1, cap1, xs1, e1, hr1, hn1⟩ := rd_of_cells_d bt cells1 hf1 (fun _ => rfl)
  cases e1
  have b1 := dlen_reach hsz (j := 1) (t := 22) (e := 5) rfl rfl Try.underlying22 bytes1S
  simp only [reachBytes] at b1
  simp only at hn1
  refine (Marks_law xs0 xs1 _ _ _ W hx0 hr1).mono fun e W' ⟨he, hw⟩ => ?_
  subst he
  exact ⟨_, rfl, law_post laidOuts (by kernel_rfl) rfl Try.underlying4 rfl hW' hw rfl⟩

theorem signMarks_proved : Rows.SignMarksSaid :=
  OpenClaim.holds_of_wide 4 Try.f4 rfl rfl rfl rfl rfl rfl rfl ⟨rfl, rfl, rfl, rfl, rfl⟩ rfl rfl rfl rfl rfl (by kernel_rfl) Try.func4 (by kernel_rfl)
    (of_decide_eq_true (by kernel_rfl)) (by unfold Func.isWrapper; first | (rw [if_pos (by decide +kernel)]; kernel_rfl) | (rw [if_neg (by decide +kernel)]; exact ⟨rfl, rfl⟩))
    (fun os started H enc _ => signMarks_lifted os started H enc)
end Go.Proofs.Ytebegdifnkifgaa
