/-
  SignSigns holds, whatever the arguments: any key's signature of any message, its log's number and whether any signature is right are the document's; what is handed in stays.
-/
import Derived.Test.YtebegdifnkifgaaSgO
import Derived.Test.YtebegdifnkifgaaSgT
namespace Go.Proofs.Ytebegdifnkifgaa
open Go.ChangeShapes Go.WideShapes Go.ChangeAt Go.RowKit

theorem signSigns_lifted (os : Os) (started : os.Started) (H : Type) (enc : TypeId × Value → H) :
    ReturnsInHanded {} Try.checked os 3 .any (Rows.signSignsSpec.pre6 enc Try.prog Try.f3 Rows.signSignsRow.domain false) (Rows.signSignsSpec.post enc Try.prog Try.f3 false true false false) := by
  refine returnsInHanded_of_change_sized (C := Try.checked) ownKnobs started (by kernel_rfl) Try.func3
    (ChangeSpec.witness6 (enc := enc) (C := Try.checked) false ⟨#[], #[.slice none 0 0, .slice none 0 0, .agg (bvs (Z8 64)).toArray], []⟩ 8 (by kernel_rfl) (by kernel_rfl) (by kernel_rfl) (by kernel_rfl)) ?_
  intro W base args ds gs before hval hW hcond hsz _
  have hW' := hW
  obtain ⟨p, q, hA0, hV, rfl, _, _⟩ := hW
  have hA : DataW.TrodAll enc Try.prog W 0 (fun _ => true) true Try.f3.params.toList args.toList ds p := hA0
  have hval' := hval
  rw [Try.params3] at hA hval' hsz
  obtain ⟨v0, v1, v2, d0, d1, d2, p0, p1, p2, hargs, rfl, rfl, h0, h1, h2⟩ := trodAll_three hA
  obtain rfl : args = #[v0, v1, v2] := by cases args; simp_all
  obtain ⟨rfl, rfl⟩ := trodVars_none hV
  obtain ⟨a0, l0, c0, rfl⟩ := okWide_slice Try.underlying22 (hval' 0 22 v0 rfl rfl)
  obtain ⟨f0, hf0⟩ := h0
  obtain ⟨pa0, n0, cap0, xs0, e0, hr0, hn0⟩ := rd_of_cells_d bt cells1 hf0 (fun _ => rfl)
  cases e0
  have b0 := dlen_reach hsz (j := 0) (t := 22) (e := 5) rfl rfl Try.underlying22 bytes1S
  simp only [reachBytes] at b0
  simp only at hn0
  obtain ⟨a1, l1, c1, rfl⟩ := okWide_slice Try.underlying22 (hval' 1 22 v1 rfl rfl)
  obtain ⟨f1, hf1⟩ := h1
  obtain ⟨pa1, n1, cap1, xs1, e1, hr1, hn1⟩ := rd_of_cells_d bt cells1 hf1 (fun _ => rfl)
  cases e1
  have b1 := dlen_reach hsz (j := 1) (t := 22) (e := 5) rfl rfl Try.underlying22 bytes1S
  simp only [reachBytes] at b1
  simp only at hn1
  obtain ⟨xs2, hx2, rfl⟩ := sig_of_trod (hval' 2 23 v2 rfl rfl) h2
  refine (Signs_law xs0 xs1 xs2 _ _ _ _ _ _ W (by omega) (by omega) hr0 hr1 hx2).mono fun e W' ⟨he, hw⟩ => ?_
  subst he
  exact ⟨_, rfl, law_post laidOuts (by kernel_rfl) rfl Try.underlying4 rfl hW' hw rfl⟩

theorem signSigns_proved : Rows.SignSignsSaid :=
  OpenClaim.holds_of_wide 3 Try.f3 rfl rfl rfl rfl rfl rfl rfl ⟨rfl, rfl, rfl, rfl, rfl⟩ rfl rfl rfl rfl rfl (by kernel_rfl) Try.func3 (by kernel_rfl)
    (of_decide_eq_true (by kernel_rfl)) (by unfold Func.isWrapper; first | (rw [if_pos (by decide +kernel)]; kernel_rfl) | (rw [if_neg (by decide +kernel)]; exact ⟨rfl, rfl⟩))
    (fun os started H enc _ => signSigns_lifted os started H enc)
end Go.Proofs.Ytebegdifnkifgaa
