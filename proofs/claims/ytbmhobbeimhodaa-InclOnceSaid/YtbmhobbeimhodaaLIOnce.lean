/-
  InclOnce holds, whatever the arguments: two leaves that one path tells with one head are one, or two texts with one hash are at hand along the path.
-/
import Derived.Test.YtbmhobbeimhodaaIpO
import Derived.Test.YtbmhobbeimhodaaInW
namespace Go.Proofs.Ytbmhobbeimhodaa
open Go.ChangeShapes Go.WideShapes Go.ChangeAt Go.RowKit

theorem inclOnce_lifted (os : Os) (started : os.Started) (H : Type) (enc : TypeId × Value → H) :
    ReturnsInHanded {} Try.checked os 8 .any (Rows.inclOnceSpec.pre6 enc Try.prog Try.f8 Rows.inclOnceRow.domain false) (Rows.inclOnceSpec.post enc Try.prog Try.f8 false true false false) := by
  refine returnsInHanded_of_change_sized (C := Try.checked) ownKnobs started (by kernel_rfl) Try.func8
    (ChangeSpec.witness6 (enc := enc) (C := Try.checked) false ⟨#[], #[.agg (Array.replicate 32 (.int .u8 0)), .agg (Array.replicate 32 (.int .u8 0)), .agg (Array.replicate 32 (.int .u8 0) ++ #[.int .u64 0, .int .u64 0, .slice none 0 0] ++ Array.replicate 32 (.int .u8 0))], []⟩ 8 (by kernel_rfl) (by kernel_rfl) (by kernel_rfl) (by kernel_rfl)) ?_
  intro W base args ds gs before hval hW hcond hsz _
  have hW' := hW
  obtain ⟨p, q, hA0, hV, rfl, _, _⟩ := hW
  have hA : DataW.TrodAll enc Try.prog W 0 (fun _ => true) true Try.f8.params.toList args.toList ds p := hA0
  have hval' := hval
  rw [Try.params8] at hA hval' hsz
  obtain ⟨v0, v1, v2, d0, d1, d2, p0, p1, p2, hargs, rfl, rfl, h0, h1, h2⟩ := trodAll_three hA
  obtain rfl : args = #[v0, v1, v2] := by cases args; simp_all
  obtain ⟨rfl, rfl⟩ := trodVars_none hV
  obtain ⟨x0, lx0, rfl⟩ := dig_of_trod (hval' 0 41 v0 rfl rfl) h0
  obtain ⟨x1, lx1, rfl⟩ := dig_of_trod (hval' 1 41 v1 rfl rfl) h1
  have wk2 := wok_top hsz (j := 2) (t := 43) (d := d2) rfl rfl
  obtain ⟨x2, rfl, ht2⟩ := told_of_trod (hval' 2 43 v2 rfl rfl) h2 wk2
  refine (LOnce_any x0 x1 x2 W lx0 lx1 ht2).mono fun e W' ⟨he, hw⟩ => ?_
  subst he
  exact ⟨_, rfl, law_post laidOuts (by kernel_rfl) rfl Try.underlying4 rfl hW' hw rfl⟩

theorem inclOnce_proved : Rows.InclOnceSaid :=
  OpenClaim.holds_of_wide 8 Try.f8 rfl rfl rfl rfl rfl rfl rfl ⟨rfl, rfl, rfl, rfl, rfl⟩ rfl rfl rfl rfl rfl (by kernel_rfl) Try.func8 (by kernel_rfl)
    (of_decide_eq_true (by kernel_rfl)) (by unfold Func.isWrapper; first | (rw [if_pos (by decide +kernel)]; kernel_rfl) | (rw [if_neg (by decide +kernel)]; exact ⟨rfl, rfl⟩))
    (fun os started H enc _ => inclOnce_lifted os started H enc)
end Go.Proofs.Ytbmhobbeimhodaa
