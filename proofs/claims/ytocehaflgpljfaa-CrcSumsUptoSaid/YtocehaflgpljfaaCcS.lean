/-
  CrcSums, as a call. Conditions: those in each statement.
-/
import Derived.Test.YtocehaflgpljfaaCrI
import Derived.Test.YtocehaflgpljfaaCrG
namespace Go.Proofs.Ytocehaflgpljfaa
open Go.RowKit

set_option maxHeartbeats 1600000 in
set_option maxRecDepth 100000 in
theorem Sums_any (p : Option Addr) (n cap : Nat) (xs : List UInt8) (p' : Option Addr) (m cap' : Nat) (ys : List UInt8) (w : World) (hn : n + m ≤ 140737488351232) (hr : Rd w p n cap xs) (hr' : Rd w p' m cap' ys) :
    Calls Try.prog 3 #[.slice p n cap, .slice p' m cap'] w fun e w' => e = .returned (.bool true) ∧ Below w.heap.size w w' := by
  have hl := hr.len
  have hl' := hr'.len
  subst hl hl'
  have HR := Lib.hid hr
  have HR' := Lib.hid hr'
  clear hr hr'
  go_enter Try.func3, Try.ntmps3
  go_upto_region 3 with (first
    | ((with_reducible show wpList _ _ _ (⟨some 9, _, _, _, _, _⟩ :: _) _ _); go_loud (refine wl_append bt rfl _ _ rfl w.heap.size _ [] (Own.nil _ _ _) rfl p _ cap xs rfl HR.out (by simp; omega) (Nat.le_refl _) ?_); intro v1 w1 ho1 hb1; rw [List.nil_append] at ho1)
    | ((with_reducible show wpList _ _ _ (⟨some 11, _, _, _, _, _⟩ :: _) _ _); go_loud (refine wl_append bt rfl _ _ rfl w1.heap.size _ [] (Own.nil _ _ _) rfl p' _ cap' ys rfl (HR'.out.to hb1) (by simp; omega) (Nat.le_refl _) ?_); intro v2 w2 ho2 hb2; rw [List.nil_append] at ho2)
    | ((with_reducible show wpList _ _ _ (⟨some 13, _, _, _, _, _⟩ :: _) _ _); go_loud (refine wl_append bt rfl _ _ rfl w2.heap.size _ [] (Own.nil _ _ _) rfl p _ cap xs rfl (HR.out.to (hb1.trans (hb2.mono hb1.size))) (by simp; omega) (Nat.le_refl _) ?_); intro v3 w3 ho3 hb3; rw [List.nil_append] at ho3)
    | ((with_reducible show wpList _ _ _ (⟨some 15, _, _, _, _, _⟩ :: _) _ _); go_loud (refine wl_append bt rfl _ _ rfl w2.heap.size _ xs ho3 rfl p' _ cap' ys rfl (HR'.out.to (hb1.trans ((hb2.trans (hb3.mono hb2.size)).mono hb1.size))) (by omega) hb3.size ?_); intro v4 w4 ho4 hb4))
  have z1 := hb1.size
  have z2 := hb2.size
  have hb24 := hb3.trans hb4
  have b14 := hb2.trans (hb24.mono z2)
  have b04 := hb1.trans (b14.mono z1)
  obtain ⟨a1, c1, rfl, -⟩ := ho1.shape
  obtain ⟨a2, c2, rfl, -⟩ := ho2.shape
  obtain ⟨a4, c4, rfl, -⟩ := ho4.shape
  have r1 := ((ho1.to hb2).to hb24).rd.toRd
  have r2 := (ho2.to hb24).rd.toRd
  have r4 := ho4.rd.toRd
  rw [List.length_append] at r4
  have rx := HR.out.to b04
  have ry := HR'.out.to b04
  have H1 := Sum_any _ _ _ _ w4 (by omega) r1
  have H2 := rSum_any _ _ _ _ w4 (by omega) rx
  have H3 := More_any (sumF xs) _ _ _ _ w4 (by omega) r2
  rw [moreF_sum] at H3
  have H4 := rSum_any _ _ _ _ w4 (by omega) r4
  have s1 := run_bstr bt Try.underlying9 r1
  have s2 := run_bstr bt Try.underlying9 rx
  have s3 := run_bstr bt Try.underlying9 r2
  have s4 := run_bstr bt Try.underlying9 ry
  have HW := wakes_any w4
  have B04 := Lib.hid b04
  obtain ⟨X, hX⟩ : ∃ X, X = sumF xs := ⟨_, rfl⟩
  obtain ⟨Z, hZ⟩ : ∃ Z, Z = sumF (xs ++ ys) := ⟨_, rfl⟩
  rw [← hX] at H1 H2 H3
  rw [← hZ] at H3 H4
  clear HR HR' ho1 ho2 ho3 ho4 hb1 hb2 hb3 hb4 z1 z2 hb24 b14 b04 r1 r2 r4 rx ry hX hZ
  go_wp2_with fail
  refine H1.mono ?_
  rintro e w5 ⟨rfl, rfl⟩
  go_wp2_with fail
  refine H2.mono ?_
  rintro e w5 ⟨rfl, rfl⟩
  go_wp2_with fail
  refine H1.mono ?_
  rintro e w5 ⟨rfl, rfl⟩
  go_wp2_with fail
  refine H3.mono ?_
  rintro e w5 ⟨rfl, rfl⟩
  go_wp2_with fail
  refine H4.mono ?_
  rintro e w5 ⟨rfl, rfl⟩
  clear H1 H2 H3 H4
  go_wp2_with fail
  refine HW.mono ?_
  rintro e w5 ⟨rfl, hb5⟩
  go_wp2_with fail
  go_ret
  exact ⟨rfl, B04.out.trans (hb5.mono B04.out.size)⟩
end Go.Proofs.Ytocehaflgpljfaa
