/-
  Layer 14: what the chapter's rows say. Conditions: those in each statement.
-/
import Derived.Test.YtocehaflgpljfaaCrF
import Derived.Lib.SlBytesConst
namespace Go.Proofs.Ytocehaflgpljfaa
open Go.RowKit

theorem sum19 : sumF [49, 50, 51, 52, 53, 54, 55, 56, 57] = 0xcbf43926#32 := by decide +kernel
theorem sum39 : moreF (sumF [49, 50, 51]) [52, 53, 54, 55, 56, 57] = 0xcbf43926#32 := by decide +kernel
theorem take3 : takeF [97, 98, 99] = none := by
  unfold takeF
  rw [if_neg (by simp)]
set_option maxHeartbeats 1600000 in
set_option maxRecDepth 100000 in
theorem wakes_any (w : World) : Calls Try.prog 12 #[] w fun e w' => e = .returned (.bool true) ∧ Below w.heap.size w w' := by
  have kc := fun (w : World) (C : Array Value) (n c : Nat) => Lib.run_convert_bytes_const (P := Try.prog) w 22 5 C n c Try.underlying22 Try.underlying5
  go_enter Try.func12, Try.ntmps12
  go_wp2_with fail
  refine (Put_any _ 2 _ [97, 98] _ (by omega) (rd_lit w [97, 98] 5 (2, 3))).mono ?_
  rintro e w1 ⟨a1, c1, rfl, hr1, hb1⟩
  have HT := Take_any _ _ _ _ w1 (by omega) hr1
  rw [takeF_put] at HT
  have hb01 : Below w.heap.size w w1 := ((Below.refl _ _).alloc (Nat.le_refl _) _).trans (hb1.mono (by simp))
  clear hb1 hr1
  go_wp2_with fail
  refine HT.mono ?_
  rintro e w2 ⟨a2, n2, c2, rfl, hr2, hb2⟩
  have hb02 := hb01.trans (hb2.mono hb01.size)
  have HR2 := Lib.hid (show Rd w2 a2 n2 c2 [97, 98] from hr2)
  clear HT hr2 hb2 hb01
  go_wp2_with fail
  have HT3 := Take_any _ 3 _ _ _ (by omega) (rd_lit w2 [97, 98, 99] 5 (3, 4))
  rw [take3] at HT3
  refine HT3.mono ?_
  rintro e w3 ⟨a3, n3, c3, rfl, -, hb3⟩
  have hb23 : Below w2.heap.size w2 w3 := ((Below.refl _ _).alloc (Nat.le_refl _) _).trans (hb3.mono (by simp))
  have hb03 := hb02.trans (hb23.mono hb02.size)
  have HR3 := Lib.hid (HR2.out.to hb23)
  clear HT3 hb3 hb23 hb02 HR2
  go_wp2_with fail
  have HS := Sum_any _ 9 _ _ _ (by omega) (rd_lit w3 [49, 50, 51, 52, 53, 54, 55, 56, 57] 5 (9, 10))
  rw [sum19] at HS
  refine HS.mono ?_
  clear HS
  rintro e w4 ⟨rfl, hw4⟩
  have hb34 : Below w3.heap.size w3 w4 := by rw [← hw4]; exact (Below.refl _ _).alloc (Nat.le_refl _) _
  have hb04 := hb03.trans (hb34.mono hb03.size)
  have HR4 := Lib.hid (HR3.out.to hb34)
  clear hw4 hb34 HR3 hb03
  go_wp2_with fail
  refine (Sum_any _ 3 _ _ _ (by omega) (rd_lit w4 [49, 50, 51] 5 (3, 4))).mono ?_
  rintro e w5 ⟨rfl, hw5⟩
  have hb45 : Below w4.heap.size w4 w5 := by rw [← hw5]; exact (Below.refl _ _).alloc (Nat.le_refl _) _
  have hb05 := hb04.trans (hb45.mono hb04.size)
  have HR5 := Lib.hid (HR4.out.to hb45)
  clear hw5 hb45 HR4 hb04
  obtain ⟨X, hX⟩ : ∃ X, X = sumF [49, 50, 51] := ⟨_, rfl⟩
  rw [← hX]
  have hs := sum39
  rw [← hX] at hs
  have HX := Lib.hid hs
  clear hX hs
  go_wp2_with fail
  have HM := More_any X _ 6 _ _ _ (by omega) (rd_lit w5 [52, 53, 54, 55, 56, 57] 5 (6, 7))
  rw [HX.out] at HM
  refine HM.mono ?_
  clear HM
  rintro e w6 ⟨rfl, hw6⟩
  have hb56 : Below w5.heap.size w5 w6 := by rw [← hw6]; exact (Below.refl _ _).alloc (Nat.le_refl _) _
  have hb06 := hb05.trans (hb56.mono hb05.size)
  have hst := run_bstr bt Try.underlying9 (HR5.out.to hb56)
  clear hw6 hb56 HR5 hb05
  have hbl := bstr_toList [97, 98]
  go_wp2_with fail
  go_ret
  exact ⟨rfl, hb06⟩
end Go.Proofs.Ytocehaflgpljfaa
