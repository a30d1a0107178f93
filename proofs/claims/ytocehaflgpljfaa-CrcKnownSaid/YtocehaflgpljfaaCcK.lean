/-
  CrcKnown, as a call. Conditions: those in each statement.
-/
import Derived.Test.YtocehaflgpljfaaCrI
namespace Go.Proofs.Ytocehaflgpljfaa
open Go.RowKit

theorem take0 : takeF [] = none := by
  unfold takeF
  rw [if_neg (by simp)]
theorem sum0 : sumF [] = 0#32 := moreF_nil _
set_option maxHeartbeats 1600000 in
set_option maxRecDepth 100000 in
theorem Known_any (w : World) : Calls Try.prog 8 #[] w fun e w' => e = .returned (.bool true) ∧ Below w.heap.size w w' := by
  have hnone := fun (w : World) => Rd.none w
  go_enter Try.func8, Try.ntmps8
  go_wp2_with fail
  have HT := Take_any none 0 0 [] w (by omega) (Rd.none w)
  rw [take0] at HT
  refine HT.mono ?_
  clear HT
  rintro e w1 ⟨a1, n1, c1, rfl, -, hb1⟩
  go_wp2_with fail
  refine (Put_any none 0 0 [] w1 (by omega) (Rd.none w1)).mono ?_
  rintro e w2 ⟨a2, c2, rfl, hr2, hb2⟩
  have HT := Take_any _ _ _ _ w2 (by omega) hr2
  rw [takeF_put] at HT
  have hb02 := hb1.trans (hb2.mono hb1.size)
  clear hb1 hb2 hr2
  go_wp2_with fail
  refine HT.mono ?_
  clear HT
  rintro e w3 ⟨a3, n3, c3, rfl, hr3, hb3⟩
  obtain rfl : n3 = 0 := by have := hr3.len; simpa using this.symm
  have hb03 := hb02.trans (hb3.mono hb02.size)
  clear hr3 hb02 hb3
  go_wp2_with fail
  have HS := Sum_any none 0 0 [] w3 (by omega) (Rd.none w3)
  rw [sum0] at HS
  refine HS.mono ?_
  clear HS
  rintro e w4 ⟨rfl, rfl⟩
  go_wp2_with fail
  have HM := More_any 5#32 none 0 0 [] w3 (by omega) (Rd.none w3)
  rw [moreF_nil] at HM
  refine HM.mono ?_
  clear HM
  rintro e w4 ⟨rfl, rfl⟩
  go_wp2_with fail
  have HS := Sum_any _ 1 _ _ _ (by omega) (rd_lit w3 [0] 5)
  rw [show sumF [0] = 3523407757#32 by decide +kernel] at HS
  refine HS.mono ?_
  clear HS
  rintro e w4 ⟨rfl, hw4⟩
  have hb34 : Below w3.heap.size w3 w4 := by rw [← hw4]; exact (Below.refl _ _).alloc (Nat.le_refl _) _
  have hb04 := hb03.trans (hb34.mono hb03.size)
  clear hw4 hb34 hb03
  go_wp2_with fail
  have HS := Sum_any _ 2 _ _ _ (by omega) (rd_lit w4 [0, 0] 5)
  rw [show sumF [0, 0] = 1104745215#32 by decide +kernel] at HS
  refine HS.mono ?_
  clear HS
  rintro e w5 ⟨rfl, hw5⟩
  have hb45 : Below w4.heap.size w4 w5 := by rw [← hw5]; exact (Below.refl _ _).alloc (Nat.le_refl _) _
  have hb05 := hb04.trans (hb45.mono hb04.size)
  clear hw5 hb45 hb04
  go_wp2_with fail
  refine (wakes_any _).mono ?_
  rintro e w6 ⟨rfl, hb6⟩
  go_wp2_with fail
  go_ret
  exact ⟨rfl, hb05.trans (hb6.mono hb05.size)⟩
end Go.Proofs.Ytocehaflgpljfaa
