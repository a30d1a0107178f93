/-
  Layer 7: the document's answers: wide, May, Leaves, Parent, Sibling. Conditions: those in each statement.
-/
import Derived.Test.YtbhmgkpkagjmnaaPlE
import Derived.BigQuiet
import Derived.Deep.QuietTactic
namespace Go.Proofs.Ytbhmgkpkagjmnaa
open Go.RowKit

theorem infoRNode : (Try.prog.info? 24).map (·.size) = some 2 := by kernel_rfl
theorem belowN {B : Nat} {a w : World} (h : Below B a w) (n : Nat) : Below B a (w.drewN n) := h.trans ⟨rfl, rfl, rfl, Nat.le_refl _, fun _ _ => rfl⟩
theorem pow_le20 {k : Nat} (h : k ≤ 20) : 2 ^ k ≤ 2 ^ 20 := Nat.pow_le_pow_right (by omega) h

theorem wide_any (l : Nat) (w : World) (hl : l ≤ 20) :
    Calls Try.prog 31 #[.int .i64 (l : Int)] w fun e w' => e = .returned (.int .u64 ((2 ^ l : Nat) : Int)) ∧ w' = w := by
  obtain ⟨Y, hY⟩ : ∃ Y, Y = 2 ^ l := ⟨_, rfl⟩
  rw [← hY]
  have HY := Lib.hid hY
  clear hY
  go_enter Try.func31, Try.ntmps31
  go_wp2
  obtain ⟨w0, hw0⟩ : ∃ w0 : World, w0 = w := ⟨_, rfl⟩
  go_loopw [3, 4] (fun n i wr => ∃ k : Nat, k ≤ l ∧ i = .int .i64 k ∧ n = .int .u64 ((2 ^ k : Nat) : Int) ∧ wr = w0) (fun _ i _ => l - (intOf i).toNat)
  case atStart => exact ⟨0, Nat.zero_le _, rfl, rfl, hw0.symm⟩
  case round =>
    obtain ⟨k, hk, rfl, rfl, rfl⟩ := hrel
    have hp := pow_le20 (Nat.le_trans hk hl)
    have hp2 : 2 ^ (k + 1) = 2 * 2 ^ k := by rw [Nat.pow_succ, Nat.mul_comm]
    obtain ⟨X, hX⟩ : ∃ X, X = 2 ^ k := ⟨_, rfl⟩
    rw [← hX] at hp hp2 ⊢
    have H2 := Lib.hid hp2
    have HX := Lib.hid hX
    clear hp2 hX
    by_cases hlt : k < l
    · have hc : (k : Int) < (l : Int) := by omega
      go_wp2
      go_roundw
      case rel => exact ⟨k + 1, by omega, by go_num, by rw [H2.out]; go_num, hw0.symm⟩
      case measure => simp [intOf]; omega
    · obtain rfl : k = l := by omega
      have hc : ¬ ((k : Int) < (k : Int)) := by omega
      go_wp2
      go_ret
      exact ⟨by rw [HY.out, ← HX.out]; rfl, rfl⟩

theorem sub20 (L : Nat) (h : L ≤ 20) : (20 : Int) - (L : Int) = ((20 - L : Nat) : Int) := by omega
set_option maxHeartbeats 1600000 in
theorem rMay_any (l i : Int) (w : World) (hi : 0 ≤ i) :
    Calls Try.prog 20 #[.agg #[.int .i64 l, .int .u64 i]] w fun e w' => e = .returned (.bool (mayB l i)) ∧ Below w.heap.size w w' := by
  by_cases h0 : 0 ≤ l
  · by_cases h1 : l ≤ 20
    · obtain ⟨L, rfl⟩ := Int.eq_ofNat_of_zero_le h0
      obtain ⟨I, rfl⟩ := Int.eq_ofNat_of_zero_le hi
      have hL : L ≤ 20 := by omega
      have hm : mayB L I = decide (I < 2 ^ (20 - L)) := by
        rw [mayB_nat, show decide (L ≤ 20) = true from decide_eq_true hL, Bool.true_and]
      rw [hm]
      clear hm
      have hs := sub20 L hL
      have hd : decide ((L : Int) ≤ 20) = true := decide_eq_true (by omega)
      obtain ⟨D, hD⟩ : ∃ D, D = 20 - L := ⟨_, rfl⟩
      rw [← hD] at hs ⊢
      have HW := fun w => wide_any D w (by omega)
      obtain ⟨X, hX⟩ : ∃ X, X = 2 ^ D := ⟨_, rfl⟩
      rw [← hX] at HW ⊢
      clear hX hD
      go_enter Try.func20, Try.ntmps20
      go_upto_region 1 with fail
      go_quiet ((go_at_call 31; exact Calls.quiet_of_same (HW _)))
      go_wp2
      go_ret
      exact ⟨rfl, belowN ((Below.refl _ _).alloc (Nat.le_refl _) _) _⟩
    · have hm : mayB l i = false := by simp [mayB, h1]
      rw [hm]
      clear hm
      have h1' : decide (l ≤ 20) = false := decide_eq_false h1
      go_enter Try.func20, Try.ntmps20
      go_upto_region 1 with fail
      go_quiet (fail)
      go_wp2
      go_ret
      exact ⟨rfl, belowN ((Below.refl _ _).alloc (Nat.le_refl _) _) _⟩
  · have hm : mayB l i = false := by simp [mayB, h0]
    rw [hm]
    clear hm
    have h0' : decide (0 ≤ l) = false := decide_eq_false h0
    go_enter Try.func20, Try.ntmps20
    go_upto_region 1 with fail
    go_quiet (fail)
    go_wp2
    go_ret
    exact ⟨rfl, belowN ((Below.refl _ _).alloc (Nat.le_refl _) _) _⟩

set_option maxHeartbeats 1600000 in
theorem rLeaves_any (l i : Int) (w : World) (hi : 0 ≤ i) :
    Calls Try.prog 11 #[.agg #[.int .i64 l, .int .u64 i]] w fun e w' => e = .returned (.tuple #[.int .u64 (lfF l i), .int .u64 (lbF l i), .int .i64 (leF l i)]) ∧ Below w.heap.size w w' := by
  cases hm : mayB l i with
  | false =>
    have e1 : lfF l i = 0 := by simp [lfF, hm]
    have e2 : lbF l i = 0 := by simp [lbF, hm]
    have e3 : leF l i = 1 := by simp [leF, hm]
    rw [e1, e2, e3]
    clear e1 e2 e3
    go_enter Try.func11, Try.ntmps11
    go_wp2_with (go_at_call 20; refine (rMay_any l i _ hi).mono ?_; rintro _ w1 ⟨rfl, h1⟩; obtain ⟨c0, c1, h1⟩ := box2 h1)
    exact bodyPost_ret (results_tmp3 rfl _ _ _) rfl ⟨rfl, h1⟩
  | true =>
    obtain ⟨L, I, rfl, rfl, hL, hI, hb, hI2⟩ := mayB_cases l i hi hm
    have hb2 : I * 2 ^ L ≤ 2 ^ 20 := Nat.le_trans (Nat.mul_le_mul_right _ (Nat.le_succ I)) hb
    have e1 : lfF L I = ((I * 2 ^ L : Nat) : Int) := by simp [lfF, hm]
    have e2 : lbF L I = (((I + 1) * 2 ^ L : Nat) : Int) := by simp [lbF, hm]
    have e3 : leF L I = 0 := by simp [leF, hm]
    rw [e1, e2, e3]
    clear e1 e2 e3
    have HW := fun w => wide_any L w hL
    obtain ⟨X, hX⟩ : ∃ X, X = 2 ^ L := ⟨_, rfl⟩
    rw [← hX] at HW hb hb2 ⊢
    have k1 : Hid (IntKind.u64.wrap ((I : Int) * (X : Int)) = ((I * X : Nat) : Int)) := by
      show _ = _
      rw [IntKind.wrap_u64, show (I : Int) * (X : Int) = ((I * X : Nat) : Int) by push_cast; rfl]
      generalize I * X = n at *
      omega
    have k2 : Hid (IntKind.u64.wrap (((I : Int) + 1) * (X : Int)) = (((I + 1) * X : Nat) : Int)) := by
      show _ = _
      rw [IntKind.wrap_u64, show ((I : Int) + 1) * (X : Int) = (((I + 1) * X : Nat) : Int) by push_cast; rfl]
      generalize (I + 1) * X = n at *
      omega
    clear hX hb hb2
    go_enter Try.func11, Try.ntmps11
    go_upto_region 3 with (go_at_call 20; refine (rMay_any _ _ _ hi).mono ?_; rintro _ w1 ⟨rfl, h1⟩; obtain ⟨c0, c1, h1⟩ := box2 h1)
    go_quiet ((go_at_call 31; exact Calls.quiet_of_same (HW _)))
    rw [k1.out, k2.out]
    go_wp2
    exact bodyPost_ret (results_tmp3 rfl _ _ _) rfl ⟨rfl, belowN h1 _⟩

set_option maxHeartbeats 1600000 in
theorem rParent_any (l i : Int) (w : World) (hi : 0 ≤ i) :
    Calls Try.prog 13 #[.agg #[.int .i64 l, .int .u64 i]] w fun e w' => e = .returned (.tuple #[.agg #[.int .i64 (plF l i), .int .u64 (piF l i)], .int .i64 (peF l i)]) ∧ Below w.heap.size w w' := by
  cases hm : pB l i with
  | false =>
    have e1 : plF l i = 0 := by simp [plF, hm]
    have e2 : piF l i = 0 := by simp [piF, hm]
    have e3 : peF l i = 1 := by simp [peF, hm]
    rw [e1, e2, e3]
    clear e1 e2 e3
    cases hm2 : mayB l i with
    | false =>
      clear hm
      go_enter Try.func13, Try.ntmps13
      go_wp2_with (first
        | (go_at_call 20; refine (rMay_any _ _ _ (by first | assumption | omega)).mono ?_; rintro _ w1 ⟨rfl, h1⟩; obtain ⟨c0, c1, hR, hB⟩ := box3 h1)
        | ((with_reducible show wpList _ _ _ (⟨none, .store _ _ _, _, _, _, _⟩ :: _) _ _); refine wl_store rfl 24 _ _ rfl (w.heap.size + 1) 0 rfl [.int .i64 0, .int .u64 0] rfl 24 _ hR infoRNode (Nat.le_refl _) (two_one rfl rfl) ?_; intro w2 hR2 hg2 hs2; rw [two_store] at hR2))
      refine end_cell2 rfl (w.heap.size + 1) 24 [.int .i64 0, .int .u64 0] _ (.int .i64 1) rfl hR2 Try.underlying24 rfl infoRNode rfl rfl ⟨rfl, ?_⟩
      exact (hB).grown hg2 hB.size (by intro k e; injection e with e; omega)

    | true =>
      obtain rfl : l = 20 := by
        simp [pB, hm2] at hm
        exact hm
      clear hm
      go_enter Try.func13, Try.ntmps13
      go_wp2_with (first
        | (go_at_call 20; refine (rMay_any _ _ _ (by first | assumption | omega)).mono ?_; rintro _ w1 ⟨rfl, h1⟩; obtain ⟨c0, c1, hR, hB⟩ := box3 h1)
        | ((with_reducible show wpList _ _ _ (⟨none, .store _ _ _, _, _, _, _⟩ :: _) _ _); refine wl_store rfl 24 _ _ rfl (w.heap.size + 1) 0 rfl [.int .i64 0, .int .u64 0] rfl 24 _ hR infoRNode (Nat.le_refl _) (two_one rfl rfl) ?_; intro w2 hR2 hg2 hs2; rw [two_store] at hR2))
      refine end_cell2 rfl (w.heap.size + 1) 24 [.int .i64 0, .int .u64 0] _ (.int .i64 1) rfl hR2 Try.underlying24 rfl infoRNode rfl rfl ⟨rfl, ?_⟩
      exact (hB).grown hg2 hB.size (by intro k e; injection e with e; omega)

  | true =>
    have hm2 : mayB l i = true := by
      simp [pB] at hm
      exact hm.1
    have hne : l ≠ 20 := by
      simp [pB] at hm
      exact hm.2
    obtain ⟨L, I, rfl, rfl, hL, hI, hb, hI2⟩ := mayB_cases l i hi hm2
    have e1 : plF L I = (L : Int) + 1 := by simp [plF, hm]
    have e2 : piF L I = (I : Int) / 2 := by simp [piF, hm]
    have e3 : peF L I = 0 := by simp [peF, hm]
    rw [e1, e2, e3]
    clear e1 e2 e3 hm
    have hne' : ¬ ((L : Int) = 20) := hne
    clear hb hne hI
    go_enter Try.func13, Try.ntmps13
    go_wp2_with (first
      | (go_at_call 20; refine (rMay_any _ _ _ (by first | assumption | omega)).mono ?_; rintro _ w1 ⟨rfl, h1⟩; obtain ⟨c0, c1, hR, hB⟩ := box3 h1)
      | ((with_reducible show wpList _ _ _ (⟨none, .store _ _ _, _, _, _, _⟩ :: _) _ _); refine wl_store rfl 24 _ _ rfl (w.heap.size + 1) 0 rfl [.int .i64 ((L : Int) + 1), .int .u64 ((I : Int) / 2)] rfl 24 _ hR infoRNode (Nat.le_refl _) (two_one rfl rfl) ?_; intro w2 hR2 hg2 hs2; rw [two_store] at hR2))
    refine end_cell2 rfl (w.heap.size + 1) 24 [.int .i64 ((L : Int) + 1), .int .u64 ((I : Int) / 2)] _ (.int .i64 0) rfl hR2 Try.underlying24 rfl infoRNode rfl rfl ⟨rfl, ?_⟩
    exact (hB).grown hg2 hB.size (by intro k e; injection e with e; omega)


set_option maxHeartbeats 1600000 in
theorem rSibling_any (l i : Int) (w : World) (hi : 0 ≤ i) :
    Calls Try.prog 15 #[.agg #[.int .i64 l, .int .u64 i]] w fun e w' => e = .returned (.tuple #[.agg #[.int .i64 (slF l i), .int .u64 (siF l i)], .int .i64 (peF l i)]) ∧ Below w.heap.size w w' := by
  cases hm : pB l i with
  | false =>
    have e1 : slF l i = 0 := by simp [slF, hm]
    have e2 : siF l i = 0 := by simp [siF, hm]
    have e3 : peF l i = 1 := by simp [peF, hm]
    rw [e1, e2, e3]
    clear e1 e2 e3
    cases hm2 : mayB l i with
    | false =>
      clear hm
      go_enter Try.func15, Try.ntmps15
      go_wp2_with (first
        | (go_at_call 20; refine (rMay_any _ _ _ (by first | assumption | omega)).mono ?_; rintro _ w1 ⟨rfl, h1⟩; obtain ⟨c0, c1, hR, hB⟩ := box3 h1)
        | ((with_reducible show wpList _ _ _ (⟨none, .store _ _ _, _, _, _, _⟩ :: _) _ _); refine wl_store rfl 24 _ _ rfl (w.heap.size + 1) 0 rfl [.int .i64 0, .int .u64 0] rfl 24 _ hR infoRNode (Nat.le_refl _) (two_one rfl rfl) ?_; intro w2 hR2 hg2 hs2; rw [two_store] at hR2))
      refine end_cell2 rfl (w.heap.size + 1) 24 [.int .i64 0, .int .u64 0] _ (.int .i64 1) rfl hR2 Try.underlying24 rfl infoRNode rfl rfl ⟨rfl, ?_⟩
      exact (hB).grown hg2 hB.size (by intro k e; injection e with e; omega)

    | true =>
      obtain rfl : l = 20 := by
        simp [pB, hm2] at hm
        exact hm
      clear hm
      go_enter Try.func15, Try.ntmps15
      go_wp2_with (first
        | (go_at_call 20; refine (rMay_any _ _ _ (by first | assumption | omega)).mono ?_; rintro _ w1 ⟨rfl, h1⟩; obtain ⟨c0, c1, hR, hB⟩ := box3 h1)
        | ((with_reducible show wpList _ _ _ (⟨none, .store _ _ _, _, _, _, _⟩ :: _) _ _); refine wl_store rfl 24 _ _ rfl (w.heap.size + 1) 0 rfl [.int .i64 0, .int .u64 0] rfl 24 _ hR infoRNode (Nat.le_refl _) (two_one rfl rfl) ?_; intro w2 hR2 hg2 hs2; rw [two_store] at hR2))
      refine end_cell2 rfl (w.heap.size + 1) 24 [.int .i64 0, .int .u64 0] _ (.int .i64 1) rfl hR2 Try.underlying24 rfl infoRNode rfl rfl ⟨rfl, ?_⟩
      exact (hB).grown hg2 hB.size (by intro k e; injection e with e; omega)

  | true =>
    have hm2 : mayB l i = true := by
      simp [pB] at hm
      exact hm.1
    have hne : l ≠ 20 := by
      simp [pB] at hm
      exact hm.2
    obtain ⟨L, I, rfl, rfl, hL, hI, hb, hI2⟩ := mayB_cases l i hi hm2
    have e1 : slF L I = (L : Int) := by simp [slF, hm]
    have e3 : peF L I = 0 := by simp [peF, hm]
    rw [e1, e3]
    clear e1 e3
    have hne' : ¬ ((L : Int) = 20) := hne
    clear hb hne hI
    by_cases hp : (I : Int) % 2 = 0
    · have e2 : siF L I = (I : Int) + 1 := by simp [siF, hm, hp]
      rw [e2]
      clear e2 hm
      go_enter Try.func15, Try.ntmps15
      go_wp2_with (first
        | (go_at_call 20; refine (rMay_any _ _ _ (by first | assumption | omega)).mono ?_; rintro _ w1 ⟨rfl, h1⟩; obtain ⟨c0, c1, hR, hB⟩ := box3 h1)
        | ((with_reducible show wpList _ _ _ (⟨none, .store _ _ _, _, _, _, _⟩ :: _) _ _); refine wl_store rfl 24 _ _ rfl (w.heap.size + 1) 0 rfl [.int .i64 (L : Int), .int .u64 ((I : Int) + 1)] rfl 24 _ hR infoRNode (Nat.le_refl _) (two_one rfl rfl) ?_; intro w2 hR2 hg2 hs2; rw [two_store] at hR2))
      refine end_cell2 rfl (w.heap.size + 1) 24 [.int .i64 (L : Int), .int .u64 ((I : Int) + 1)] _ (.int .i64 0) rfl hR2 Try.underlying24 rfl infoRNode rfl rfl ⟨rfl, ?_⟩
      exact (hB).grown hg2 hB.size (by intro k e; injection e with e; omega)

    · have e2 : siF L I = (I : Int) - 1 := by simp [siF, hm, hp]
      have hI1 : (1 : Int) ≤ (I : Int) := by omega
      rw [e2]
      clear e2 hm
      go_enter Try.func15, Try.ntmps15
      go_wp2_with (first
        | (go_at_call 20; refine (rMay_any _ _ _ (by first | assumption | omega)).mono ?_; rintro _ w1 ⟨rfl, h1⟩; obtain ⟨c0, c1, hR, hB⟩ := box3 h1)
        | ((with_reducible show wpList _ _ _ (⟨none, .store _ _ _, _, _, _, _⟩ :: _) _ _); refine wl_store rfl 24 _ _ rfl (w.heap.size + 1) 0 rfl [.int .i64 (L : Int), .int .u64 ((I : Int) - 1)] rfl 24 _ hR infoRNode (Nat.le_refl _) (two_one rfl rfl) ?_; intro w2 hR2 hg2 hs2; rw [two_store] at hR2))
      refine end_cell2 rfl (w.heap.size + 1) 24 [.int .i64 (L : Int), .int .u64 ((I : Int) - 1)] _ (.int .i64 0) rfl hR2 Try.underlying24 rfl infoRNode rfl rfl ⟨rfl, ?_⟩
      exact (hB).grown hg2 hB.size (by intro k e; injection e with e; omega)

end Go.Proofs.Ytbhmgkpkagjmnaa
