/-
  Layer 7: the program's Sibling, Children, Beneath. Conditions: those in each statement.
-/
import Derived.Test.YtbhmgkpkagjmnaaPlC
namespace Go.Proofs.Ytbhmgkpkagjmnaa
open Go.RowKit

theorem eqGuard_sp (l i : Nat) (op : BinOp) (t : TypeId) (x y : Operand) (v : Value) : eqGuard op t x y (sp l i) v = pure () := by cases op <;> rfl
theorem run_eql_sp (l i m j : Nat) (h1 : l < 2 ^ 40) (h2 : i < 2 ^ 40) (h3 : m < 2 ^ 40) (h4 : j < 2 ^ 40) (t : TypeId) (w : World) : (binOp .eql t (sp l i) (sp m j)).run Try.prog w = .ok (.bool (decide (i = j) && decide (l = m))) w := by
  unfold sp
  rw [run_eql_complex, order_F _ _ (by omega) (by omega), order_F _ _ (by omega) (by omega)]

set_option maxHeartbeats 1600000 in
theorem Sibling_any (l i : Int) (w : World) (hi : 0 ≤ i) :
    Calls Try.prog 14 #[.agg #[.int .i64 l, .int .u64 i]] w fun e w' => e = .returned (.tuple #[.agg #[.int .i64 (slF l i), .int .u64 (siF l i)], .int .i64 (peF l i)]) ∧ Below w.heap.size w w' := by
  cases hm : pB l i with
  | false =>
    have e1 : slF l i = 0 := by simp [slF, hm]
    have e2 : siF l i = 0 := by simp [siF, hm]
    have e3 : peF l i = 1 := by simp [peF, hm]
    rw [e1, e2, e3]
    clear e1 e2 e3
    cases hm2 : mayB l i with
    | false =>
      clear hm
      go_enter Try.func14, Try.ntmps14
      go_wp2_with (first
        | (go_at_call 19; refine (May_any _ _ _).mono ?_; rintro _ w1 ⟨rfl, h1⟩; obtain ⟨c0, c1, hR, hB⟩ := box3 h1)
        | ((with_reducible show wpList _ _ _ (⟨none, .store _ _ _, _, _, _, _⟩ :: _) _ _); refine wl_store rfl 25 _ _ rfl (w.heap.size + 1) 0 rfl [.int .i64 0, .int .u64 0] rfl 25 _ hR infoNode (Nat.le_refl _) (two_one rfl rfl) ?_; intro w2 hR2 hg2 hs2; rw [two_store] at hR2))
      refine end_cell2 rfl (w.heap.size + 1) 25 [.int .i64 0, .int .u64 0] _ (.int .i64 1) rfl hR2 Try.underlying25 rfl infoNode rfl rfl ⟨rfl, ?_⟩
      exact (hB).grown hg2 hB.size (by intro k e; injection e with e; omega)

    | true =>
      obtain rfl : l = 20 := by
        simp [pB, hm2] at hm
        exact hm
      clear hm
      go_enter Try.func14, Try.ntmps14
      go_wp2_with (first
        | (go_at_call 19; refine (May_any _ _ _).mono ?_; rintro _ w1 ⟨rfl, h1⟩; obtain ⟨c0, c1, hR, hB⟩ := box3 h1)
        | ((with_reducible show wpList _ _ _ (⟨none, .store _ _ _, _, _, _, _⟩ :: _) _ _); refine wl_store rfl 25 _ _ rfl (w.heap.size + 1) 0 rfl [.int .i64 0, .int .u64 0] rfl 25 _ hR infoNode (Nat.le_refl _) (two_one rfl rfl) ?_; intro w2 hR2 hg2 hs2; rw [two_store] at hR2))
      refine end_cell2 rfl (w.heap.size + 1) 25 [.int .i64 0, .int .u64 0] _ (.int .i64 1) rfl hR2 Try.underlying25 rfl infoNode rfl rfl ⟨rfl, ?_⟩
      exact (hB).grown hg2 hB.size (by intro k e; injection e with e; omega)

  | true =>
    have hm2 : mayB l i = true := by
      simp [pB] at hm
      exact hm.1
    have hne : l ≠ 20 := by
      simp [pB] at hm
      exact hm.2
    obtain ⟨L, I, rfl, rfl, hL, hI, hb, hI2⟩ := mayB_cases l i hi hm2
    have e1 : slF L I = (L : Int) := by simp [slF, hm]
    have e3 : peF L I = 0 := by simp [peF, hm]
    rw [e1, e3]
    clear e1 e3
    have hne' : ¬ ((L : Int) = 20) := hne
    have hg0 := eqGuard_sp L I
    clear hb hne hI
    obtain ⟨k, hk | hk⟩ : ∃ k, I = 2 * k ∨ I = 2 * k + 1 := ⟨I / 2, by omega⟩
    · subst hk
      have e2 : siF L (2 * k : Nat) = 2 * (k : Int) + 1 := by
        have hm' : pB (L : Int) (2 * (k : Int)) = true := hm
        simp [siF, hm']
      rw [e2]
      clear e2 hm
      have hq := run_eql_sp L (2 * k) L (2 * k) (by omega) (by omega) (by omega) (by omega)
      simp only [decide_true, Bool.and_self] at hq
      go_enter Try.func14, Try.ntmps14
      go_wp2_with (first
        | (go_at_call 19; refine (May_any _ _ _).mono ?_; rintro _ w1 ⟨rfl, h1⟩; obtain ⟨c0, c1, hR, hB⟩ := box3 h1)
        | (go_at_call 29; refine (spotOf_any L (2 * k) _ (by omega) (by omega)).mono ?_; rintro _ w2 ⟨rfl, h2⟩)
        | (go_at_call 32; refine (up_even L k _ (by omega) (by omega)).mono ?_; rintro _ _ ⟨rfl, rfl⟩)
        | (go_at_call 34; refine (down'_any L k _ (by omega) (by omega)).mono ?_; rintro _ _ ⟨rfl, rfl⟩)
        | (go_at_call 35; refine (next_any L (2 * k) _ (by omega) (by omega)).mono ?_; rintro _ _ ⟨rfl, rfl⟩)
        | (go_at_call 33; refine (node_any L (2 * k + 1) _ (by omega) (by omega)).mono ?_; rintro _ w3 ⟨rfl, h3⟩; have hR3 := (hR.kept h2).kept h3)
        | ((with_reducible show wpList _ _ _ (⟨none, .store _ _ _, _, _, _, _⟩ :: _) _ _); refine wl_store rfl 25 _ _ rfl (w.heap.size + 1) 0 rfl [.int .i64 (L : Int), .int .u64 (2 * (k : Int) + 1)] rfl 25 _ hR3 infoNode (Nat.le_refl _) (two_one rfl rfl) ?_; intro w4 hR4 hg4 hs4; rw [two_store] at hR4))
      have z1 := h2.size
      have z2 := hB.size
      have z3 := h3.size
      refine end_cell2 rfl (w.heap.size + 1) 25 [.int .i64 (L : Int), .int .u64 (2 * (k : Int) + 1)] _ (.int .i64 0) rfl hR4 Try.underlying25 rfl infoNode rfl rfl ⟨rfl, ?_⟩
      exact (hB.trans ((h2.mono z2).trans (h3.mono (by omega)))).grown hg4 (by omega) (by intro k e; injection e with e; omega)

    · subst hk
      have e2 : siF L (2 * k + 1 : Nat) = 2 * (k : Int) := by
        have hm' : pB (L : Int) (2 * (k : Int) + 1) = true := hm
        simp [siF, hm']
      rw [e2]
      clear e2 hm
      have hq := run_eql_sp L (2 * k + 1) L (2 * k) (by omega) (by omega) (by omega) (by omega)
      simp only [show ¬ (2 * k + 1 = 2 * k) by omega, decide_false, Bool.false_and] at hq
      go_enter Try.func14, Try.ntmps14
      go_wp2_with (first
        | (go_at_call 19; refine (May_any _ _ _).mono ?_; rintro _ w1 ⟨rfl, h1⟩; obtain ⟨c0, c1, hR, hB⟩ := box3 h1)
        | (go_at_call 29; refine (spotOf_any L (2 * k + 1) _ (by omega) (by omega)).mono ?_; rintro _ w2 ⟨rfl, h2⟩)
        | (go_at_call 32; refine (up_odd L k _ (by omega) (by omega)).mono ?_; rintro _ _ ⟨rfl, rfl⟩)
        | (go_at_call 34; refine (down'_any L k _ (by omega) (by omega)).mono ?_; rintro _ _ ⟨rfl, rfl⟩)
        | (go_at_call 33; refine (node_any L (2 * k) _ (by omega) (by omega)).mono ?_; rintro _ w3 ⟨rfl, h3⟩; have hR3 := (hR.kept h2).kept h3)
        | ((with_reducible show wpList _ _ _ (⟨none, .store _ _ _, _, _, _, _⟩ :: _) _ _); refine wl_store rfl 25 _ _ rfl (w.heap.size + 1) 0 rfl [.int .i64 (L : Int), .int .u64 (2 * (k : Int))] rfl 25 _ hR3 infoNode (Nat.le_refl _) (two_one rfl rfl) ?_; intro w4 hR4 hg4 hs4; rw [two_store] at hR4))
      have z1 := h2.size
      have z2 := hB.size
      have z3 := h3.size
      refine end_cell2 rfl (w.heap.size + 1) 25 [.int .i64 (L : Int), .int .u64 (2 * (k : Int))] _ (.int .i64 0) rfl hR4 Try.underlying25 rfl infoNode rfl rfl ⟨rfl, ?_⟩
      exact (hB.trans ((h2.mono z2).trans (h3.mono (by omega)))).grown hg4 (by omega) (by intro k e; injection e with e; omega)


theorem end3_of {w w1 wa wb : World} {g : Nat} {T : TypeId} {xs : List Value} (hb : Below w.heap.size w w1) (hg : w1.grownBy wa (some (w.heap.size + 1))) (hg2 : wa.grownBy wb (some (w.heap.size + 1 + 1))) (hA : Arr wa g T xs) (hne : g ≠ w.heap.size + 1 + 1) : Arr wb g T xs ∧ Below w.heap.size w wb := by
  refine ⟨hA.grown hg2 (by intro e; injection e with e; omega), ?_⟩
  have h1 : Below w.heap.size w wa := hb.grown hg hb.size (by intro k e; injection e with e; omega)
  exact h1.grown hg2 h1.size (by intro k e; injection e with e; omega)

set_option maxHeartbeats 1600000 in
theorem Children_any (l i : Int) (w : World) (hi : 0 ≤ i) :
    Calls Try.prog 16 #[.agg #[.int .i64 l, .int .u64 i]] w fun e w' => e = .returned (.tuple #[.agg #[.int .i64 (clF l i), .int .u64 (caF l i)], .agg #[.int .i64 (clF l i), .int .u64 (cbF l i)], .int .i64 (ceF l i)]) ∧ Below w.heap.size w w' := by
  cases hm : cB l i with
  | false =>
    have e1 : clF l i = 0 := by simp [clF, hm]
    have e2 : caF l i = 0 := by simp [caF, hm]
    have e4 : cbF l i = 0 := by simp [cbF, hm]
    have e3 : ceF l i = 1 := by simp [ceF, hm]
    rw [e1, e2, e3, e4]
    clear e1 e2 e3 e4
    cases hm2 : mayB l i with
    | false =>
      clear hm
      go_enter Try.func16, Try.ntmps16
      go_wp2_with (first
        | (go_at_call 19; refine (May_any _ _ _).mono ?_; rintro _ w1 ⟨rfl, h1⟩; obtain ⟨c0, c1, hR, hS, hB⟩ := box4 h1)
        | ((with_reducible show wpList _ _ _ (⟨none, .store _ (.tmp 2) _, _, _, _, _⟩ :: _) _ _); refine wl_store rfl 25 _ _ rfl (w.heap.size + 1) 0 rfl [.int .i64 0, .int .u64 0] rfl 25 _ hR infoNode (Nat.le_refl _) (two_one rfl rfl) ?_; intro w2 hR2 hg2 hs2; rw [two_store] at hR2)
        | ((with_reducible show wpList _ _ _ (⟨none, .store _ (.tmp 3) _, _, _, _, _⟩ :: _) _ _); refine wl_store rfl 25 _ _ rfl (w.heap.size + 1 + 1) 0 rfl [.int .i64 0, .int .u64 0] rfl 25 _ (hS.grown hg2 (by intro e; injection e with e; omega)) infoNode (Nat.le_refl _) (two_one rfl rfl) ?_; intro w3 hR3 hg3 hs3; rw [two_store] at hR3))
      obtain ⟨hA, hW⟩ := end3_of hB hg2 hg3 hR2 (by omega)
      exact end_cell3 rfl (w.heap.size + 1) (w.heap.size + 1 + 1) 25 [.int .i64 0, .int .u64 0] [.int .i64 0, .int .u64 0] _ (.int .i64 1) rfl hA rfl hR3 Try.underlying25 rfl infoNode infoNode rfl rfl ⟨rfl, hW⟩
    | true =>
      obtain rfl : l = 0 := by
        simp [cB, hm2] at hm
        exact hm
      clear hm
      go_enter Try.func16, Try.ntmps16
      go_wp2_with (first
        | (go_at_call 19; refine (May_any _ _ _).mono ?_; rintro _ w1 ⟨rfl, h1⟩; obtain ⟨c0, c1, hR, hS, hB⟩ := box4 h1)
        | ((with_reducible show wpList _ _ _ (⟨none, .store _ (.tmp 2) _, _, _, _, _⟩ :: _) _ _); refine wl_store rfl 25 _ _ rfl (w.heap.size + 1) 0 rfl [.int .i64 0, .int .u64 0] rfl 25 _ hR infoNode (Nat.le_refl _) (two_one rfl rfl) ?_; intro w2 hR2 hg2 hs2; rw [two_store] at hR2)
        | ((with_reducible show wpList _ _ _ (⟨none, .store _ (.tmp 3) _, _, _, _, _⟩ :: _) _ _); refine wl_store rfl 25 _ _ rfl (w.heap.size + 1 + 1) 0 rfl [.int .i64 0, .int .u64 0] rfl 25 _ (hS.grown hg2 (by intro e; injection e with e; omega)) infoNode (Nat.le_refl _) (two_one rfl rfl) ?_; intro w3 hR3 hg3 hs3; rw [two_store] at hR3))
      obtain ⟨hA, hW⟩ := end3_of hB hg2 hg3 hR2 (by omega)
      exact end_cell3 rfl (w.heap.size + 1) (w.heap.size + 1 + 1) 25 [.int .i64 0, .int .u64 0] [.int .i64 0, .int .u64 0] _ (.int .i64 1) rfl hA rfl hR3 Try.underlying25 rfl infoNode infoNode rfl rfl ⟨rfl, hW⟩
  | true =>
    have hm2 : mayB l i = true := by
      simp [cB] at hm
      exact hm.1
    have hne : l ≠ 0 := by
      simp [cB] at hm
      exact hm.2
    obtain ⟨L0, I, rfl, rfl, hL, hI, hb, hI2⟩ := mayB_cases l i hi hm2
    obtain ⟨M, hM⟩ : ∃ M, L0 = M + 1 := ⟨L0 - 1, by omega⟩
    obtain ⟨J, hJ⟩ : ∃ J, J = 2 * I := ⟨_, rfl⟩
    have hJ2 : J < 2 ^ 30 := by omega
    have hM2 : M < 20 := by omega
    have e1 : clF L0 I = (M : Int) := by simp [clF, hm]; omega
    have e2 : caF L0 I = (J : Int) := by simp [caF, hm]; omega
    have e4 : cbF L0 I = (J : Int) + 1 := by simp [cbF, hm]; omega
    have e3 : ceF L0 I = 0 := by simp [ceF, hm]
    have hne' : ((L0 : Int) == 0) = false := by simp only [beq_eq_false_iff_ne]; exact hne
    have HD : ∀ w, Calls Try.prog 34 #[sp L0 I] w fun e w' => e = .returned (sp M J) ∧ w' = w := by
      intro w
      rw [hM, hJ]
      exact down'_any M I w (by omega) (by omega)
    have HN1 := fun w => node_any M J w (by omega) (by omega)
    have HN2 := fun w => node_any M (J + 1) w (by omega) (by omega)
    rw [e1, e2, e3, e4]
    clear e1 e2 e3 e4 hm hb hne hI hM hJ
    go_enter Try.func16, Try.ntmps16
    go_wp2_with (first
      | (go_at_call 19; refine (May_any _ _ _).mono ?_; rintro _ w1 ⟨rfl, h1⟩; obtain ⟨c0, c1, hR, hS, hB⟩ := box4 h1)
      | (go_at_call 29; refine (spotOf_any L0 I _ (by omega) (by omega)).mono ?_; rintro _ w2 ⟨rfl, h2⟩)
      | (go_at_call 34; refine (HD _).mono ?_; rintro _ _ ⟨rfl, rfl⟩)
      | (go_at_call 35; refine (next_any M J _ (by omega) (by omega)).mono ?_; rintro _ _ ⟨rfl, rfl⟩)
      | (go_at_call 33; with_reducible refine (HN1 _).mono ?_; rintro _ w3 ⟨rfl, h3⟩)
      | (go_at_call 33; with_reducible refine (HN2 _).mono ?_; rintro _ w4 ⟨rfl, h4⟩; have hR4 := ((hR.kept h2).kept h3).kept h4; have hS4 := ((hS.kept h2).kept h3).kept h4)
      | ((with_reducible show wpList _ _ _ (⟨none, .store _ (.tmp 2) _, _, _, _, _⟩ :: _) _ _); refine wl_store rfl 25 _ _ rfl (w.heap.size + 1) 0 rfl [.int .i64 (M : Int), .int .u64 (J : Int)] rfl 25 _ hR4 infoNode (Nat.le_refl _) (two_one rfl rfl) ?_; intro w5 hR5 hg5 hs5; rw [two_store] at hR5)
      | ((with_reducible show wpList _ _ _ (⟨none, .store _ (.tmp 3) _, _, _, _, _⟩ :: _) _ _); refine wl_store rfl 25 _ _ rfl (w.heap.size + 1 + 1) 0 rfl [.int .i64 (M : Int), .int .u64 ((J : Int) + 1)] rfl 25 _ (hS4.grown hg5 (by intro e; injection e with e; omega)) infoNode (Nat.le_refl _) (two_one rfl rfl) ?_; intro w6 hR6 hg6 hs6; rw [two_store] at hR6))
    have z1 := h2.size
    have z2 := hB.size
    have z3 := h3.size
    obtain ⟨hA, hW⟩ := end3_of (hB.trans ((h2.mono z2).trans ((h3.mono (by omega)).trans (h4.mono (by omega))))) hg5 hg6 hR5 (by omega)
    exact end_cell3 rfl (w.heap.size + 1) (w.heap.size + 1 + 1) 25 [.int .i64 (M : Int), .int .u64 (J : Int)] [.int .i64 (M : Int), .int .u64 ((J : Int) + 1)] _ (.int .i64 0) rfl hA rfl hR6 Try.underlying25 rfl infoNode infoNode rfl rfl ⟨rfl, hW⟩
end Go.Proofs.Ytbhmgkpkagjmnaa
