/-
  Layer 7: the document's Children, Beneath. Conditions: those in each statement.
-/
import Derived.Test.YtbhmgkpkagjmnaaPlF
namespace Go.Proofs.Ytbhmgkpkagjmnaa
open Go.RowKit

set_option maxRecDepth 100000 in
set_option maxHeartbeats 6400000 in
theorem rChildren_any (l i : Int) (w : World) (hi : 0 ≤ i) :
    Calls Try.prog 17 #[.agg #[.int .i64 l, .int .u64 i]] w fun e w' => e = .returned (.tuple #[.agg #[.int .i64 (clF l i), .int .u64 (caF l i)], .agg #[.int .i64 (clF l i), .int .u64 (cbF l i)], .int .i64 (ceF l i)]) ∧ Below w.heap.size w w' := by
  cases hm : cB l i with
  | false =>
    have e1 : clF l i = 0 := by simp [clF, hm]
    have e2 : caF l i = 0 := by simp [caF, hm]
    have e4 : cbF l i = 0 := by simp [cbF, hm]
    have e3 : ceF l i = 1 := by simp [ceF, hm]
    rw [e1, e2, e3, e4]
    clear e1 e2 e3 e4
    cases hm2 : mayB l i with
    | false =>
      clear hm
      go_enter Try.func17, Try.ntmps17
      go_wp2_with (first
        | (go_at_call 20; refine (rMay_any _ _ _ (by first | assumption | omega)).mono ?_; rintro _ w1 ⟨rfl, h1⟩; obtain ⟨c0, c1, hR, hS, hB⟩ := box4 h1)
        | ((with_reducible show wpList _ _ _ (⟨none, .store _ (.tmp 2) _, _, _, _, _⟩ :: _) _ _); refine wl_store rfl 24 _ _ rfl (w.heap.size + 1) 0 rfl [.int .i64 0, .int .u64 0] rfl 24 _ hR infoRNode (Nat.le_refl _) (two_one rfl rfl) ?_; intro w2 hR2 hg2 hs2; rw [two_store] at hR2)
        | ((with_reducible show wpList _ _ _ (⟨none, .store _ (.tmp 3) _, _, _, _, _⟩ :: _) _ _); refine wl_store rfl 24 _ _ rfl (w.heap.size + 1 + 1) 0 rfl [.int .i64 0, .int .u64 0] rfl 24 _ (hS.grown hg2 (by intro e; injection e with e; omega)) infoRNode (Nat.le_refl _) (two_one rfl rfl) ?_; intro w3 hR3 hg3 hs3; rw [two_store] at hR3))
      obtain ⟨hA, hW⟩ := end3_of hB hg2 hg3 hR2 (by omega)
      exact end_cell3 rfl (w.heap.size + 1) (w.heap.size + 1 + 1) 24 [.int .i64 0, .int .u64 0] [.int .i64 0, .int .u64 0] _ (.int .i64 1) rfl hA rfl hR3 Try.underlying24 rfl infoRNode infoRNode rfl rfl ⟨rfl, hW⟩
    | true =>
      obtain rfl : l = 0 := by
        simp [cB, hm2] at hm
        exact hm
      clear hm
      go_enter Try.func17, Try.ntmps17
      go_wp2_with (first
        | (go_at_call 20; refine (rMay_any _ _ _ (by first | assumption | omega)).mono ?_; rintro _ w1 ⟨rfl, h1⟩; obtain ⟨c0, c1, hR, hS, hB⟩ := box4 h1)
        | ((with_reducible show wpList _ _ _ (⟨none, .store _ (.tmp 2) _, _, _, _, _⟩ :: _) _ _); refine wl_store rfl 24 _ _ rfl (w.heap.size + 1) 0 rfl [.int .i64 0, .int .u64 0] rfl 24 _ hR infoRNode (Nat.le_refl _) (two_one rfl rfl) ?_; intro w2 hR2 hg2 hs2; rw [two_store] at hR2)
        | ((with_reducible show wpList _ _ _ (⟨none, .store _ (.tmp 3) _, _, _, _, _⟩ :: _) _ _); refine wl_store rfl 24 _ _ rfl (w.heap.size + 1 + 1) 0 rfl [.int .i64 0, .int .u64 0] rfl 24 _ (hS.grown hg2 (by intro e; injection e with e; omega)) infoRNode (Nat.le_refl _) (two_one rfl rfl) ?_; intro w3 hR3 hg3 hs3; rw [two_store] at hR3))
      obtain ⟨hA, hW⟩ := end3_of hB hg2 hg3 hR2 (by omega)
      exact end_cell3 rfl (w.heap.size + 1) (w.heap.size + 1 + 1) 24 [.int .i64 0, .int .u64 0] [.int .i64 0, .int .u64 0] _ (.int .i64 1) rfl hA rfl hR3 Try.underlying24 rfl infoRNode infoRNode rfl rfl ⟨rfl, hW⟩
  | true =>
    have hm2 : mayB l i = true := by
      simp [cB] at hm
      exact hm.1
    have hne : l ≠ 0 := by
      simp [cB] at hm
      exact hm.2
    obtain ⟨L0, I, rfl, rfl, hL, hI, hb, hI2⟩ := mayB_cases l i hi hm2
    obtain ⟨M, hM⟩ : ∃ M, L0 = M + 1 := ⟨L0 - 1, by omega⟩
    have e1 : clF L0 I = (M : Int) := by simp [clF, hm]; omega
    have e2 : caF L0 I = 2 * (I : Int) := by simp [caF, hm]
    have e4 : cbF L0 I = 2 * (I : Int) + 1 := by simp [cbF, hm]
    have e3 : ceF L0 I = 0 := by simp [ceF, hm]
    have hne' : ((L0 : Int) == 0) = false := by simp only [beq_eq_false_iff_ne]; exact hne
    have hs : (L0 : Int) - 1 = (M : Int) := by omega
    rw [e1, e2, e3, e4]
    clear e1 e2 e3 e4 hm hb hne hI hM
    go_enter Try.func17, Try.ntmps17
    go_upto_region 3 with (go_at_call 20; refine (rMay_any _ _ _ (by first | assumption | omega)).mono ?_; rintro _ w1 ⟨rfl, h1⟩; obtain ⟨c0, c1, hR, hS, hB⟩ := box4 h1)
    obtain ⟨r0, r1⟩ := hR.two
    obtain ⟨s0, s1⟩ := hS.two
    have fr0 := hR.frozen 0
    have fr1 := hR.frozen 1
    have fs0 := hS.frozen 0
    have fs1 := hS.frozen 1
    generalize hgA : w.heap.size = g at *
    generalize hgB : g + 1 = gB at *
    have hgC : g ≠ gB ∧ g ≠ gB + 1 := by omega
    go_region
    have a1 : Arr _ gB 24 [.int .i64 (M : Int), .int .u64 (2 * (I : Int))] := (((hR.store 0 (.int .i64 (M : Int))).store 1 (.int .u64 (2 * (I : Int)))).other ⟨gB + 1, 0, none⟩ (by simp) (.int .i64 (M : Int))).other ⟨gB + 1, 1, none⟩ (by simp) (.int .u64 (2 * (I : Int) + 1))
    have a2 : Arr _ (gB + 1) 24 [.int .i64 (M : Int), .int .u64 (2 * (I : Int) + 1)] := (((hS.other ⟨gB, 0, none⟩ (by simp) (.int .i64 (M : Int))).other ⟨gB, 1, none⟩ (by simp) (.int .u64 (2 * (I : Int)))).store 0 (.int .i64 (M : Int))).store 1 (.int .u64 (2 * (I : Int) + 1))
    have hW := (((hB.setCell (p := ⟨gB, 0, none⟩) (by simp; omega) (.int .i64 (M : Int))).setCell (p := ⟨gB, 1, none⟩) (by simp; omega) (.int .u64 (2 * (I : Int)))).setCell (p := ⟨gB + 1, 0, none⟩) (by simp; omega) (.int .i64 (M : Int))).setCell (p := ⟨gB + 1, 1, none⟩) (by simp; omega) (.int .u64 (2 * (I : Int) + 1))
    go_wp2
    exact end_cell3 rfl gB (gB + 1) 24 [.int .i64 (M : Int), .int .u64 (2 * (I : Int))] [.int .i64 (M : Int), .int .u64 (2 * (I : Int) + 1)] _ (.int .i64 0) rfl a1.drew rfl a2.drew Try.underlying24 rfl infoRNode infoRNode rfl rfl ⟨rfl, hgA ▸ hW.drew⟩

theorem ben_nat (L I D J : Nat) : (J * 2 ^ (L + D) ≤ I * 2 ^ L ∧ (I + 1) * 2 ^ L ≤ (J + 1) * 2 ^ (L + D)) ↔ I / 2 ^ D = J := by
  have hp : 0 < 2 ^ L := Nat.two_pow_pos _
  have hq : 0 < 2 ^ D := Nat.two_pow_pos _
  rw [Nat.pow_add, Nat.mul_comm (2 ^ L) (2 ^ D), ← Nat.mul_assoc, ← Nat.mul_assoc]
  constructor
  · rintro ⟨h1, h2⟩
    have h1' := Nat.le_of_mul_le_mul_right h1 hp
    have h2' := Nat.le_of_mul_le_mul_right h2 hp
    refine Nat.div_eq_of_lt_le ?_ ?_
    · rw [Nat.mul_comm]; rw [Nat.mul_comm] at h1'; exact h1'
    · exact h2'
  · intro h
    have h1 : J * 2 ^ D ≤ I := by rw [← h]; exact Nat.div_mul_le_self _ _
    have h2 : I + 1 ≤ (J + 1) * 2 ^ D := by
      have := Nat.lt_mul_div_succ I hq
      rw [h, Nat.mul_comm] at this
      omega
    exact ⟨Nat.mul_le_mul_right _ h1, Nat.mul_le_mul_right _ h2⟩

theorem benB_leaves {l i m j : Int} (hi : 0 ≤ i) (hj : 0 ≤ j) (h1 : mayB l i = true) (h2 : mayB m j = true) (h : l < m) : benB l i m j = (decide (lfF l i ≥ lfF m j) && decide (lbF l i ≤ lbF m j)) := by
  have hm := h1
  have hm2 := h2
  obtain ⟨L, I, rfl, rfl, hL, hI, -, -⟩ := mayB_cases l i hi h1
  obtain ⟨M, J, rfl, rfl, hM, hJ, -, -⟩ := mayB_cases m j hj h2
  obtain ⟨D, rfl⟩ : ∃ D : Nat, M = L + D := ⟨M - L, by omega⟩
  have hk := ben_nat L I D J
  have e0 : ((L + D : Nat) : Int) - (L : Int) = (D : Int) := by omega
  have e1 : ((I : Int) / 2 ^ (((L + D : Nat) : Int) - (L : Int)).toNat = (J : Int)) ↔ I / 2 ^ D = J := by
    rw [e0, Int.toNat_natCast]
    have : ((I : Int) / 2 ^ D) = ((I / 2 ^ D : Nat) : Int) := by push_cast; rfl
    rw [this]
    omega
  have f1 : lfF L I = ((I * 2 ^ L : Nat) : Int) := by simp [lfF, hm]
  have f2 : lbF L I = (((I + 1) * 2 ^ L : Nat) : Int) := by simp [lbF, hm]
  have f3 : lfF (L + D : Nat) J = ((J * 2 ^ (L + D) : Nat) : Int) := by
    unfold lfF
    rw [hm2, if_pos rfl, Int.toNat_natCast]
    push_cast
    rfl
  have f4 : lbF (L + D : Nat) J = (((J + 1) * 2 ^ (L + D) : Nat) : Int) := by
    unfold lbF
    rw [hm2, if_pos rfl, Int.toNat_natCast]
    push_cast
    rfl
  have g : decide ((L : Int) < ((L + D : Nat) : Int)) = true := decide_eq_true h
  rw [f1, f2, f3, f4, ← Bool.decide_and]
  unfold benB
  rw [hm, hm2, g, Bool.true_and, Bool.true_and, Bool.true_and, decide_eq_decide, e1, ← hk]
  omega

set_option maxHeartbeats 1600000 in
theorem rBeneath_any (l i m j : Int) (w : World) (hi : 0 ≤ i) (hj : 0 ≤ j) :
    Calls Try.prog 23 #[.agg #[.int .i64 l, .int .u64 i], .agg #[.int .i64 m, .int .u64 j]] w fun e w' => e = .returned (.bool (benB l i m j)) ∧ Below w.heap.size w w' := by
  have HM1 := fun w => rMay_any l i w hi
  have HM2 := fun w => rMay_any m j w hj
  have HL1 := fun w => rLeaves_any l i w hi
  have HL2 := fun w => rLeaves_any m j w hj
  cases hm : mayB l i with
  | false =>
    rw [benB_no1 hm]
    rw [hm] at HM1
    clear hm
    go_enter Try.func23, Try.ntmps23
    go_wp2_with (go_at_call 20; with_reducible refine (HM1 _).mono ?_; rintro _ w1 ⟨rfl, h1⟩; obtain ⟨hA, hR, hB⟩ := box3A h1)
    go_ret
    exact ⟨rfl, hB⟩
  | true =>
    rw [hm] at HM1
    cases hm2 : mayB m j with
    | false =>
      rw [benB_no2 hm2]
      rw [hm2] at HM2
      clear hm hm2
      go_enter Try.func23, Try.ntmps23
      go_wp2_with (first
        | (go_at_call 20; with_reducible refine (HM1 _).mono ?_; rintro _ w1 ⟨rfl, h1⟩; obtain ⟨hA, hR, hB⟩ := box3A h1; obtain ⟨r0, r1⟩ := hR.two)
        | (go_at_call 20; with_reducible refine (HM2 _).mono ?_; rintro _ w2 ⟨rfl, h2⟩))
      go_ret
      exact ⟨rfl, hB.trans (h2.mono hB.size)⟩
    | true =>
      rw [hm2] at HM2
      by_cases hlt : m ≤ l
      · rw [benB_no3 hlt]
        clear hm hm2
        go_enter Try.func23, Try.ntmps23
        go_wp2_with (first
          | (go_at_call 20; with_reducible refine (HM1 _).mono ?_; rintro _ w1 ⟨rfl, h1⟩; obtain ⟨hA, hR, hB⟩ := box3A h1; obtain ⟨r0, r1⟩ := hR.two)
          | (go_at_call 20; with_reducible refine (HM2 _).mono ?_; rintro _ w2 ⟨rfl, h2⟩; obtain ⟨s0, s1⟩ := (hR.kept h2).two; obtain ⟨t0, t1⟩ := (hA.kept h2).two))
        go_ret
        exact ⟨rfl, hB.trans (h2.mono hB.size)⟩
      · rw [benB_leaves hi hj hm hm2 (by omega)]
        clear hm hm2
        generalize lfF l i = f at *
        generalize lfF m j = h at *
        generalize lbF l i = g at *
        generalize lbF m j = k at *
        generalize leF l i = e1 at *
        generalize leF m j = e2 at *
        by_cases c1 : f ≥ h
        · by_cases c2 : g ≤ k
          · have v : (decide (f ≥ h) && decide (g ≤ k)) = true := by simp [c1, c2]
            rw [v]
            clear v
            go_enter Try.func23, Try.ntmps23
            go_wp2_with (first
              | (go_at_call 20; with_reducible refine (HM1 _).mono ?_; rintro _ w1 ⟨rfl, h1⟩; obtain ⟨hA, hR, hB⟩ := box3A h1; obtain ⟨r0, r1⟩ := hR.two)
              | (go_at_call 20; with_reducible refine (HM2 _).mono ?_; rintro _ w2 ⟨rfl, h2⟩; obtain ⟨s0, s1⟩ := (hR.kept h2).two; obtain ⟨t0, t1⟩ := (hA.kept h2).two)
              | (go_at_call 11; with_reducible refine (HL1 _).mono ?_; rintro _ w3 ⟨rfl, h3⟩; obtain ⟨u0, u1⟩ := ((hR.kept h2).kept h3).two)
              | (go_at_call 11; with_reducible refine (HL2 _).mono ?_; rintro _ w4 ⟨rfl, h4⟩))
            go_ret
            have z1 := hB.size
            have z2 := h2.size
            have z3 := h3.size
            exact ⟨rfl, hB.trans ((h2.mono z1).trans ((h3.mono (by omega)).trans (h4.mono (by omega))))⟩
          · have v : (decide (f ≥ h) && decide (g ≤ k)) = false := by simp [c2]
            have d2 : decide (g ≤ k) = false := decide_eq_false c2
            rw [v]
            clear v
            go_enter Try.func23, Try.ntmps23
            go_wp2_with (first
              | (go_at_call 20; with_reducible refine (HM1 _).mono ?_; rintro _ w1 ⟨rfl, h1⟩; obtain ⟨hA, hR, hB⟩ := box3A h1; obtain ⟨r0, r1⟩ := hR.two)
              | (go_at_call 20; with_reducible refine (HM2 _).mono ?_; rintro _ w2 ⟨rfl, h2⟩; obtain ⟨s0, s1⟩ := (hR.kept h2).two; obtain ⟨t0, t1⟩ := (hA.kept h2).two)
              | (go_at_call 11; with_reducible refine (HL1 _).mono ?_; rintro _ w3 ⟨rfl, h3⟩; obtain ⟨u0, u1⟩ := ((hR.kept h2).kept h3).two)
              | (go_at_call 11; with_reducible refine (HL2 _).mono ?_; rintro _ w4 ⟨rfl, h4⟩))
            go_ret
            have z1 := hB.size
            have z2 := h2.size
            have z3 := h3.size
            exact ⟨rfl, hB.trans ((h2.mono z1).trans ((h3.mono (by omega)).trans (h4.mono (by omega))))⟩
        · have v : (decide (f ≥ h) && decide (g ≤ k)) = false := by simp [c1]
          rw [v]
          clear v
          go_enter Try.func23, Try.ntmps23
          go_wp2_with (first
            | (go_at_call 20; with_reducible refine (HM1 _).mono ?_; rintro _ w1 ⟨rfl, h1⟩; obtain ⟨hA, hR, hB⟩ := box3A h1; obtain ⟨r0, r1⟩ := hR.two)
            | (go_at_call 20; with_reducible refine (HM2 _).mono ?_; rintro _ w2 ⟨rfl, h2⟩; obtain ⟨s0, s1⟩ := (hR.kept h2).two; obtain ⟨t0, t1⟩ := (hA.kept h2).two)
            | (go_at_call 11; with_reducible refine (HL1 _).mono ?_; rintro _ w3 ⟨rfl, h3⟩; obtain ⟨u0, u1⟩ := ((hR.kept h2).kept h3).two)
            | (go_at_call 11; with_reducible refine (HL2 _).mono ?_; rintro _ w4 ⟨rfl, h4⟩))
          go_ret
          have z1 := hB.size
          have z2 := h2.size
          have z3 := h3.size
          exact ⟨rfl, hB.trans ((h2.mono z1).trans ((h3.mono (by omega)).trans (h4.mono (by omega))))⟩
end Go.Proofs.Ytbhmgkpkagjmnaa
