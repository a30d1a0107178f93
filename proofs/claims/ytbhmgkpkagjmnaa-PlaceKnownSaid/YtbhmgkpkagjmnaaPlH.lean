/-
  Layer 7: splits, plainly and as the program and the document have them; the greatest node that begins at a leaf. Conditions: those in each statement.
-/
import Derived.Test.YtbhmgkpkagjmnaaPlG
import Derived.Test.YtbhmgkpkagjmnaaShelf
namespace Go.Proofs.Ytbhmgkpkagjmnaa
open Go.RowKit

theorem bitLenAux_log (f : Nat) : ∀ x, x ≠ 0 → x < 2 ^ f → Lib.bitLenAux f x = x.log2 + 1 := by
  induction f with
  | zero => intro x h0 h1; omega
  | succ f ih =>
    intro x h0 h1
    have h2 : x / 2 < 2 ^ f := by rw [Nat.pow_succ] at h1; omega
    simp only [Lib.bitLenAux, if_neg h0]
    by_cases h : x < 2
    · have : x = 1 := by omega
      subst this
      cases f <;> simp [Lib.bitLenAux] <;> decide
    · rw [ih (x / 2) (by omega) h2, Nat.log2_def x, if_pos (by omega)]
      omega
theorem bitLen_log (x : Nat) (h0 : x ≠ 0) (h : x < 2 ^ 64) : Lib.bitLen x = x.log2 + 1 := bitLenAux_log 64 x h0 h

/-- where a list is parted -/
def okS (n : Int) : Bool := decide (2 ≤ n) && decide (n ≤ 1048576)
def spV (n : Int) : Int := if okS n then ((2 ^ (n.toNat - 1).log2 : Nat) : Int) else 0
def seF (n : Int) : Int := if okS n then 0 else 1
theorem okS_no {n : Int} (h : okS n = false) : n < 2 ∨ (2 ≤ n ∧ 1048576 < n) := by
  simp [okS] at h
  omega
theorem okS_yes {n : Int} (h : okS n = true) : ∃ N : Nat, n - 1 = (N : Int) ∧ n.toNat - 1 = N ∧ 1 ≤ N ∧ N < 2 ^ 20 ∧ N.log2 < 20 := by
  simp [okS] at h
  refine ⟨n.toNat - 1, by omega, rfl, by omega, by omega, ?_⟩
  rw [Nat.log2_lt (by omega)]
  omega

theorem Split_any (n : Int) (w : World) (_h0 : 0 ≤ n) :
    Calls Try.prog 26 #[.int .u64 n] w fun e w' => e = .returned (.tuple #[.int .u64 (spV n), .int .i64 (seF n)]) ∧ w' = w := by
  cases hm : okS n with
  | false =>
    have e1 : spV n = 0 := by simp [spV, hm]
    have e2 : seF n = 1 := by simp [seF, hm]
    rw [e1, e2]
    rcases okS_no hm with h | ⟨h, h'⟩
    · have c : (n : Int) < 2 := h
      clear hm e1 e2
      go_enter Try.func26, Try.ntmps26
      go_wp2
      exact bodyPost_ret (results_tmp2 rfl _ _ _) rfl ⟨rfl, rfl⟩
    · have c : ¬ (n : Int) < 2 := by omega
      have c2 : ¬ (n ≤ 1048576) := by omega
      clear hm e1 e2
      go_enter Try.func26, Try.ntmps26
      go_wp2
      exact bodyPost_ret (results_tmp2 rfl _ _ _) rfl ⟨rfl, rfl⟩
  | true =>
    obtain ⟨N, hn, hn2, hN1, hN2, hN3⟩ := okS_yes hm
    have c : ¬ (n < 2) := by omega
    have c2 : n ≤ 1048576 := by omega
    have e1 : spV n = ((2 ^ N.log2 : Nat) : Int) := by
      unfold spV
      rw [hm, if_pos rfl, hn2]
    have e2 : seF n = 0 := by simp only [seF, hm, if_true]
    rw [e1, e2]
    clear e1 e2 hm hn2
    have hb : Lib.bitLen N = N.log2 + 1 := bitLen_log N (by omega) (by omega)
    obtain ⟨E, hE⟩ : ∃ E, E = N.log2 := ⟨_, rfl⟩
    rw [← hE] at hb hN3 ⊢
    have hc := fun w => Try.bits_Len64 (N : Int) w (by omega) (by omega)
    rw [Int.toNat_natCast, hb] at hc
    have hk : Hid (IntKind.u64.wrap (2 ^ E) = ((2 ^ E : Nat) : Int)) := by
      show _ = _
      have := pow_le20 (k := E) (by omega)
      rw [IntKind.wrap_u64, show ((2 : Int) ^ E) = ((2 ^ E : Nat) : Int) by push_cast; rfl]
      generalize 2 ^ E = x at *
      omega
    clear hb hE
    go_enter Try.func26, Try.ntmps26
    go_wp2_with (go_at_call 37; refine (hc _).mono ?_; rintro _ _ ⟨rfl, rfl⟩)
    rw [hk.out]
    exact bodyPost_ret (results_tmp2 rfl _ _ _) rfl ⟨rfl, rfl⟩

theorem rSplit_any (n : Int) (w : World) (h0 : 0 ≤ n) :
    Calls Try.prog 27 #[.int .u64 n] w fun e w' => e = .returned (.tuple #[.int .u64 (spV n), .int .i64 (seF n)]) ∧ w' = w := by
  cases hm : okS n with
  | false =>
    have e1 : spV n = 0 := by simp [spV, hm]
    have e2 : seF n = 1 := by simp [seF, hm]
    rw [e1, e2]
    rcases okS_no hm with h | ⟨h, h'⟩
    · have c : (n : Int) < 2 := h
      clear hm e1 e2
      go_enter Try.func27, Try.ntmps27
      go_wp2
      exact bodyPost_ret (results_tmp2 rfl _ _ _) rfl ⟨rfl, rfl⟩
    · have c : ¬ (n : Int) < 2 := by omega
      have c2 : ¬ (n ≤ 1048576) := by omega
      clear hm e1 e2
      go_enter Try.func27, Try.ntmps27
      go_wp2
      exact bodyPost_ret (results_tmp2 rfl _ _ _) rfl ⟨rfl, rfl⟩
  | true =>
    obtain ⟨N, hn, hn2, hN1, hN2, hN3⟩ := okS_yes hm
    have c : ¬ (n < 2) := by omega
    have c2 : n ≤ 1048576 := by omega
    have e1 : spV n = ((2 ^ N.log2 : Nat) : Int) := by
      unfold spV
      rw [hm, if_pos rfl, hn2]
    have e2 : seF n = 0 := by simp only [seF, hm, if_true]
    rw [e1, e2]
    clear e1 e2 hm hn2
    have hl1 := Nat.log2_self_le (n := N) (by omega)
    have hl2 := @Nat.lt_log2_self N
    obtain ⟨E, hE⟩ : ∃ E, E = N.log2 := ⟨_, rfl⟩
    rw [← hE] at hl1 hl2 hN3 ⊢
    obtain ⟨Y, hY⟩ : ∃ Y, Y = 2 ^ E := ⟨_, rfl⟩
    rw [← hY]
    rw [← hY] at hl1
    have HY := Lib.hid hY
    have HL2 := Lib.hid hl2
    have HN := Lib.hid hn
    clear hE hY hl2 hn
    go_enter Try.func27, Try.ntmps27
    go_wp2
    obtain ⟨w0, hw0⟩ : ∃ w0 : World, w0 = w := ⟨_, rfl⟩
    go_loopw [4] (fun k wr => ∃ j : Nat, j ≤ E ∧ k = .int .u64 ((2 ^ j : Nat) : Int) ∧ wr = w0) (fun k _ => 2 ^ 21 - (intOf k).toNat)
    case atStart => exact ⟨0, Nat.zero_le _, rfl, hw0.symm⟩
    case round =>
      obtain ⟨j, hj, rfl, rfl⟩ := hrel
      have hp := pow_le20 (k := j) (by omega)
      have hp0 : 0 < 2 ^ j := Nat.two_pow_pos j
      have hp2 : 2 ^ (j + 1) = 2 * 2 ^ j := by rw [Nat.pow_succ, Nat.mul_comm]
      have hmono : j + 1 ≤ E → 2 ^ (j + 1) ≤ Y := fun h => by rw [HY.out]; exact Nat.pow_le_pow_right (by omega) h
      have hmono2 : E ≤ j → 2 ^ (E + 1) ≤ 2 ^ (j + 1) := fun h => Nat.pow_le_pow_right (by omega) (by omega)
      obtain ⟨X, hX⟩ : ∃ X, X = 2 ^ j := ⟨_, rfl⟩
      rw [hp2] at hmono hmono2
      rw [← hX] at hp hp0 hp2 hmono hmono2 ⊢
      have hn := HN.out
      by_cases hlt : 2 * X < N + 1
      · have hjE : j + 1 ≤ E := by
          have := HL2.out
          rcases Nat.lt_or_ge j E with h | h
          · omega
          · have := hmono2 h; omega
        have H2 := Lib.hid hp2
        have hcc : 2 * (X : Int) < n := by omega
        clear hn hp2 hX hmono hmono2 hlt
        go_wp2
        go_roundw
        case rel => exact ⟨j + 1, hjE, by rw [H2.out]; go_num, hw0.symm⟩
        case measure => simp [intOf]; omega
      · have hjE : j = E := by
          rcases Nat.lt_or_ge j E with h | h
          · have := hmono (by omega); omega
          · omega
        have hXY : Hid (X = Y) := by
          show _ = _
          rw [hX, HY.out, hjE]
        have hcc : ¬ (2 * (X : Int) < n) := by omega
        clear hn hp2 hX hmono hmono2 hlt hjE
        go_wp2
        refine bodyPost_ret (results_tmp2 rfl _ _ _) rfl ⟨?_, rfl⟩
        rw [← hXY.out]
        rfl
end Go.Proofs.Ytbhmgkpkagjmnaa
