/-
  Layer 7: PlaceCovers and PlaceSplits as calls. Conditions: those in each statement.
-/
import Derived.Test.YtbhmgkpkagjmnaaPlM
namespace Go.Proofs.Ytbhmgkpkagjmnaa
open Go.RowKit

theorem covGo_len (t : Nat) : ∀ n f, (covGo t n f).length ≤ n := by
  intro n
  induction n with
  | zero => intro f; simp [covGo]
  | succ n ih =>
    intro f
    unfold covGo
    split
    · simp only [List.length_cons]; have := ih (f + 2 ^ lvl f t); omega
    · simp
theorem covF_len (f t : Int) : (covF f t).length ≤ 2 ^ 40 := by
  unfold covF
  split
  · rename_i h
    have := covGo_len t.toNat (t.toNat - f.toNat) f.toNat
    simp [okC] at h
    omega
  · simp

set_option maxHeartbeats 3200000 in
theorem Covers_law (f t n : Int) (w : World) (hf : 0 ≤ f) (hn : 0 ≤ n) :
    Calls Try.prog 4 #[.int .u64 f, .int .u64 t, .int .u64 n] w fun e w' => e = .returned (.bool true) ∧ Below w.heap.size w w' := by
  have hlen := covF_len f t
  have HC1 := fun w => Cover_any f t w hf
  have HC2 := fun w => rCover_any f t w hf
  have HS1 := fun w => Split_any n w hn
  have HS2 := fun w => rSplit_any n w hn
  generalize covF f t = L at *
  generalize ceV f t = ce at *
  generalize spV n = sv at *
  generalize seF n = se at *
  go_enter Try.func4, Try.ntmps4
  go_wp2_with (first
    | (go_at_call 24; refine (HC1 _).mono ?_; rintro _ w1 ⟨v1, rfl, o1, h1⟩)
    | (go_at_call 25; refine (HC2 _).mono ?_; rintro _ w2 ⟨v2, rfl, o2, h2⟩)
    | (go_at_call 26; refine (HS1 _).mono ?_; rintro _ _ ⟨rfl, rfl⟩)
    | (go_at_call 27; refine (HS2 _).mono ?_; rintro _ _ ⟨rfl, rfl⟩)
    | (go_at_call 18; refine (awake_any _).mono ?_; rintro _ w3 ⟨rfl, h3⟩)
    | (go_at_call 28; refine (same_any v1 v2 L L _ ((o1.to h2).to h3).rd (o2.to h3).rd hlen hlen).mono ?_; rw [decide_eq_true (Eq.refl L)]; rintro _ w4 ⟨rfl, h4⟩))
  go_ret
  have z1 := h1.size
  have z2 := h2.size
  have z3 := h3.size
  exact ⟨rfl, h1.trans ((h2.mono z1).trans ((h3.mono (by omega)).trans (h4.mono (by omega))))⟩

theorem pow_and (E : Nat) (h : E ≤ 20) : bits .and .u64 ((2 ^ E : Nat) : Int) ((2 ^ E - 1 : Nat) : Int) = 0 := by
  have : ∀ E, E < 21 → bits .and .u64 ((2 ^ E : Nat) : Int) ((2 ^ E - 1 : Nat) : Int) = 0 := by decide +kernel
  exact this E (by omega)

set_option maxHeartbeats 3200000 in
theorem Splits_law (n : Int) (w : World) (hn : 0 ≤ n) :
    Calls Try.prog 7 #[.int .u64 n] w fun e w' => e = .returned (.bool true) ∧ Below w.heap.size w w' := by
  have HS1 := fun w => Split_any n w hn
  cases hm : okS n with
  | false =>
    rw [show spV n = 0 by simp [spV, hm], show seF n = 1 by simp [seF, hm]] at HS1
    rcases okS_no hm with h | ⟨h, h'⟩
    · have c : (n : Int) < 2 := h
      clear hm h
      go_enter Try.func7, Try.ntmps7
      go_wp2_with (first
        | (go_at_call 26; refine (HS1 _).mono ?_; rintro _ _ ⟨rfl, rfl⟩)
        | (go_at_call 18; refine (awake_any _).mono ?_; rintro _ w3 ⟨rfl, h3⟩))
      go_ret
      exact ⟨rfl, h3⟩
    · have c : ¬ (n : Int) < 2 := by omega
      have c2 : ¬ (n ≤ 1048576) := by omega
      clear hm h h'
      go_enter Try.func7, Try.ntmps7
      go_wp2_with (first
        | (go_at_call 26; refine (HS1 _).mono ?_; rintro _ _ ⟨rfl, rfl⟩)
        | (go_at_call 18; refine (awake_any _).mono ?_; rintro _ w3 ⟨rfl, h3⟩))
      go_ret
      exact ⟨rfl, h3⟩
  | true =>
    obtain ⟨N, hn1, hn2, hN1, hN2, hN3⟩ := okS_yes hm
    have e1 : spV n = ((2 ^ N.log2 : Nat) : Int) := by
      unfold spV
      rw [hm, if_pos rfl, hn2]
    rw [e1, show seF n = 0 by simp only [seF, hm, if_true]] at HS1
    have hl1 := Nat.log2_self_le (n := N) (by omega)
    have hl2 := @Nat.lt_log2_self N
    have ha := pow_and N.log2 (by omega)
    have hp0 := Nat.two_pow_pos N.log2
    rw [Nat.pow_succ] at hl2
    obtain ⟨X, hX⟩ : ∃ X, X = 2 ^ N.log2 := ⟨_, rfl⟩
    rw [← hX] at HS1 hl1 hl2 ha hp0
    have d1 : (0 : Int) < (X : Int) := by omega
    have d2 : (X : Int) < n := by omega
    have d3 : n ≤ 2 * (X : Int) := by omega
    have d4 : (X : Int) ≤ 1048576 := by omega
    obtain ⟨Y, hY⟩ : ∃ Y, Y = X - 1 := ⟨_, rfl⟩
    have d5 : (X : Int) - 1 = (Y : Int) := by omega
    rw [← hY] at ha
    clear hm e1 hl1 hl2 hX hn1 hn2 hN1 hN2 hN3 hp0 hY
    go_enter Try.func7, Try.ntmps7
    go_wp2_with (first
      | (go_at_call 26; refine (HS1 _).mono ?_; rintro _ _ ⟨rfl, rfl⟩)
      | (go_at_call 18; refine (awake_any _).mono ?_; rintro _ w3 ⟨rfl, h3⟩))
    go_ret
    exact ⟨rfl, h3⟩
end Go.Proofs.Ytbhmgkpkagjmnaa
