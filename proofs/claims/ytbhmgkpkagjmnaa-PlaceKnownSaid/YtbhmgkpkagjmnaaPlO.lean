/-
  Layer 7: covers are the fewest nodes, plainly. Conditions: those in each statement.
-/
import Derived.Test.YtbhmgkpkagjmnaaPlN
namespace Go.Proofs.Ytbhmgkpkagjmnaa
open Go.RowKit

theorem lvl_eq {f t A : Nat} (h : f < t) (ht : t ≤ 2 ^ 20) (h1 : ∀ k, k < A → stepB f t k = true) (h2 : stepB f t A = false) : lvl f t = A := by
  have : ∀ j, j ≤ A → On f t j := by
    intro j
    induction j with
    | zero => intro _; exact On.start h
    | succ j ih => intro hj; exact (ih (by omega)).step ht (h1 j (by omega))
  exact (this A (Nat.le_refl _)).stop h2

theorem mod_down {f k A : Nat} (hk : k ≤ A) (h : f % 2 ^ A = 0) : f % 2 ^ k = 0 := by
  have e : 2 ^ A = 2 ^ k * 2 ^ (A - k) := by rw [← Nat.pow_add, show k + (A - k) = A by omega]
  have h1 : 2 ^ A ∣ f := Nat.dvd_of_mod_eq_zero h
  exact Nat.mod_eq_zero_of_dvd (Nat.dvd_trans ⟨_, e⟩ h1)
theorem steps_of {f t A : Nat} (h : f % 2 ^ A = 0) (h2 : f + 2 ^ A ≤ t) : ∀ k, k < A → stepB f t k = true := by
  intro k hk
  have h3 := Nat.pow_le_pow_right (n := 2) (by omega) (show k + 1 ≤ A by omega)
  have h4 := mod_down (show k + 1 ≤ A by omega) h
  simp only [stepB, h4, decide_true, Bool.true_and, decide_eq_true_eq]
  omega

theorem len_small : ∀ A f t n, t ≤ 2 ^ 20 → f % 2 ^ A = 0 → f ≤ t → t < f + 2 ^ A → t - f ≤ n → (covGo t n f).length ≤ A := by
  intro A
  induction A with
  | zero => intro f t n _ _ h1 h2 _; rw [covGo_end (by simpa using Nat.lt_succ_iff.1 h2)]; simp
  | succ A ih =>
    intro f t n ht hm hle hlt hn
    have hm' := mod_down (show A ≤ A + 1 by omega) hm
    by_cases h : t < f + 2 ^ A
    · have := ih f t n ht hm' hle h hn
      omega
    · have hp := Nat.two_pow_pos A
      have hft : f < t := by omega
      have hs : stepB f t A = false := by
        have : ¬ (f + 2 ^ (A + 1) ≤ t) := by omega
        simp [stepB, this]
      have hl := lvl_eq hft ht (steps_of hm' (by omega)) hs
      obtain ⟨m, rfl, hm1, hm2⟩ := covGo_more hft hn
      rw [hl] at hm1 hm2
      rw [Nat.pow_succ] at hlt
      have := ih (f + 2 ^ A) t m ht (by rw [Nat.add_mod_right]; exact hm') (by omega) (by omega) hm1
      rw [hm2, List.length_cons]
      omega

theorem len_any : ∀ d, d ≤ 20 → ∀ f t n, t ≤ 2 ^ 20 → f % 2 ^ (20 - d) = 0 → f ≤ t → t - f ≤ n → (covGo t n f).length ≤ d + 20 := by
  intro d
  induction d with
  | zero =>
    intro _ f t n ht hm hle hn
    by_cases h : t < f + 2 ^ 20
    · have := len_small 20 f t n ht hm hle h hn
      omega
    · have hf : f = 0 := by omega
      have htt : t = 2 ^ 20 := by omega
      subst hf htt
      obtain ⟨m, rfl, hm1, hm2⟩ := covGo_more (show 0 < 2 ^ 20 by omega) hn
      have hl := lvl_eq (f := 0) (t := 2 ^ 20) (A := 20) (by omega) (Nat.le_refl _) (steps_of (by simp) (by simp)) (by simp [stepB])
      rw [hm2, hl, covGo_end (by simp)]
      simp
  | succ d ih =>
    intro hd f t n ht hm hle hn
    by_cases h2 : f % 2 ^ (20 - d) = 0
    · have := ih (by omega) f t n ht h2 hle hn
      omega
    · obtain ⟨A, hA⟩ : ∃ A, A = 20 - (d + 1) := ⟨_, rfl⟩
      rw [← hA] at hm
      rw [show 20 - d = A + 1 by omega] at h2 ih
      by_cases h : t < f + 2 ^ A
      · have := len_small A f t n ht hm hle h hn
        omega
      · have hp := Nat.two_pow_pos A
        have hft : f < t := by omega
        have hs : stepB f t A = false := by simp [stepB, h2]
        have hl := lvl_eq hft ht (steps_of hm (by omega)) hs
        obtain ⟨m, rfl, hm1, hm2⟩ := covGo_more hft hn
        rw [hl] at hm1 hm2
        have hodd : (f + 2 ^ A) % 2 ^ (A + 1) = 0 := by
          have e := Nat.div_add_mod f (2 ^ A)
          rw [hm, Nat.add_zero] at e
          obtain ⟨q, hq⟩ : ∃ q, q = f / 2 ^ A := ⟨_, rfl⟩
          rw [← hq] at e
          rw [Nat.pow_succ] at h2 ⊢
          rw [← e] at h2 ⊢
          rw [show 2 ^ A * q + 2 ^ A = 2 ^ A * (q + 1) by rw [Nat.mul_add, Nat.mul_one], Nat.mul_mod_mul_left]
          rw [Nat.mul_mod_mul_left] at h2
          have : q % 2 ≠ 0 := fun h => h2 (by rw [h, Nat.mul_zero])
          rw [show (q + 1) % 2 = 0 by omega, Nat.mul_zero]
        have := ih (by omega) (f + 2 ^ A) t m ht hodd (by omega) hm1
        rw [hm2, List.length_cons]
        omega
theorem len_40 {f t n : Nat} (ht : t ≤ 2 ^ 20) (hle : f ≤ t) (hn : t - f ≤ n) : (covGo t n f).length ≤ 40 :=
  len_any 20 (by omega) f t n ht (by simp [Nat.mod_one]) hle hn

/-- no node that ends where one of the cover begins lies within the range, and is the lesser sibling of it -/
def Low (a t c : Nat) : Prop := ∀ l, c % 2 ^ l = 0 → (c / 2 ^ l) % 2 = 1 → c + 2 ^ l ≤ t → c < a + 2 ^ l
theorem Low.start (a t : Nat) : Low a t a := fun l _ _ _ => by have := Nat.two_pow_pos l; omega
theorem even_of {c l : Nat} (h : c % 2 ^ (l + 1) = 0) : (c / 2 ^ l) % 2 = 0 := by
  rw [Nat.pow_succ] at h
  have := Nat.mod_mul_right_div_self c (2 ^ l) 2
  rw [h, Nat.zero_div] at this
  exact this.symm
theorem mod_succ_of {c l : Nat} (h : c % 2 ^ l = 0) (h2 : (c / 2 ^ l) % 2 = 0) : c % 2 ^ (l + 1) = 0 := by
  have e := Nat.div_add_mod c (2 ^ l)
  rw [h, Nat.add_zero] at e
  obtain ⟨q, hq⟩ : ∃ q, q = c / 2 ^ l := ⟨_, rfl⟩
  rw [← hq] at e h2
  rw [← e, Nat.pow_succ, Nat.mul_mod_mul_left, h2, Nat.mul_zero]
theorem Low.step {a t c : Nat} (h : Low a t c) (hct : c < t) (ht : t ≤ 2 ^ 20) : Low a t (c + 2 ^ lvl c t) := by
  obtain ⟨⟨-, -, hm0, hmt⟩, hs⟩ := lvl_on hct ht
  obtain ⟨m, hm⟩ : ∃ m, m = lvl c t := ⟨_, rfl⟩
  rw [← hm] at hm0 hmt hs ⊢
  have hp := Nat.two_pow_pos m
  intro l h1 h2 h3
  have hdiv : (c + 2 ^ m) / 2 ^ m = c / 2 ^ m + 1 := Nat.add_div_right _ hp
  rcases Nat.lt_trichotomy l m with hlm | hlm | hlm
  · exfalso
    have e1 : (c + 2 ^ m) % 2 ^ (l + 1) = 0 := mod_down (show l + 1 ≤ m by omega) (by rw [Nat.add_mod_right]; exact hm0)
    have := even_of e1
    omega
  · exfalso
    subst hlm
    rw [hdiv] at h2
    have e1 := mod_succ_of hm0 (by omega)
    have : stepB c t l = true := by
      simp only [stepB, e1, decide_true, Bool.true_and, decide_eq_true_eq]
      rw [Nat.pow_succ]
      omega
    rw [hs] at this
    cases this
  · have e1 : (c + 2 ^ m) % 2 ^ (m + 1) = 0 := mod_down (show m + 1 ≤ l by omega) h1
    have e2 := even_of e1
    rw [hdiv] at e2
    have := h m hm0 (by omega) hmt
    have e3 := Nat.pow_le_pow_right (n := 2) (by omega) (show m + 1 ≤ l by omega)
    rw [Nat.pow_succ] at e3
    omega
end Go.Proofs.Ytbhmgkpkagjmnaa
