/-
  Layer 14: the document's rest as a number. Conditions: those in each statement.
-/
import Derived.Test.YtocehaflgpljfaaCrB
namespace Go.Proofs.Ytocehaflgpljfaa
open Go.RowKit

/-- the number n has the bits of x, the highest where x has the lowest -/
def RelR (n : Nat) (x : BitVec 32) : Prop := n < 2 ^ 32 ∧ ∀ i, i < 32 → n.testBit i = x.getLsbD (31 - i)
theorem relR_zero : RelR 0 0#32 := ⟨by decide, fun i _ => by simp⟩
theorem pol_bits : ∀ i, i < 32 → (0x104c11db7).testBit i = polR.getLsbD (31 - i) := by decide
theorem pol_high (i : Nat) (h : 32 < i) : (0x104c11db7).testBit i = false := Nat.testBit_lt_two_pow (Nat.lt_of_lt_of_le (by decide : 0x104c11db7 < 2 ^ 33) (Nat.pow_le_pow_right (by omega) h))
theorem double_bit (n : Nat) (b : Bool) (i : Nat) : (2 * n + b.toNat).testBit i = if i = 0 then b else n.testBit (i - 1) := by
  cases i with
  | zero => cases b <;> simp [Nat.testBit_zero]
  | succ i =>
    rw [Nat.testBit_succ, show (2 * n + b.toNat) / 2 = n by cases b <;> simp <;> omega]
    simp
theorem rel_step {n : Nat} {x : BitVec 32} (h : RelR n x) (b : Bool) :
    RelR (if (2 * n + b.toNat) / 2 ^ 32 = 1 then (2 * n + b.toNat) ^^^ 0x104c11db7 else 2 * n + b.toNat) (rst x b) := by
  obtain ⟨hn, hb⟩ := h
  have hbl : b.toNat ≤ 1 := by cases b <;> simp
  have h31 : (2 * n + b.toNat).testBit 32 = x.getLsbD 0 := by
    rw [double_bit, if_neg (by omega)]
    exact hb 31 (by omega)
  have hx : ∀ i, i < 32 → (rst x b).getLsbD (31 - i) = ((2 * n + b.toNat).testBit i ^^ (x.getLsbD 0 && (0x104c11db7).testBit i)) := by
    intro i hi
    rw [double_bit, pol_bits i hi]
    unfold rst zst top32
    rw [BitVec.getLsbD_xor, BitVec.getLsbD_xor, BitVec.getLsbD_ushiftRight, BitVec.getLsbD_shiftLeft]
    have e1 : (if x.getLsbD 0 = true then polR else 0#32).getLsbD (31 - i) = (x.getLsbD 0 && polR.getLsbD (31 - i)) := by
      cases x.getLsbD 0 <;> simp
    rw [e1]
    by_cases h0 : i = 0
    · subst h0
      have e2 : x.getLsbD (1 + (31 - 0)) = false := BitVec.getLsbD_of_ge _ _ (by omega)
      rw [e2]
      cases b <;> cases x.getLsbD 0 <;> simp [bit32]
    · have e2 : x.getLsbD (1 + (31 - i)) = n.testBit (i - 1) := by
        rw [hb (i - 1) (by omega)]
        congr 1
        omega
      have e3 : 31 - i < 31 := by omega
      rw [e2, if_neg h0]
      simp [e3]
  have hm : 2 * n + b.toNat < 2 ^ 33 := by omega
  by_cases hc : (2 * n + b.toNat) / 2 ^ 32 = 1
  · have ht : (2 * n + b.toNat).testBit 32 = true := by
      rw [Nat.testBit_eq_decide_div_mod_eq, hc]
      rfl
    rw [ht] at h31
    rw [if_pos hc]
    refine ⟨Nat.lt_pow_two_of_testBit _ fun i hi => ?_, fun i hi => ?_⟩
    · rw [Nat.testBit_xor]
      by_cases e : i = 32
      · subst e
        rw [ht]
        decide
      · rw [pol_high i (by omega), Nat.testBit_lt_two_pow (Nat.lt_of_lt_of_le hm (Nat.pow_le_pow_right (by omega) (by omega : 33 ≤ i)))]
        rfl
    · rw [Nat.testBit_xor, hx i hi, ← h31]
      simp
  · have hlt : 2 * n + b.toNat < 2 ^ 32 := by omega
    have ht : (2 * n + b.toNat).testBit 32 = false := Nat.testBit_lt_two_pow hlt
    rw [ht] at h31
    rw [if_neg hc]
    refine ⟨hlt, fun i hi => ?_⟩
    rw [hx i hi, ← h31]
    simp
/-- what comes out: each bit that is none, the other way round -/
def outR (n : Nat) : Nat → Nat
  | 0 => 0
  | k + 1 => outR n k + (if n.testBit k then 0 else 2 ^ (31 - k))
theorem outR_step {n : Nat} {x : BitVec 32} (h : RelR n x) : ∀ k, k ≤ 32 → outR n k = (~~~x).toNat / 2 ^ (32 - k) * 2 ^ (32 - k) := by
  intro k
  induction k with
  | zero =>
    intro _
    rw [outR, Nat.div_eq_of_lt (~~~x).isLt, Nat.zero_mul]
  | succ k ih =>
    intro hk
    rw [outR, ih (by omega), h.2 k (by omega)]
    have hb : (~~~x).toNat.testBit (31 - k) = !x.getLsbD (31 - k) := by
      show (~~~x).getLsbD (31 - k) = _
      rw [BitVec.getLsbD_not]
      have : 31 - k < 32 := by omega
      simp [this]
    generalize (~~~x).toNat = X at *
    have e1 : 2 ^ (32 - k) = 2 * 2 ^ (31 - k) := by rw [show 32 - k = (31 - k) + 1 by omega, Nat.pow_succ, Nat.mul_comm]
    have e2 : X / 2 ^ (32 - k) = X / 2 ^ (31 - k) / 2 := by rw [e1, Nat.mul_comm, Nat.div_div_eq_div_mul]
    have e3 : X / 2 ^ (31 - k) = 2 * (X / 2 ^ (31 - k) / 2) + X / 2 ^ (31 - k) % 2 := by omega
    have e4 : X / 2 ^ (31 - k) % 2 = if x.getLsbD (31 - k) then 0 else 1 := by
      rw [Nat.testBit_eq_decide_div_mod_eq] at hb
      have h2 := Nat.mod_two_eq_zero_or_one (X / 2 ^ (31 - k))
      cases hx : x.getLsbD (31 - k) with
      | true =>
        rw [hx] at hb
        simp at hb
        simp
        omega
      | false =>
        rw [hx] at hb
        simp at hb
        simp
        omega
    rw [show 32 - (k + 1) = 31 - k by omega, e2, e1]
    generalize X / 2 ^ (31 - k) = A at *
    generalize 2 ^ (31 - k) = B at *
    rw [e4] at e3
    cases hx : x.getLsbD (31 - k) with
    | true =>
      rw [hx] at e3
      simp at e3 ⊢
      conv => rhs; rw [e3]
      rw [Nat.mul_comm 2 B, ← Nat.mul_assoc, Nat.mul_comm (A / 2) B, Nat.mul_assoc, Nat.mul_comm (A / 2) 2, Nat.mul_comm]
    | false =>
      rw [hx] at e3
      simp at e3 ⊢
      conv => rhs; rw [e3]
      rw [Nat.add_mul, Nat.one_mul, Nat.mul_comm 2 (A / 2), Nat.mul_assoc]
/-- the document's sum, from its rest -/
theorem outR_all {n : Nat} {x : BitVec 32} (h : RelR n x) : outR n 32 = (~~~x).toNat := by
  rw [outR_step h 32 (Nat.le_refl _)]
  simp
end Go.Proofs.Ytocehaflgpljfaa
