/-
  Base 64 bit by bit, letter after letter: what the program's reader holds. Conditions: those in each statement.
-/
import Derived.Test.YtpfhbkjjijmpaaaBaseQ
namespace Go.Proofs.Ytpfhbkjjijmpaaa

theorem accB_append (B C : List Nat) (a k : Nat) (h : a + k ≤ B.length) : accB (B ++ C) a k = accB B a k := by
  induction k with
  | zero => rfl
  | succ k ih =>
    unfold accB
    rw [ih (by omega)]
    congr 1
    rw [List.getD_eq_getElem?_getD, List.getD_eq_getElem?_getD, List.getElem?_append_left (by omega)]
theorem accB_add (B : List Nat) (a h m : Nat) : accB B a (h + m) = accB B a h * 2 ^ m + accB B (a + h) m := by
  induction m with
  | zero => simp [accB]
  | succ m ih =>
    show 2 * accB B a (h + m) + B.getD (a + (h + m)) 0 = accB B a h * 2 ^ (m + 1) + (2 * accB B (a + h) m + B.getD (a + h + m) 0)
    rw [ih, Nat.pow_succ, ← Nat.mul_assoc, Nat.add_assoc a h m]
    omega
theorem accB_six {v : Nat} (h : v < 64) : accB (six v) 0 6 = v := by
  simp only [accB, six, List.getD_cons_succ, List.getD_cons_zero, Nat.zero_add]
  omega
theorem accB_six' (B : List Nat) {v : Nat} (h : v < 64) : accB (B ++ six v) B.length 6 = v := by
  have := accB_shift B (six v) 0 6
  rw [Nat.add_zero, accB_six h] at this
  exact this
/-- the bits behind the last whole byte, as a number -/
def leftB (B : List Nat) : Nat := accB B (8 * (B.length / 8)) (B.length % 8)
theorem leftB_lt (B : List Nat) (h : ∀ i, B.getD i 0 < 2) : leftB B < 2 ^ (B.length % 8) := by
  have : ∀ k a, accB B a k < 2 ^ k := by
    intro k
    induction k with
    | zero => intro a; simp [accB]
    | succ k ih => intro a; have := ih a; have := h (a + k); simp only [accB, Nat.pow_succ]; omega
  exact this _ _
theorem outB_append (B C : List Nat) (j : Nat) (h : 8 * j ≤ B.length) : outB (B ++ C) j = outB B j := by
  unfold outB
  apply List.map_congr_left
  intro i hi
  have := List.mem_range.1 hi
  rw [accB_append B C (8 * i) 8 (by omega)]
theorem step_acc (B : List Nat) {v : Nat} (hv : v < 64) : accB (B ++ six v) (8 * (B.length / 8)) (B.length % 8 + 6) = leftB B * 64 + v := by
  rw [accB_add, accB_append B _ _ _ (by omega), show 8 * (B.length / 8) + B.length % 8 = B.length by omega, accB_six' B hv]
  rfl
/-- too few bits for a byte -/
theorem step_few (B : List Nat) {v : Nat} (hv : v < 64) (h : B.length % 8 + 6 < 8) : leftB (B ++ six v) = leftB B * 64 + v ∧ outB (B ++ six v) ((B ++ six v).length / 8) = outB B (B.length / 8) := by
  have hl : (B ++ six v).length = B.length + 6 := by simp [six_len]
  have h1 : (B.length + 6) / 8 = B.length / 8 := by omega
  have h2 : (B.length + 6) % 8 = B.length % 8 + 6 := by omega
  constructor
  · unfold leftB
    rw [hl, h1, h2]
    exact step_acc B hv
  · rw [hl, h1]
    exact outB_append B _ _ (by omega)
/-- a byte is whole -/
theorem step_byte (B : List Nat) {v e : Nat} (hv : v < 64) (h : B.length % 8 + 6 = 8 + e) (hb : ∀ i, (B ++ six v).getD i 0 < 2) :
    leftB (B ++ six v) = (leftB B * 64 + v) % 2 ^ e ∧ outB (B ++ six v) ((B ++ six v).length / 8) = outB B (B.length / 8) ++ [UInt8.ofNat ((leftB B * 64 + v) / 2 ^ e)] := by
  have hl : (B ++ six v).length = B.length + 6 := by simp [six_len]
  have h1 : (B.length + 6) / 8 = B.length / 8 + 1 := by omega
  have h2 : (B.length + 6) % 8 = e := by omega
  have hacc := step_acc B hv
  rw [h, accB_add] at hacc
  have hlt : accB (B ++ six v) (8 * (B.length / 8) + 8) e < 2 ^ e := by
    have : ∀ k a, accB (B ++ six v) a k < 2 ^ k := by
      intro k
      induction k with
      | zero => intro a; simp [accB]
      | succ k ih => intro a; have := ih a; have := hb (a + k); simp only [accB, Nat.pow_succ]; omega
    exact this _ _
  have hp : 0 < 2 ^ e := Nat.two_pow_pos e
  have m1 : ∀ x y : Nat, y < 2 ^ e → (x * 2 ^ e + y) % 2 ^ e = y := fun x y hy => by rw [Nat.mul_comm, Nat.mul_add_mod, Nat.mod_eq_of_lt hy]
  have m2 : ∀ x y : Nat, y < 2 ^ e → (x * 2 ^ e + y) / 2 ^ e = x := fun x y hy => by rw [Nat.mul_comm, Nat.mul_add_div hp, Nat.div_eq_of_lt hy, Nat.add_zero]
  constructor
  · rw [← hacc, m1 _ _ hlt]
    unfold leftB
    rw [hl, h1, h2, show 8 * (B.length / 8 + 1) = 8 * (B.length / 8) + 8 by omega]
  · rw [hl, h1, ← hacc, m2 _ _ hlt]
    have e1 : outB (B ++ six v) (B.length / 8 + 1) = outB (B ++ six v) (B.length / 8) ++ [UInt8.ofNat (accB (B ++ six v) (8 * (B.length / 8)) 8)] := by
      unfold outB
      rw [List.range_succ, List.map_append]
      rfl
    rw [e1, outB_append B _ _ (by omega)]
theorem accB_zero (B : List Nat) (a : Nat) : ∀ k, accB B a k = 0 ↔ ∀ t, t < k → B.getD (a + t) 0 = 0
  | 0 => by simp [accB]
  | k + 1 => by
    have ih := accB_zero B a k
    show 2 * accB B a k + B.getD (a + k) 0 = 0 ↔ _
    constructor
    · intro h t ht
      by_cases e : t = k
      · subst e; omega
      · exact ih.1 (by omega) t (by omega)
    · intro h
      have := ih.2 fun t ht => h t (by omega)
      have := h k (by omega)
      omega
theorem zeroB_left (B : List Nat) : zeroB B (8 * (B.length / 8)) = true ↔ leftB B = 0 := by
  unfold leftB zeroB
  rw [accB_zero, List.all_eq_true]
  constructor
  · intro h t ht
    have hlt : 8 * (B.length / 8) + t < B.length := by omega
    have hm : B[8 * (B.length / 8) + t] ∈ B.drop (8 * (B.length / 8)) := List.mem_drop_iff_getElem.2 ⟨t, by omega, rfl⟩
    have := h _ hm
    rw [List.getD_eq_getElem?_getD, List.getElem?_eq_getElem hlt]
    simpa using this
  · intro h x hx
    obtain ⟨i, hi, rfl⟩ := List.mem_drop_iff_getElem.1 hx
    have := h i (by omega)
    rw [List.getD_eq_getElem?_getD, List.getElem?_eq_getElem (by omega)] at this
    simpa using this
theorem bitsL_snoc (l : List UInt8) (c : UInt8) : bitsL (l ++ [c]) = bitsL l ++ six (num c) := by
  unfold bitsL
  rw [List.flatMap_append]
  simp
end Go.Proofs.Ytpfhbkjjijmpaaa
