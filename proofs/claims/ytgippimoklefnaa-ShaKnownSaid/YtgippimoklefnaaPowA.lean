/-
  Numbers as digits to the base 65536: values, a digit set, carries, which is greater. Plain lists. Conditions: those in each statement.
-/
import Derived.Test.YtgippimoklefnaaArr
namespace Go.Proofs.Ytgippimoklefnaa

def val : List Nat → Nat
  | [] => 0
  | d :: r => d + 65536 * val r

theorem val_append (l r : List Nat) : val (l ++ r) = val l + 65536 ^ l.length * val r := by
  induction l with
  | nil => simp [val]
  | cons x l ih => simp only [List.cons_append, val, ih, List.length_cons, Nat.pow_succ, Nat.mul_add]; rw [Nat.mul_comm (65536 ^ l.length) 65536, Nat.mul_assoc]; omega
theorem val_zeros (n : Nat) : val (List.replicate n 0) = 0 := by
  induction n with
  | zero => rfl
  | succ n ih => simp [List.replicate_succ, val, ih]
theorem val_set (l : List Nat) : ∀ (i v : Nat), i < l.length → val (l.set i v) + l.getD i 0 * 65536 ^ i = val l + v * 65536 ^ i := by
  induction l with
  | nil => intro i v h; simp at h
  | cons x l ih =>
    intro i v h
    cases i with
    | zero => simp [val]; omega
    | succ i =>
      have := ih i v (by simpa using h)
      simp only [List.set_cons_succ, val, List.getD_cons_succ, Nat.pow_succ]
      have e1 : l.getD i 0 * (65536 ^ i * 65536) = 65536 * (l.getD i 0 * 65536 ^ i) := by rw [← Nat.mul_assoc, Nat.mul_comm]
      have e2 : v * (65536 ^ i * 65536) = 65536 * (v * 65536 ^ i) := by rw [← Nat.mul_assoc, Nat.mul_comm]
      rw [e1, e2]
      omega
theorem val_ge (l : List Nat) (i : Nat) (h : i < l.length) : l.getD i 0 * 65536 ^ i ≤ val l := by
  have := val_set l i 0 h
  omega
theorem val_lt (l : List Nat) (h : ∀ i, l.getD i 0 < 65536) : val l < 65536 ^ l.length := by
  induction l with
  | nil => simp [val]
  | cons x l ih =>
    have h0 := h 0
    have := ih fun i => by have := h (i + 1); simpa using this
    simp only [val, List.length_cons, Nat.pow_succ]
    simp at h0
    omega
theorem getD_set (l : List Nat) (i j v : Nat) (h : i < l.length) : (l.set i v).getD j 0 = if i = j then v else l.getD j 0 := by
  simp only [List.getD_eq_getElem?_getD, List.getElem?_set]
  split
  · simp
  · rfl

/-- digits above one are the same, this one is greater: the number is greater -/
theorem val_above (d e : List Nat) (i : Nat) (hl : d.length = e.length) (hi : i < d.length) (he : ∀ j, e.getD j 0 < 65536) (hs : ∀ j, i < j → d.getD j 0 = e.getD j 0) (hd : e.getD i 0 < d.getD i 0) : val e < val d := by
  have sp : ∀ l : List Nat, i < l.length → val l = val (l.take i) + 65536 ^ i * (l.getD i 0 + 65536 * val (l.drop (i + 1))) := fun l h => by
    have e0 : l = l.take i ++ l.getD i 0 :: l.drop (i + 1) := by
      rw [List.getD_eq_getElem?_getD, List.getElem?_eq_getElem h]
      simp
    have := val_append (l.take i) (l.getD i 0 :: l.drop (i + 1))
    rw [← e0] at this
    rw [this, List.length_take, Nat.min_eq_left (by omega)]
    rfl
  have hr : d.drop (i + 1) = e.drop (i + 1) := by
    apply List.ext_getElem?
    intro k
    rw [List.getElem?_drop, List.getElem?_drop]
    have := hs (i + 1 + k) (by omega)
    simp only [List.getD_eq_getElem?_getD] at this
    by_cases hk : i + 1 + k < d.length
    · rw [List.getElem?_eq_getElem hk, List.getElem?_eq_getElem (by omega)] at this ⊢
      simpa using this
    · rw [List.getElem?_eq_none (by omega), List.getElem?_eq_none (by omega)]
  have h1 : val (e.take i) < 65536 ^ i := by
    have := val_lt (e.take i) fun j => by
      by_cases hj : j < i
      · have := he j
        simp only [List.getD_eq_getElem?_getD, List.getElem?_take, hj, if_true] at this ⊢
        exact this
      · simp [List.getD_eq_getElem?_getD, List.getElem?_take, hj]
    rw [List.length_take, Nat.min_eq_left (by omega)] at this
    exact this
  rw [sp d hi, sp e (by omega), hr]
  have h2 : 65536 ^ i * (e.getD i 0 + 65536 * val (e.drop (i + 1))) + 65536 ^ i ≤ 65536 ^ i * (d.getD i 0 + 65536 * val (e.drop (i + 1))) := by
    rw [← Nat.mul_succ]
    exact Nat.mul_le_mul_left _ (by omega)
  omega

/-- the n-th digit's place -/
theorem val_one (i p n : Nat) (h : i < n) : val ((List.replicate n 0).set i p) = p * 65536 ^ i := by
  have := val_set (List.replicate n 0) i p (by simpa using h)
  rw [val_zeros] at this
  have e : (List.replicate n 0).getD i 0 = 0 := by simp [List.getD_eq_getElem?_getD, h]
  rw [e] at this
  omega

/-- behind a row's additions -/
structure MulI (Q q : List Nat) (pi x i j : Nat) : Prop where
  len : q.length = 12
  v : val q = val Q + pi * 65536 ^ i * (x % 65536 ^ j)
  bd : ∀ t, q.getD t 0 < 4294967296
  up : ∀ t, i + j ≤ t → q.getD t 0 < 65536
theorem MulI.step {Q q : List Nat} {pi x i j : Nat} (h : MulI Q q pi x i j) (hp : pi < 65536) (hj : i + j < 12) : q.getD (i + j) 0 + pi * (x / 65536 ^ j % 65536) < 4294967296 ∧ MulI Q (q.set (i + j) (q.getD (i + j) 0 + pi * (x / 65536 ^ j % 65536))) pi x i (j + 1) := by
  have hl := h.len
  have h0 := h.up (i + j) (Nat.le_refl _)
  have h1 : pi * (x / 65536 ^ j % 65536) ≤ 65535 * 65535 := Nat.mul_le_mul (by omega) (by omega)
  have h2 : q.getD (i + j) 0 + pi * (x / 65536 ^ j % 65536) < 4294967296 := by omega
  refine ⟨h2, by simpa using hl, ?_, fun t => ?_, fun t ht => ?_⟩
  · have := val_set q (i + j) (q.getD (i + j) 0 + pi * (x / 65536 ^ j % 65536)) (by omega)
    have hv := h.v
    have e1 : pi * 65536 ^ i * (x % 65536 ^ (j + 1)) = pi * 65536 ^ i * (x % 65536 ^ j) + pi * (x / 65536 ^ j % 65536) * 65536 ^ (i + j) := by
      rw [Nat.pow_succ, Nat.mod_mul, Nat.mul_add, Nat.pow_add]
      congr 1
      rw [Nat.mul_comm (65536 ^ j), ← Nat.mul_assoc, Nat.mul_assoc pi, Nat.mul_comm (65536 ^ i), ← Nat.mul_assoc, Nat.mul_assoc]
    rw [Nat.add_mul] at this
    omega
  · rw [getD_set _ _ _ _ (by omega)]
    split
    · exact h2
    · exact h.bd t
  · rw [getD_set _ _ _ _ (by omega), if_neg (by omega)]
    exact h.up t (by omega)

/-- behind carries -/
structure CarI (V : Nat) (q : List Nat) (j : Nat) : Prop where
  len : q.length = 12
  v : val q = V
  low : ∀ t, t < j → q.getD t 0 < 65536
  at_ : q.getD j 0 < 4295098368
  up : ∀ t, j < t → q.getD t 0 < 4294967296
theorem CarI.step {V : Nat} {q : List Nat} {j : Nat} (h : CarI V q j) (hj : j < 11) : q.getD (j + 1) 0 + q.getD j 0 / 65536 < 4295098368 ∧
    CarI V ((q.set (j + 1) (q.getD (j + 1) 0 + q.getD j 0 / 65536)).set j (q.getD j 0 % 65536)) (j + 1) := by
  have hl := h.len
  have ha := h.at_
  have hu := h.up (j + 1) (by omega)
  refine ⟨by omega, by simpa using hl, ?_, fun t ht => ?_, ?_, fun t ht => ?_⟩
  · have h1 := val_set q (j + 1) (q.getD (j + 1) 0 + q.getD j 0 / 65536) (by omega)
    have h2 := val_set (q.set (j + 1) (q.getD (j + 1) 0 + q.getD j 0 / 65536)) j (q.getD j 0 % 65536) (by simp; omega)
    rw [getD_set _ _ _ _ (by omega), if_neg (by omega)] at h2
    have hv := h.v
    have e1 : q.getD j 0 / 65536 * 65536 ^ (j + 1) + q.getD j 0 % 65536 * 65536 ^ j = q.getD j 0 * 65536 ^ j := by
      rw [Nat.pow_succ, Nat.mul_comm (65536 ^ j) 65536, ← Nat.mul_assoc, ← Nat.add_mul]
      congr 1
      omega
    rw [Nat.add_mul] at h1
    omega
  · rw [getD_set _ _ _ _ (by simp; omega), getD_set _ _ _ _ (by omega)]
    split
    · omega
    · rw [if_neg (by omega)]; exact h.low t (by omega)
  · rw [getD_set _ _ _ _ (by simp; omega), getD_set _ _ _ _ (by omega), if_neg (by omega), if_pos rfl]
    omega
  · rw [getD_set _ _ _ _ (by simp; omega), getD_set _ _ _ _ (by omega), if_neg (by omega), if_neg (by omega)]
    exact h.up t (by omega)
theorem MulI.car {Q q : List Nat} {pi x i j : Nat} (h : MulI Q q pi x i j) : CarI (val q) q 0 :=
  ⟨h.len, rfl, fun t ht => by omega, by have := h.bd 0; omega, fun t _ => h.bd t⟩

/-- digits, and what they say -/
structure Digs (l : List Nat) (V : Nat) : Prop where
  len : l.length = 12
  v : val l = V
  bd : ∀ t, l.getD t 0 < 65536
theorem CarI.digs {V : Nat} {q : List Nat} (h : CarI V q 11) (hV : V < 65536 ^ 11) : Digs q V := by
  refine ⟨h.len, h.v, fun t => ?_⟩
  by_cases ht : t < 11
  · exact h.low t ht
  · by_cases h11 : t = 11
    · subst h11
      have h1 := val_ge q 11 (by have := h.len; omega)
      rw [h.v] at h1
      rcases Nat.eq_zero_or_pos (q.getD 11 0) with h0 | h0
      · omega
      · have : 1 * 65536 ^ 11 ≤ q.getD 11 0 * 65536 ^ 11 := Nat.mul_le_mul_right _ h0
        omega
    · have : q.getD t 0 = 0 := by
        rw [List.getD_eq_getElem?_getD, List.getElem?_eq_none (by have := h.len; omega)]; rfl
      omega
theorem Digs.zero : Digs (List.replicate 12 0) 0 := ⟨by simp, val_zeros 12, fun t => by
  rw [List.getD_eq_getElem?_getD, List.getElem?_replicate]; split <;> simp⟩
theorem Digs.place (i p : Nat) (hi : i < 12) (hp : p < 65536) : Digs ((List.replicate 12 0).set i p) (p * 65536 ^ i) := by
  refine ⟨by simp, val_one i p 12 hi, fun t => ?_⟩
  rw [getD_set _ _ _ _ (by simpa using hi)]
  split
  · exact hp
  · exact Digs.zero.bd t
theorem Digs.start {l : List Nat} {V pi x i : Nat} (h : Digs l V) : MulI l l pi x i 0 :=
  ⟨h.len, by rw [Nat.pow_zero, Nat.mod_one]; omega, fun t => by have := h.bd t; omega, fun t _ => h.bd t⟩

/-- a row's end: the product so far -/
theorem row_end {p Q q : List Nat} {P x i : Nat} (hp : Digs p P) (hQ : Digs Q (val (p.take i) * x)) (hi : i < 12) (hP : P * x < 65536 ^ 11) (h : MulI Q q (p.getD i 0) x i (12 - i)) : val q = val (p.take (i + 1)) * x ∧ val (p.take (i + 1)) * x < 65536 ^ 11 := by
  have hl := hp.len
  have e : p.take (i + 1) = p.take i ++ [p.getD i 0] := by
    rw [List.take_succ_eq_append_getElem (by omega), List.getD_eq_getElem?_getD, List.getElem?_eq_getElem (by omega)]
    rfl
  have e2 : val (p.take (i + 1)) = val (p.take i) + 65536 ^ i * p.getD i 0 := by
    rw [e, val_append, List.length_take, Nat.min_eq_left (by omega)]
    simp [val]
  have hle : val (p.take (i + 1)) ≤ P := by
    have := val_append (p.take (i + 1)) (p.drop (i + 1))
    rw [List.take_append_drop, hp.v] at this
    omega
  have hlx : val (p.take (i + 1)) * x ≤ P * x := Nat.mul_le_mul_right _ hle
  refine ⟨?_, by omega⟩
  rw [h.v, hQ.v, e2, Nat.add_mul]
  congr 1
  rcases Nat.eq_zero_or_pos (p.getD i 0) with h0 | h0
  · rw [h0]; simp
  · have hx : x < 65536 ^ (12 - i) := by
      rcases Nat.lt_or_ge x (65536 ^ (12 - i)) with h1 | h1
      · exact h1
      · have h2 : 65536 ^ i * 65536 ^ (12 - i) ≤ val (p.take (i + 1)) * x := by
          refine Nat.mul_le_mul ?_ h1
          rw [e2]
          have : 65536 ^ i * 1 ≤ 65536 ^ i * p.getD i 0 := Nat.mul_le_mul_left _ h0
          omega
        rw [← Nat.pow_add, show i + (12 - i) = 12 by omega] at h2
        have : (65536 : Nat) ^ 11 < 65536 ^ 12 := by decide
        omega
    rw [Nat.mod_eq_of_lt hx, Nat.mul_comm (p.getD i 0)]
end Go.Proofs.Ytgippimoklefnaa
