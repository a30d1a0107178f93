/-
  Layer 14: bits that were turned, plainly. Conditions: those in each statement.
-/
import Derived.Test.YtocehaflgpljfaaCrG
namespace Go.Proofs.Ytocehaflgpljfaa
open Go.RowKit

/-- bytes of which bit number k was turned -/
def flipN (l : List UInt8) (k : Nat) : List UInt8 := l.set (k / 8) (l.getD (k / 8) 0 ^^^ UInt8.ofNat (2 ^ (k % 8)))
theorem flipN_len (l : List UInt8) (k : Nat) : (flipN l k).length = l.length := by simp [flipN]
theorem bit_flip (c : UInt8) (r i : Nat) (hr : r < 8) : (c ^^^ UInt8.ofNat (2 ^ r)).toNat.testBit i = (c.toNat.testBit i ^^ decide (r = i)) := by
  rw [UInt8.toNat_xor, UInt8.toNat_ofNat', Nat.testBit_xor]
  have h : 2 ^ r < 256 := Nat.lt_of_lt_of_le (Nat.pow_lt_pow_right (by omega) hr) (by decide)
  rw [Nat.mod_eq_of_lt (by simpa using h), Nat.testBit_two_pow]
/-- bit number j -/
def bitN (l : List UInt8) (j : Nat) : Bool := (l.getD (j / 8) 0).toNat.testBit (j % 8)
theorem byb_bitN (l : List UInt8) (j : Nat) (h : j < 8 * l.length) : (byb l)[j]? = some (bitN l j) := by
  have := byb_get l (j / 8) (j % 8) (by omega) (by omega)
  rwa [show 8 * (j / 8) + j % 8 = j by omega] at this
theorem flip_bit (l : List UInt8) (k j : Nat) (hk : k < 8 * l.length) : bitN (flipN l k) j = (bitN l j ^^ decide (k = j)) := by
  unfold bitN flipN
  by_cases e : k / 8 = j / 8
  · rw [← e, List.getD_eq_getElem?_getD, List.getElem?_set_self (by omega), Option.getD_some, bit_flip _ _ _ (by omega)]
    congr 1
    apply decide_eq_decide.2
    omega
  · rw [List.getD_eq_getElem?_getD, List.getElem?_set_ne e, ← List.getD_eq_getElem?_getD, decide_eq_false (by omega : ¬ k = j), Bool.xor_false]
/-- .. of which c bits from first on were turned, if B has them from low on -/
def flips (xs : List UInt8) (first low B : Nat) : Nat → List UInt8
  | 0 => xs
  | c + 1 => if B.testBit (low + c) = true ∧ first + c < 8 * xs.length then flipN (flips xs first low B c) (first + c) else flips xs first low B c
theorem flips_len (xs : List UInt8) (first low B : Nat) : ∀ c, (flips xs first low B c).length = xs.length := by
  intro c
  induction c with
  | zero => rfl
  | succ c ih =>
    rw [flips]
    split
    · rw [flipN_len, ih]
    · exact ih
def maskN (first low B c j : Nat) : Bool := decide (first ≤ j) && decide (j < first + c) && B.testBit (low + (j - first))
theorem flips_bit (xs : List UInt8) (first low B : Nat) : ∀ c j, j < 8 * xs.length → bitN (flips xs first low B c) j = (bitN xs j ^^ maskN first low B c j) := by
  intro c
  induction c with
  | zero =>
    intro j _
    have : maskN first low B 0 j = false := by
      unfold maskN
      by_cases h : first ≤ j
      · rw [decide_eq_false (by omega : ¬ j < first + 0)]; simp
      · rw [decide_eq_false h]; simp
    rw [this, Bool.xor_false]
    rfl
  | succ c ih =>
    intro j hj
    have step : maskN first low B (c + 1) j = (maskN first low B c j ^^ (decide (first + c = j) && B.testBit (low + c))) := by
      unfold maskN
      by_cases e : first + c = j
      · subst e
        simp
      · rw [decide_eq_false e, Bool.false_and, Bool.xor_false]
        congr 2
        apply decide_eq_decide.2
        omega
    rw [flips, step, ← Bool.xor_assoc, ← ih j hj]
    by_cases h : B.testBit (low + c) = true ∧ first + c < 8 * xs.length
    · rw [if_pos h, flip_bit _ _ _ (by rw [flips_len]; exact h.2), h.1, Bool.and_true]
    · rw [if_neg h]
      have : (decide (first + c = j) && B.testBit (low + c)) = false := by
        by_cases e : first + c = j
        · cases hb : B.testBit (low + c) with
          | false => simp
          | true => exact absurd ⟨hb, by omega⟩ h
        · simp [e]
      rw [this, Bool.xor_false]
theorem xorB_len : ∀ (us bs : List Bool), us.length = bs.length → (xorB us bs).length = us.length := by
  intro us
  induction us with
  | nil => intro bs h; cases bs <;> simp [xorB] at h ⊢
  | cons a us ih =>
    intro bs h
    match bs, h with
    | b :: bs, h =>
      show ((a ^^ b) :: xorB us bs).length = _
      simp [ih bs (by simpa using h)]
theorem xorB_get : ∀ (us bs : List Bool) (j : Nat) (x y : Bool), us[j]? = some x → bs[j]? = some y → (xorB us bs)[j]? = some (x ^^ y) := by
  intro us
  induction us with
  | nil => intro bs j x y h; simp at h
  | cons a us ih =>
    intro bs j x y h h2
    cases bs with
    | nil => simp at h2
    | cons b bs =>
      cases j with
      | zero =>
        simp at h h2
        subst h h2
        rfl
      | succ j => exact ih bs j x y (by simpa using h) (by simpa using h2)
/-- P14.4: turned bits are seen -/
theorem flips_sum (xs : List UInt8) (first low B c : Nat) (hf : first < 8 * xs.length) (h1 : 0 < c) (h32 : c ≤ 32) (hb : B.testBit low = true) : sumF (flips xs first low B c) ≠ sumF xs := by
  have hl := flips_len xs first low B c
  have l1 := byb_len (flips xs first low B c)
  have l2 := byb_len xs
  rw [hl] at l1
  rw [sumF_bits, sumF_bits]
  intro e
  have e2 := congrArg (~~~ ·) e
  simp only [BitVec.not_not] at e2
  revert e2
  apply tells _ _ _ (by omega)
  obtain ⟨N, hN⟩ : ∃ N, N = 8 * xs.length := ⟨_, rfl⟩
  obtain ⟨s, hs⟩ : ∃ s, s = min c (N - first) := ⟨_, rfl⟩
  have hx : xorB (byb (flips xs first low B c)) (byb xs) = List.replicate first false ++ ((List.range s).map fun j => B.testBit (low + j)) ++ List.replicate (N - first - s) false := by
    apply List.ext_getElem?
    intro j
    by_cases hj : j < N
    · have g := xorB_get _ _ j _ _ (byb_bitN (flips xs first low B c) j (by omega)) (byb_bitN xs j (by omega))
      rw [g, flips_bit xs first low B c j (by omega)]
      have g2 : ((bitN xs j ^^ maskN first low B c j) ^^ bitN xs j) = maskN first low B c j := by cases bitN xs j <;> cases maskN first low B c j <;> rfl
      rw [g2]
      unfold maskN
      by_cases c1 : j < first
      · rw [List.append_assoc, List.getElem?_append_left (by simpa using c1), List.getElem?_replicate, if_pos c1, decide_eq_false (by omega : ¬ first ≤ j)]
        rfl
      · by_cases c2 : j < first + s
        · rw [List.getElem?_append_left (by simp; omega), List.getElem?_append_right (by simp; omega), decide_eq_true (by omega : first ≤ j), decide_eq_true (by omega : j < first + c)]
          simp only [List.length_replicate]
          rw [List.getElem?_map, List.getElem?_range (by omega)]
          rfl
        · rw [List.getElem?_append_right (by simp; omega), List.getElem?_replicate, if_pos (by simp; omega), decide_eq_false (by omega : ¬ j < first + c)]
          simp
    · rw [List.getElem?_eq_none (by rw [xorB_len _ _ (by omega)]; omega), List.getElem?_eq_none (by simp; omega)]
  rw [hx]
  refine burst_seen _ _ _ (by simp; omega) ?_
  rw [List.mem_map]
  exact ⟨0, by simp; omega, by simpa using hb⟩
theorem flipN_sum (xs : List UInt8) (k : Nat) (hk : k < 8 * xs.length) : sumF (flipN xs k) ≠ sumF xs := by
  have h := flips_sum xs k 0 1 1 hk (by omega) (by omega) (by decide)
  rwa [show flips xs k 0 1 1 = flipN xs k by rw [flips, if_pos ⟨by decide, by omega⟩]; rfl] at h
theorem xor_pow_ne (c : UInt8) (r : Nat) (hr : r < 8) : c ^^^ UInt8.ofNat (2 ^ r) ≠ c := by
  intro e
  have h := bit_flip c r r hr
  rw [e] at h
  simp at h
/-- no frame is another one of which one bit was turned -/
theorem take_flip (xs : List UInt8) (k : Nat) (hk : k < 8 * (xs.length + 4)) : takeF (flipN (putF xs) k) = none := by
  cases h : takeF (flipN (putF xs) k) with
  | none => rfl
  | some ys =>
    exfalso
    have e := takeF_some h
    have hl := congrArg List.length e
    rw [putF_len, flipN_len, putF_len] at hl
    have hyl : ys.length = xs.length := by omega
    by_cases hc : k / 8 < xs.length
    · have e1 : flipN (putF xs) k = flipN xs k ++ be4 (sumF xs) := by
        unfold flipN putF
        rw [List.set_append_left _ _ hc]
        congr 3
        rw [List.getD_eq_getElem?_getD, List.getElem?_append_left hc, ← List.getD_eq_getElem?_getD]
      rw [e1] at e
      unfold putF at e
      obtain ⟨e2, e3⟩ := List.append_inj e (by rw [flipN_len, hyl])
      have e4 := be4_inj e3
      rw [e2] at e4
      exact flipN_sum xs k (by omega) e4
    · have e1 : flipN (putF xs) k = xs ++ (be4 (sumF xs)).set (k / 8 - xs.length) ((putF xs).getD (k / 8) 0 ^^^ UInt8.ofNat (2 ^ (k % 8))) := by
        unfold flipN
        conv => lhs; rw [show (putF xs).set (k / 8) _ = (xs ++ be4 (sumF xs)).set (k / 8) _ from rfl]
        rw [List.set_append_right _ _ (by omega)]
      rw [e1] at e
      unfold putF at e
      obtain ⟨e2, e3⟩ := List.append_inj e hyl
      subst e2
      have hb : (be4 (sumF ys)).length = 4 := rfl
      have g := congrArg (fun l => l[k / 8 - ys.length]?) e3
      rw [List.getElem?_set_self (by omega), List.getD_eq_getElem?_getD, List.getElem?_append_right (by omega)] at g
      rw [List.getElem?_eq_getElem (by omega)] at g
      have g2 := Option.some.inj g
      simp only [Option.getD_some] at g2
      exact xor_pow_ne _ _ (by omega) g2.symm
theorem lowB_ex (B : Nat) (h0 : 0 < B) (h : B < 2 ^ 32) : ∃ L, L < 32 ∧ B.testBit L = true ∧ ∀ i, i < L → B.testBit i = false := by
  have hx : ∃ i, B.testBit i = true := by
    apply Classical.byContradiction
    intro hn
    have : B = 0 := Nat.eq_of_testBit_eq fun i => by
      rw [Nat.zero_testBit]
      cases hb : B.testBit i with
      | false => rfl
      | true => exact absurd ⟨i, hb⟩ hn
    omega
  obtain ⟨i, hi⟩ := hx
  have hm : ∀ n, (∃ i, i ≤ n ∧ B.testBit i = true) → ∃ L, B.testBit L = true ∧ ∀ i, i < L → B.testBit i = false := by
    intro n
    induction n with
    | zero => rintro ⟨i, hi, hb⟩; exact ⟨i, hb, fun j hj => by omega⟩
    | succ n ih =>
      rintro ⟨i, hi, hb⟩
      by_cases hc : ∃ i, i ≤ n ∧ B.testBit i = true
      · exact ih hc
      · refine ⟨i, hb, fun j hj => ?_⟩
        cases hj2 : B.testBit j with
        | false => rfl
        | true => exact absurd ⟨j, by omega, hj2⟩ hc
  obtain ⟨L, h1, h2⟩ := hm i ⟨i, Nat.le_refl _, hi⟩
  refine ⟨L, ?_, h1, h2⟩
  apply Classical.byContradiction
  intro hc
  rw [Nat.testBit_lt_two_pow (Nat.lt_of_lt_of_le h (Nat.pow_le_pow_right (by omega) (by omega)))] at h1
  cases h1
end Go.Proofs.Ytocehaflgpljfaa
