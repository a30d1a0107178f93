/-
  Base 64 over plain lists: letters and numbers, groups of three and of four, there and back. Conditions: those in each statement.
-/
import Derived.Test.YtpfhbkjjijmpaaaBytes
namespace Go.Proofs.Ytpfhbkjjijmpaaa

/-- the letter of a number below 64 -/
def ltr (n : Nat) : UInt8 := if n < 26 then UInt8.ofNat (65 + n) else if n < 52 then UInt8.ofNat (71 + n) else if n < 62 then UInt8.ofNat (n - 4) else if n = 62 then 43 else 47
/-- is it a letter? -/
def isL (c : UInt8) : Bool := (65 ≤ c.toNat && c.toNat ≤ 90) || (97 ≤ c.toNat && c.toNat ≤ 122) || (48 ≤ c.toNat && c.toNat ≤ 57) || c.toNat == 43 || c.toNat == 47
/-- a letter's number -/
def num (c : UInt8) : Nat := if 65 ≤ c.toNat ∧ c.toNat ≤ 90 then c.toNat - 65 else if 97 ≤ c.toNat ∧ c.toNat ≤ 122 then c.toNat - 71 else if 48 ≤ c.toNat ∧ c.toNat ≤ 57 then c.toNat + 4 else if c.toNat = 43 then 62 else 63

theorem ltr_facts : ∀ n : Fin 64, isL (ltr n) = true ∧ num (ltr n) = n ∧ ltr n ≠ 61 := by decide +kernel
theorem num_facts : ∀ n : Fin 256, isL (UInt8.ofNat n) = true → num (UInt8.ofNat n) < 64 ∧ ltr (num (UInt8.ofNat n)) = UInt8.ofNat n ∧ UInt8.ofNat n ≠ 61 := by decide +kernel
theorem ltr_isL {n : Nat} (h : n < 64) : isL (ltr n) = true := (ltr_facts ⟨n, h⟩).1
theorem num_ltr {n : Nat} (h : n < 64) : num (ltr n) = n := (ltr_facts ⟨n, h⟩).2.1
theorem ltr_pad {n : Nat} (h : n < 64) : ltr n ≠ 61 := (ltr_facts ⟨n, h⟩).2.2
theorem u8_of (c : UInt8) : UInt8.ofNat c.toNat = c := by simp
theorem num_lt {c : UInt8} (h : isL c = true) : num c < 64 := by
  have := num_facts ⟨c.toNat, c.toNat_lt⟩
  simp only [u8_of] at this
  exact (this h).1
theorem ltr_num {c : UInt8} (h : isL c = true) : ltr (num c) = c := by
  have := num_facts ⟨c.toNat, c.toNat_lt⟩
  simp only [u8_of] at this
  exact (this h).2.1
theorem isL_pad : isL 61 = false := by decide

def b0 (a b : Nat) : UInt8 := UInt8.ofNat (a * 4 + b / 16)
def b1 (b c : Nat) : UInt8 := UInt8.ofNat (b % 16 * 16 + c / 4)
def b2 (c d : Nat) : UInt8 := UInt8.ofNat (c % 4 * 64 + d)

/-- bytes as text -/
def putF : List UInt8 → List UInt8
  | a :: b :: c :: r => ltr (a.toNat / 4) :: ltr (a.toNat % 4 * 16 + b.toNat / 16) :: ltr (b.toNat % 16 * 4 + c.toNat / 64) :: ltr (c.toNat % 64) :: putF r
  | [a, b] => [ltr (a.toNat / 4), ltr (a.toNat % 4 * 16 + b.toNat / 16), ltr (b.toNat % 16 * 4), 61]
  | [a] => [ltr (a.toNat / 4), ltr (a.toNat % 4 * 16), 61, 61]
  | [] => []

/-- the last four of a text -/
def lastF (a b c d : UInt8) : Option (List UInt8) :=
  if isL a && isL b then
    if d = 61 then
      if c = 61 then (if num b % 16 = 0 then some [b0 (num a) (num b)] else none)
      else if isL c then (if num c % 4 = 0 then some [b0 (num a) (num b), b1 (num b) (num c)] else none) else none
    else if isL c && isL d then some [b0 (num a) (num b), b1 (num b) (num c), b2 (num c) (num d)] else none
  else none
/-- text as bytes -/
def takeF : List UInt8 → Option (List UInt8)
  | [] => some []
  | a :: b :: c :: d :: r =>
    if r = [] then lastF a b c d
    else if isL a && isL b && isL c && isL d then (takeF r).map fun y => b0 (num a) (num b) :: b1 (num b) (num c) :: b2 (num c) (num d) :: y else none
  | _ => none

theorem put_nil (b : List UInt8) : putF b = [] ↔ b = [] := by
  rcases b with _ | ⟨a, _ | ⟨b, _ | ⟨c, r⟩⟩⟩ <;> simp [putF]
theorem u8_eq {n : Nat} {c : UInt8} (h : n = c.toNat) : UInt8.ofNat n = c := by rw [h]; exact u8_of c

theorem take_put : ∀ b : List UInt8, takeF (putF b) = some b
  | a :: b :: c :: r => by
    have ih := take_put r
    have ha := a.toNat_lt
    have hb := b.toNat_lt
    have hc := c.toNat_lt
    have n0 : a.toNat / 4 < 64 := by omega
    have n1 : a.toNat % 4 * 16 + b.toNat / 16 < 64 := by omega
    have n2 : b.toNat % 16 * 4 + c.toNat / 64 < 64 := by omega
    have n3 : c.toNat % 64 < 64 := by omega
    have e0 : b0 (a.toNat / 4) (a.toNat % 4 * 16 + b.toNat / 16) = a := u8_eq (by omega)
    have e1 : b1 (a.toNat % 4 * 16 + b.toNat / 16) (b.toNat % 16 * 4 + c.toNat / 64) = b := u8_eq (by omega)
    have e2 : b2 (b.toNat % 16 * 4 + c.toNat / 64) (c.toNat % 64) = c := u8_eq (by omega)
    simp only [putF, takeF]
    by_cases hr : putF r = []
    · have := (put_nil r).1 hr
      subst this
      rw [if_pos hr]
      unfold lastF
      rw [ltr_isL n0, ltr_isL n1, ltr_isL n2, ltr_isL n3, num_ltr n0, num_ltr n1, num_ltr n2, num_ltr n3, e0, e1, e2, if_neg (ltr_pad n3)]
      rfl
    · rw [if_neg hr, ltr_isL n0, ltr_isL n1, ltr_isL n2, ltr_isL n3, num_ltr n0, num_ltr n1, num_ltr n2, num_ltr n3, e0, e1, e2, ih]
      rfl
  | [a, b] => by
    have ha := a.toNat_lt
    have hb := b.toNat_lt
    have n0 : a.toNat / 4 < 64 := by omega
    have n1 : a.toNat % 4 * 16 + b.toNat / 16 < 64 := by omega
    have n2 : b.toNat % 16 * 4 < 64 := by omega
    have e0 : b0 (a.toNat / 4) (a.toNat % 4 * 16 + b.toNat / 16) = a := u8_eq (by omega)
    have e1 : b1 (a.toNat % 4 * 16 + b.toNat / 16) (b.toNat % 16 * 4) = b := u8_eq (by omega)
    simp only [putF, takeF, if_true]
    unfold lastF
    rw [ltr_isL n0, ltr_isL n1, ltr_isL n2, num_ltr n0, num_ltr n1, num_ltr n2, e0, e1, if_neg (ltr_pad n2)]
    have : b.toNat % 16 * 4 % 4 = 0 := by omega
    simp [this]
  | [a] => by
    have ha := a.toNat_lt
    have n0 : a.toNat / 4 < 64 := by omega
    have n1 : a.toNat % 4 * 16 < 64 := by omega
    have e0 : b0 (a.toNat / 4) (a.toNat % 4 * 16) = a := u8_eq (by omega)
    simp only [putF, takeF, if_true]
    unfold lastF
    rw [ltr_isL n0, ltr_isL n1, num_ltr n0, num_ltr n1, e0]
    have : a.toNat % 4 * 16 % 16 = 0 := by omega
    simp [this]
  | [] => rfl

theorem b0_nat {a b : Nat} (ha : a < 64) (hb : b < 64) : (b0 a b).toNat = a * 4 + b / 16 := by
  unfold b0; rw [UInt8.toNat_ofNat']; omega
theorem b1_nat {b c : Nat} (hc : c < 64) : (b1 b c).toNat = b % 16 * 16 + c / 4 := by
  unfold b1; rw [UInt8.toNat_ofNat']; omega
theorem b2_nat {c d : Nat} (hd : d < 64) : (b2 c d).toNat = c % 4 * 64 + d := by
  unfold b2; rw [UInt8.toNat_ofNat']; omega

theorem put_last {a b c d : UInt8} {y : List UInt8} (h : lastF a b c d = some y) : putF y = [a, b, c, d] := by
  unfold lastF at h
  split at h
  · rename_i hab
    rw [Bool.and_eq_true] at hab
    have na := num_lt hab.1
    have nb := num_lt hab.2
    have la := ltr_num hab.1
    have lb := ltr_num hab.2
    split at h
    · rename_i hd
      split at h
      · rename_i hc
        split at h
        · rename_i hz
          cases h
          subst hd hc
          simp only [putF, b0_nat na nb]
          rw [show (num a * 4 + num b / 16) / 4 = num a by omega, show (num a * 4 + num b / 16) % 4 * 16 = num b by omega, la, lb]
        · cases h
      · split at h
        · rename_i hc
          have nc := num_lt hc
          have lc := ltr_num hc
          split at h
          · rename_i hz
            cases h
            subst hd
            simp only [putF, b0_nat na nb, b1_nat nc]
            rw [show (num a * 4 + num b / 16) / 4 = num a by omega, show (num a * 4 + num b / 16) % 4 * 16 + (num b % 16 * 16 + num c / 4) / 16 = num b by omega, show (num b % 16 * 16 + num c / 4) % 16 * 4 = num c by omega, la, lb, lc]
          · cases h
        · cases h
    · split at h
      · rename_i hcd
        rw [Bool.and_eq_true] at hcd
        have nc := num_lt hcd.1
        have nd := num_lt hcd.2
        cases h
        simp only [putF, b0_nat na nb, b1_nat nc, b2_nat nd]
        rw [show (num a * 4 + num b / 16) / 4 = num a by omega, show (num a * 4 + num b / 16) % 4 * 16 + (num b % 16 * 16 + num c / 4) / 16 = num b by omega, show (num b % 16 * 16 + num c / 4) % 16 * 4 + (num c % 4 * 64 + num d) / 64 = num c by omega, show (num c % 4 * 64 + num d) % 64 = num d by omega, la, lb, ltr_num hcd.1, ltr_num hcd.2]
      · cases h
  · cases h
theorem put_take : ∀ (s y : List UInt8), takeF s = some y → putF y = s
  | [], y, h => by simp only [takeF] at h; cases h; rfl
  | [_], _, h => by simp [takeF] at h
  | [_, _], _, h => by simp [takeF] at h
  | [_, _, _], _, h => by simp [takeF] at h
  | a :: b :: c :: d :: r, y, h => by
    simp only [takeF] at h
    split at h
    · rename_i hr
      rw [hr]
      exact put_last h
    · split at h
      · rename_i hl
        simp only [Bool.and_eq_true] at hl
        obtain ⟨⟨⟨ha, hb⟩, hc⟩, hd⟩ := hl
        cases hr : takeF r with
        | none => rw [hr] at h; cases h
        | some z =>
          rw [hr] at h
          cases h
          have ih := put_take r z hr
          have na := num_lt ha
          have nb := num_lt hb
          have nc := num_lt hc
          have nd := num_lt hd
          simp only [putF, b0_nat na nb, b1_nat nc, b2_nat nd]
          rw [show (num a * 4 + num b / 16) / 4 = num a by omega, show (num a * 4 + num b / 16) % 4 * 16 + (num b % 16 * 16 + num c / 4) / 16 = num b by omega, show (num b % 16 * 16 + num c / 4) % 16 * 4 + (num c % 4 * 64 + num d) / 64 = num c by omega, show (num c % 4 * 64 + num d) % 64 = num d by omega, ltr_num ha, ltr_num hb, ltr_num hc, ltr_num hd, ih]
      · cases h

/-- the text's length -/
theorem put_len : ∀ b : List UInt8, (putF b).length = (b.length + 2) / 3 * 4
  | a :: b :: c :: r => by
    have := put_len r
    simp only [putF, List.length_cons, this]
    omega
  | [_, _] => by simp [putF]
  | [_] => by simp [putF]
  | [] => by simp [putF]
/-- one behind the other -/
theorem put_append : ∀ (a b : List UInt8), a.length % 3 = 0 → putF (a ++ b) = putF a ++ putF b
  | [], b, _ => rfl
  | [_], _, h => by simp at h
  | [_, _], _, h => by simp at h
  | x :: y :: z :: r, b, h => by
    have := put_append r b (by simp only [List.length_cons] at h; omega)
    simp only [List.cons_append, putF, this]
/-- letters, then padding at the end alone -/
theorem put_form : ∀ b : List UInt8, ∃ l k, putF b = l ++ List.replicate k 61 ∧ (∀ c ∈ l, isL c = true) ∧ k = (3 - b.length % 3) % 3
  | a :: b :: c :: r => by
    obtain ⟨l, k, h1, h2, h3⟩ := put_form r
    have ha := a.toNat_lt
    have hb := b.toNat_lt
    have hc := c.toNat_lt
    refine ⟨ltr (a.toNat / 4) :: ltr (a.toNat % 4 * 16 + b.toNat / 16) :: ltr (b.toNat % 16 * 4 + c.toNat / 64) :: ltr (c.toNat % 64) :: l, k, by simp only [putF, h1, List.cons_append], ?_, by simp only [List.length_cons]; omega⟩
    intro x hx
    simp only [List.mem_cons] at hx
    rcases hx with rfl | rfl | rfl | rfl | hx
    · exact ltr_isL (by omega)
    · exact ltr_isL (by omega)
    · exact ltr_isL (by omega)
    · exact ltr_isL (by omega)
    · exact h2 x hx
  | [a, b] => by
    have ha := a.toNat_lt
    have hb := b.toNat_lt
    refine ⟨[ltr (a.toNat / 4), ltr (a.toNat % 4 * 16 + b.toNat / 16), ltr (b.toNat % 16 * 4)], 1, by simp [putF], ?_, by simp⟩
    intro x hx
    simp only [List.mem_cons, List.not_mem_nil, or_false] at hx
    rcases hx with rfl | rfl | rfl
    · exact ltr_isL (by omega)
    · exact ltr_isL (by omega)
    · exact ltr_isL (by omega)
  | [a] => by
    have ha := a.toNat_lt
    refine ⟨[ltr (a.toNat / 4), ltr (a.toNat % 4 * 16)], 2, by simp [putF, List.replicate_succ], ?_, by simp⟩
    intro x hx
    simp only [List.mem_cons, List.not_mem_nil, or_false] at hx
    rcases hx with rfl | rfl
    · exact ltr_isL (by omega)
    · exact ltr_isL (by omega)
  | [] => ⟨[], 0, rfl, by simp, rfl⟩
end Go.Proofs.Ytpfhbkjjijmpaaa
