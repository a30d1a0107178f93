/-
  Layer 7: whole numbers and halves as 64-bit floats: what the words of small numbers read as; their sums, differences, products with 2, halves, floors and integers are exact. Conditions: those in each statement.
-/
import Derived.Test.YtbhmgkpkagjmnaaRows
import Derived.Laws.FloatArith
import Derived.Laws.ComplexArith
import Derived.Laws.Cover3
import Derived.Laws.Externs
namespace Go.Proofs.Ytbhmgkpkagjmnaa
open Ieee

/-- the word of n * 2 ^ e, where n is below 2 ^ 53 -/
def fw (n : Nat) (e : Int) : Nat := if n = 0 then 0 else (e + (n.log2 : Int) + 1022).toNat * 2 ^ 52 + n * 2 ^ (52 - n.log2)

theorem log2_shift (n k : Nat) (hn : n ≠ 0) : (n * 2 ^ k).log2 = n.log2 + k := by
  have hp : 0 < 2 ^ k := Nat.two_pow_pos k
  have h1 := Nat.log2_self_le hn
  have h2 := @Nat.lt_log2_self n
  have hm : n * 2 ^ k ≠ 0 := Nat.mul_ne_zero hn (by omega)
  have a : n.log2 + k ≤ (n * 2 ^ k).log2 := by
    rw [Nat.le_log2 hm, Nat.pow_add]
    exact Nat.mul_le_mul_right _ h1
  have b : (n * 2 ^ k).log2 < n.log2 + 1 + k := by
    rw [Nat.log2_lt hm, Nat.pow_add]
    exact Nat.mul_lt_mul_of_pos_right h2 hp
  omega

theorem log2_le52 {n : Nat} (hn : n ≠ 0) (h : n < 2 ^ 53) : n.log2 ≤ 52 := by
  have := (Nat.log2_lt hn).2 h
  omega

/-- the digits of n, 53 of them -/
theorem mant {n : Nat} (hn : n ≠ 0) (h : n < 2 ^ 53) : 2 ^ 52 ≤ n * 2 ^ (52 - n.log2) ∧ n * 2 ^ (52 - n.log2) < 2 ^ 53 := by
  have hL := log2_le52 hn h
  have h1 := Nat.log2_self_le hn
  have h2 := @Nat.lt_log2_self n
  have hp : 0 < 2 ^ (52 - n.log2) := Nat.two_pow_pos _
  constructor
  · have := Nat.mul_le_mul_right (2 ^ (52 - n.log2)) h1
    rw [← Nat.pow_add] at this
    rwa [show n.log2 + (52 - n.log2) = 52 by omega] at this
  · have := Nat.mul_lt_mul_of_pos_right h2 hp
    rw [← Nat.pow_add] at this
    rwa [show n.log2 + 1 + (52 - n.log2) = 53 by omega] at this

theorem dleast : double.leastPlace = -1074 := by decide
theorem dbin : double.binade = 2 ^ 52 := rfl
theorem dinf : double.infRung = 2047 * 2 ^ 52 := by decide
theorem dsign : double.signWeight = 2 ^ 63 := rfl

theorem cut_even0 (n : Nat) : Toward.even.cut false n 0 = n := by
  simp [Toward.cut, Nat.mod_one]
theorem cut_even_exact (n k : Nat) (hn : n ≠ 0) : Toward.even.cut false (n * 2 ^ k) k = n := by
  have hl := log2_shift n k hn
  have hp : 0 < 2 ^ k := Nat.two_pow_pos k
  have hmin : min k ((n * 2 ^ k).log2 + 2) = k := by omega
  simp only [Toward.cut, hmin, Nat.one_shiftLeft, Nat.mul_div_cancel _ hp, Nat.mul_mod_left]
  have h1 : ¬ (2 ^ k < 2 * 0) := by omega
  have h2 : (2 ^ k == 2 * 0) = false := by simp
  simp [h1, h2]

theorem nearest_fw (n k : Nat) (e : Int) (h : n < 2 ^ 53) (he : -1000 ≤ e) (he0 : e ≤ 0) : double.nearest false (n * 2 ^ k) (e - (k : Int)) = fw n e := by
  by_cases hn : n = 0
  · subst hn
    simp [Format.nearest, fw, Format.word]
  · have hp : 0 < 2 ^ k := Nat.two_pow_pos k
    have hm : n * 2 ^ k ≠ 0 := Nat.mul_ne_zero hn (by omega)
    have hL := log2_le52 hn h
    obtain ⟨m1, m2⟩ := mant hn h
    have hlast : max (e - (k : Int) + ((n * 2 ^ k).log2 : Int) - (52 : Nat)) (-1074) = e + (n.log2 : Int) - 52 := by
      rw [log2_shift n k hn]
      push_cast
      omega
    have hkept : Toward.even.cut false ((n * 2 ^ k) <<< (e - (k : Int) - (e + (n.log2 : Int) - 52)).toNat) ((e + (n.log2 : Int) - 52) - (e - (k : Int))).toNat = n * 2 ^ (52 - n.log2) := by
      by_cases hk : k ≤ 52 - n.log2
      · rw [show ((e + (n.log2 : Int) - 52) - (e - (k : Int))).toNat = 0 by omega, cut_even0, show (e - (k : Int) - (e + (n.log2 : Int) - 52)).toNat = 52 - n.log2 - k by omega, Nat.shiftLeft_eq, Nat.mul_assoc, ← Nat.pow_add, show k + (52 - n.log2 - k) = 52 - n.log2 by omega]
      · rw [show (e - (k : Int) - (e + (n.log2 : Int) - 52)).toNat = 0 by omega, show ((e + (n.log2 : Int) - 52) - (e - (k : Int))).toNat = k - (52 - n.log2) by omega, Nat.shiftLeft_zero]
        have e1 : n * 2 ^ k = n * 2 ^ (52 - n.log2) * 2 ^ (k - (52 - n.log2)) := by
          rw [Nat.mul_assoc, ← Nat.pow_add, show 52 - n.log2 + (k - (52 - n.log2)) = k by omega]
        rw [e1, cut_even_exact _ _ (by omega)]
    have hE : (e + (n.log2 : Int) - 52 - -1074).toNat = (e + (n.log2 : Int) + 1022).toNat := by congr 1; omega
    have hE2 : (e + (n.log2 : Int) + 1022).toNat ≤ 1074 := by omega
    simp only [Format.nearest, if_neg hm, fw, if_neg hn, dleast, dbin, dinf, show double.fractionBits = 52 from rfl]
    rw [hlast, hkept, hE]
    simp only [Format.word, Bool.false_eq_true, if_false]
    omega

theorem read_fw (n : Nat) (e : Int) (hn : n ≠ 0) (h : n < 2 ^ 53) (he : -1000 ≤ e) (he0 : e ≤ 0) : double.read (fw n e) = .number false (n * 2 ^ (52 - n.log2)) (e + (n.log2 : Int) - 52) := by
  have hL := log2_le52 hn h
  obtain ⟨m1, m2⟩ := mant hn h
  obtain ⟨E, hE⟩ : ∃ E : Nat, E = (e + (n.log2 : Int) + 1022).toNat := ⟨_, rfl⟩
  obtain ⟨M, hM⟩ : ∃ M : Nat, M = n * 2 ^ (52 - n.log2) := ⟨_, rfl⟩
  simp only [Format.read, fw, if_neg hn, dleast, dbin, dinf, dsign, ← hE, ← hM]
  rw [← hM] at m1 m2
  have hE2 : E ≤ 1074 := by omega
  have c1 : (E * 2 ^ 52 + M) / 2 ^ 63 % 2 = 0 := by omega
  have c2 : (E * 2 ^ 52 + M) % 2 ^ 63 = E * 2 ^ 52 + M := by omega
  have c3 : ¬ (E * 2 ^ 52 + M < 2 ^ 52) := by omega
  have c4 : E * 2 ^ 52 + M < 2047 * 2 ^ 52 := by omega
  have c5 : 2 ^ 52 + (E * 2 ^ 52 + M) % 2 ^ 52 = M := by omega
  have c6 : (E * 2 ^ 52 + M) / 2 ^ 52 - 1 = E := by omega
  rw [c2, if_neg c3, if_pos c4, c5, c6, c1]
  simp only [Datum.number.injEq, true_and]
  refine ⟨rfl, ?_⟩
  omega
theorem read_zero : double.read 0 = .number false 0 (-1074) := by decide

/-- a whole number's word -/
def F (n : Nat) : Nat := fw n 0

/-- its sense, with some power of 2 -/
theorem read_F (n : Nat) (h : n < 2 ^ 53) : ∃ j : Nat, double.read (F n) = .number false (n * 2 ^ j) (-(j : Int)) ∧ (n ≠ 0 → j = 52 - n.log2) := by
  by_cases hn : n = 0
  · subst hn
    obtain ⟨j, hj⟩ : ∃ j : Nat, j = 1074 := ⟨_, rfl⟩
    exact ⟨j, by rw [show F 0 = 0 from rfl, read_zero, Nat.zero_mul, hj]; rfl, fun h => absurd rfl h⟩
  · refine ⟨52 - n.log2, ?_, fun _ => rfl⟩
    have hL := log2_le52 hn h
    rw [F, read_fw n 0 hn h (by omega) (by omega)]
    congr 1
    omega

theorem F_of_int (n : Nat) (h : n < 2 ^ 53) : floatOfInt .f64 (n : Int) = F n := by
  have := nearest_fw n 0 0 h (by omega) (by omega)
  have hd : decide ((n : Int) < 0) = false := decide_eq_false (by omega)
  simpa [floatOfInt, FloatKind.nearest, FloatKind.encode, FloatKind.format, Format.write, F, hd] using this

theorem write_F (n k : Nat) (p : Int) (h : n < 2 ^ 53) (hp : p = -(k : Int)) : double.write (.number false (n * 2 ^ k) p) = F n := by
  subst hp
  have := nearest_fw n k 0 h (by omega) (by omega)
  simpa [Format.write, F] using this

theorem signed_pos (m s : Nat) : signed false m s = ((m * 2 ^ s : Nat) : Int) := by
  simp [signed, Nat.shiftLeft_eq]
theorem signed_neg (m s : Nat) : signed true m s = -((m * 2 ^ s : Nat) : Int) := by
  simp [signed, Nat.shiftLeft_eq]

theorem add_F (a b : Nat) (ha : a < 2 ^ 52) (hb : b < 2 ^ 52) : floatBits .add .f64 (F a) (F b) = some (F (a + b)) := by
  obtain ⟨i, hi, _⟩ := read_F a (by omega)
  obtain ⟨j, hj, _⟩ := read_F b (by omega)
  obtain ⟨J, hJ⟩ : ∃ J : Nat, J = max i j := ⟨_, rfl⟩
  have hmin : min (-(i : Int)) (-(j : Int)) = -(J : Int) := by omega
  have s1 : a * 2 ^ i * 2 ^ ((-(i : Int)) - -(J : Int)).toNat = a * 2 ^ J := by
    rw [Nat.mul_assoc, ← Nat.pow_add]
    congr 2
    omega
  have s2 : b * 2 ^ j * 2 ^ ((-(j : Int)) - -(J : Int)).toNat = b * 2 ^ J := by
    rw [Nat.mul_assoc, ← Nat.pow_add]
    congr 2
    omega
  have ht : ((a * 2 ^ J : Nat) : Int) + ((b * 2 ^ J : Nat) : Int) = (((a + b) * 2 ^ J : Nat) : Int) := by rw [← Int.natCast_add, Nat.add_mul]
  simp only [floatBits, FloatKind.format, Format.add, hi, hj, Datum.sum, hmin, signed_pos, s1, s2, ht]
  have hs : (if (((a + b) * 2 ^ J : Nat) : Int) = 0 then false && false else decide ((((a + b) * 2 ^ J : Nat) : Int) < 0)) = false := by
    split
    · rfl
    · simp only [decide_eq_false_iff_not]; omega
  rw [hs, Int.natAbs_natCast, Option.map_some, write_F _ _ _ (by omega) rfl]

theorem sub_F (a b : Nat) (ha : a < 2 ^ 52) (hb : b ≤ a) : floatBits .sub .f64 (F a) (F b) = some (F (a - b)) := by
  obtain ⟨i, hi, _⟩ := read_F a (by omega)
  obtain ⟨j, hj, _⟩ := read_F b (by omega)
  obtain ⟨J, hJ⟩ : ∃ J : Nat, J = max i j := ⟨_, rfl⟩
  have hmin : min (-(i : Int)) (-(j : Int)) = -(J : Int) := by omega
  have s1 : a * 2 ^ i * 2 ^ ((-(i : Int)) - -(J : Int)).toNat = a * 2 ^ J := by
    rw [Nat.mul_assoc, ← Nat.pow_add]
    congr 2
    omega
  have s2 : b * 2 ^ j * 2 ^ ((-(j : Int)) - -(J : Int)).toNat = b * 2 ^ J := by
    rw [Nat.mul_assoc, ← Nat.pow_add]
    congr 2
    omega
  have hle : b * 2 ^ J ≤ a * 2 ^ J := Nat.mul_le_mul_right _ hb
  have ht : ((a * 2 ^ J : Nat) : Int) + -((b * 2 ^ J : Nat) : Int) = (((a - b) * 2 ^ J : Nat) : Int) := by rw [Nat.sub_mul]; omega
  simp only [floatBits, FloatKind.format, Format.sub, hi, hj, Datum.opposite, Datum.sum, hmin, signed_pos, Bool.not_false, signed_neg, s1, s2, ht]
  have hs : (if (((a - b) * 2 ^ J : Nat) : Int) = 0 then false && true else decide ((((a - b) * 2 ^ J : Nat) : Int) < 0)) = false := by
    split
    · rfl
    · simp only [decide_eq_false_iff_not]; omega
  rw [hs, Int.natAbs_natCast, Option.map_some, write_F _ _ _ (by omega) rfl]

theorem F1 : F 1 = 4607182418800017408 := by decide
theorem F2 : F 2 = 4611686018427387904 := by decide
theorem F0 : F 0 = 0 := rfl

theorem read2 : double.read (F 2) = .number false (2 ^ 52) (-51) := by decide

theorem mul_F (a : Nat) (ha : a < 2 ^ 52) : floatBits .mul .f64 (F a) (F 2) = some (F (2 * a)) := by
  obtain ⟨i, hi, _⟩ := read_F a (by omega)
  have e : a * 2 ^ i * 2 ^ 52 = 2 * a * 2 ^ (i + 51) := by
    rw [Nat.pow_add, show (2 : Nat) ^ 52 = 2 * 2 ^ 51 from rfl]
    simp only [Nat.mul_comm, Nat.mul_left_comm, Nat.mul_assoc]
  simp only [floatBits, FloatKind.format, Format.mul, hi, read2, Datum.product, e, Bool.xor_false, Option.map_some]
  rw [write_F _ _ _ (by omega) (by omega)]

theorem half_F (a : Nat) (ha : a < 2 ^ 52) : floatBits .quo .f64 (F a) (F 2) = some (fw a (-1)) := by
  by_cases hn : a = 0
  · subst hn
    decide
  · obtain ⟨i, hi, hi2⟩ := read_F a (by omega)
    have hL := log2_le52 hn (by omega)
    have hi3 := hi2 hn
    have hlog : (a * 2 ^ i).log2 = 52 := by rw [log2_shift _ _ hn]; omega
    have hl2 : ((2 : Nat) ^ 52).log2 = 52 := by decide
    have e1 : (a * 2 ^ i) <<< (54 + 52 - 52) = a * 2 ^ (i + 2) * 2 ^ 52 := by
      rw [Nat.shiftLeft_eq, Nat.mul_assoc, Nat.mul_assoc, ← Nat.pow_add, ← Nat.pow_add]
    have e2 : a * 2 ^ (i + 2) * 2 ^ 52 / 2 ^ 52 = a * 2 ^ (i + 2) := Nat.mul_div_cancel _ (by decide)
    have e3 : a * 2 ^ (i + 2) * 2 ^ 52 % 2 ^ 52 = 0 := Nat.mul_mod_left _ _
    have e4 : 2 * (a * 2 ^ (i + 2)) + 0 = a * 2 ^ (i + 3) := by
      rw [show i + 3 = (i + 2) + 1 by omega, Nat.pow_succ 2 (i + 2)]
      simp only [Nat.mul_comm, Nat.mul_left_comm, Nat.add_zero]
    simp only [floatBits, FloatKind.format, Format.div, hi, read2, Datum.quotient, show double.fractionBits + 2 = 54 from rfl, hlog, hl2, if_neg (show ¬ (2 : Nat) ^ 52 = 0 by decide), e1, e2, e3, Bool.xor_false, Option.map_some]
    have e5 : ((0 : Nat) != 0).toNat = 0 := rfl
    rw [e5, e4, Format.write, show (-(i : Int) - -51 - ((54 + 52 - 52 : Nat) : Int) - 1) = -1 - ((i + 3 : Nat) : Int) by push_cast; omega, nearest_fw a (i + 3) (-1) (by omega) (by omega) (by omega)]

theorem floor_half (a : Nat) (ha : a < 2 ^ 52) : ((FloatKind.f64.decode (fw a (-1))).integral .down) = .number false (a / 2) 0 := by
  by_cases hn : a = 0
  · subst hn
    decide
  · have hL := log2_le52 hn (by omega)
    have hlog : (a * 2 ^ (52 - a.log2)).log2 = 52 := by rw [log2_shift _ _ hn]; omega
    simp only [FloatKind.decode, FloatKind.format]
    rw [read_fw a (-1) hn (by omega) (by omega) (by omega)]
    simp only [Datum.integral, show (-1 + (a.log2 : Int) - 52).toNat = 0 by omega, Nat.shiftLeft_zero, Toward.cut, show (-(-1 + (a.log2 : Int) - 52)).toNat = 53 - a.log2 by omega, hlog, show min (53 - a.log2) (52 + 2) = 53 - a.log2 by omega, Nat.one_shiftLeft]
    have e1 : a * 2 ^ (52 - a.log2) / 2 ^ (53 - a.log2) = a / 2 := by
      rw [show 53 - a.log2 = 1 + (52 - a.log2) by omega, Nat.pow_add, Nat.mul_div_mul_right _ _ (Nat.two_pow_pos _)]
    rw [e1]
    simp

theorem encode_F (a : Nat) (ha : a < 2 ^ 53) : FloatKind.f64.encode (.number false a 0) = F a := by
  have := write_F a 0 0 ha rfl
  simpa [FloatKind.encode, FloatKind.format] using this

theorem toInt_F (a : Nat) (ha : a < 2 ^ 53) : (FloatKind.f64.decode (F a)).toInt .zero = some (a : Int) := by
  by_cases hn : a = 0
  · subst hn
    decide
  · have hL := log2_le52 hn ha
    have hlog : (a * 2 ^ (52 - a.log2)).log2 = 52 := by rw [log2_shift _ _ hn]; omega
    simp only [FloatKind.decode, FloatKind.format, F]
    rw [read_fw a 0 hn ha (by omega) (by omega)]
    simp only [Datum.toInt, Datum.integral, show (0 + (a.log2 : Int) - 52).toNat = 0 by omega, Nat.shiftLeft_zero, Toward.cut, show (-(0 + (a.log2 : Int) - 52)).toNat = 52 - a.log2 by omega, hlog, show min (52 - a.log2) (52 + 2) = 52 - a.log2 by omega, Nat.one_shiftLeft, Nat.mul_div_cancel _ (Nat.two_pow_pos _)]
    simp [signed_pos]

theorem int_F (k : IntKind) (a : Nat) (ha : a < 2 ^ 53) (h1 : k.min ≤ (a : Int)) (h2 : (a : Int) ≤ k.max) : floatToIntVal .f64 (F a) k = some (a : Int) := by
  simp [floatToIntVal, toInt_F a ha, h1, h2]

theorem order_F (a b : Nat) (ha : a < 2 ^ 53) (hb : b < 2 ^ 53) : (FloatKind.f64.format.order (F a) (F b) == some .eq) = decide (a = b) := by
  obtain ⟨i, hi, _⟩ := read_F a ha
  obtain ⟨j, hj, _⟩ := read_F b hb
  obtain ⟨J, hJ⟩ : ∃ J : Nat, J = max i j := ⟨_, rfl⟩
  have hmin : min (-(i : Int)) (-(j : Int)) = -(J : Int) := by omega
  have s1 : a * 2 ^ i * 2 ^ ((-(i : Int)) - -(J : Int)).toNat = a * 2 ^ J := by
    rw [Nat.mul_assoc, ← Nat.pow_add]
    congr 2
    omega
  have s2 : b * 2 ^ j * 2 ^ ((-(j : Int)) - -(J : Int)).toNat = b * 2 ^ J := by
    rw [Nat.mul_assoc, ← Nat.pow_add]
    congr 2
    omega
  simp only [FloatKind.format, Format.order, hi, hj, Datum.order, hmin, signed_pos, s1, s2]
  by_cases h : a = b
  · subst h
    simp
  · have hne : a * 2 ^ J ≠ b * 2 ^ J := fun e => h (Nat.eq_of_mul_eq_mul_right (Nat.two_pow_pos _) e)
    have h3 : ((a * 2 ^ J : Nat) : Int) ≠ ((b * 2 ^ J : Nat) : Int) := fun e => hne (Int.ofNat.inj e)
    have h2 : compare ((a * 2 ^ J : Nat) : Int) ((b * 2 ^ J : Nat) : Int) ≠ .eq := fun e => h3 (Int.compare_eq_eq.1 e)
    generalize compare ((a * 2 ^ J : Nat) : Int) ((b * 2 ^ J : Nat) : Int) = c at h2
    cases c <;> simp_all
end Go.Proofs.Ytbhmgkpkagjmnaa
