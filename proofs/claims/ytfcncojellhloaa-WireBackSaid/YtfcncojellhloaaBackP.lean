/-
  What things are as bytes, and what a reader of them, or of a beginning, tells: plain lists. Conditions: those in each statement.
-/
import Derived.Test.YtfcncojellhloaaSame
namespace Go.Proofs.Ytfcncojellhloaa
open Go.RowKit

structure KT where
  vec : Bool
  size : Int
  num : Nat
  bs : List UInt8
  a : Option Addr
  cap : Nat

/-- a thing's size, made one that may be -/
def tsz (vec : Bool) (s : Int) : Nat :=
  if vec then 1 + ((s % 18446744073709551616) % 3).toNat else [1, 2, 3, 4, 8].getD ((s % 18446744073709551616) % 5).toNat 0
def encT (t : KT) : List UInt8 := if t.vec then digits t.bs.length (tsz t.vec t.size) ++ t.bs else digits t.num (tsz t.vec t.size)
def okT (t : KT) : Prop := (if t.vec then t.bs.length else t.num) < 256 ^ tsz t.vec t.size
def encL (l : List KT) : List UInt8 := (l.map encT).flatten

theorem tsz_vec (s : Int) : vecB (tsz true s) = true := by
  simp [tsz, vecB]; omega
theorem tsz_num (s : Int) : sizeB (tsz false s) = true := by
  have h : ((s % 18446744073709551616) % 5).toNat < 5 := by omega
  simp only [tsz]
  generalize ((s % 18446744073709551616) % 5).toNat = i at *
  have : i = 0 ∨ i = 1 ∨ i = 2 ∨ i = 3 ∨ i = 4 := by omega
  rw [if_neg (by decide)]
  rcases this with rfl | rfl | rfl | rfl | rfl <;> decide
theorem tsz_bd (v : Bool) (s : Int) : 1 ≤ tsz v s ∧ tsz v s ≤ 8 := by
  cases v with
  | true => have := tsz_vec s; simp [vecB] at this; omega
  | false => have := tsz_num s; simp [sizeB] at this; omega
theorem tsz_le3 (s : Int) : tsz true s ≤ 3 := by have := tsz_vec s; simp [vecB] at this; omega
theorem encT_len (t : KT) : 1 ≤ (encT t).length ∧ (encT t).length ≤ 8 + t.bs.length := by
  have := tsz_bd t.vec t.size
  unfold encT
  split <;> simp [digits_len] <;> omega
theorem encL_append (l r : List KT) : encL (l ++ r) = encL l ++ encL r := by simp [encL]
theorem encL_cons (t : KT) (r : List KT) : encL (t :: r) = encT t ++ encL r := by simp [encL]
theorem encL_len (l : List KT) (h : ∀ t ∈ l, t.bs.length ≤ 300) : (encL l).length ≤ 308 * l.length := by
  induction l with
  | nil => simp [encL]
  | cons t r ih =>
    rw [encL_cons, List.length_append, List.length_cons]
    have := ih fun x hx => h x (List.mem_cons_of_mem _ hx)
    have := (encT_len t).2
    have := h t (List.mem_cons_self ..)
    omega

theorem vec_put (t : KT) (hv : t.vec = true) (hok : okT t) (xs : List UInt8) : vecF xs t.bs (tsz t.vec t.size) = (xs ++ encT t, 0) := by
  have h1 := tsz_vec t.size
  simp only [okT, hv, if_true] at hok
  simp [vecF, encT, hv, h1, hok]
theorem vec_no (t : KT) (hv : t.vec = true) (hok : ¬ okT t) (xs : List UInt8) : vecF xs t.bs (tsz t.vec t.size) = ([], 3) := by
  have h1 := tsz_vec t.size
  simp only [okT, hv, if_true] at hok
  simp [vecF, hv, h1, hok]
theorem num_put (t : KT) (hv : t.vec = false) (hok : okT t) (xs : List UInt8) : numF xs t.num (tsz t.vec t.size) = (xs ++ encT t, 0) := by
  have h1 := tsz_num t.size
  simp [okT, hv] at hok
  simp [numF, encT, hv, h1, hok]
theorem num_no (t : KT) (hv : t.vec = false) (hok : ¬ okT t) (xs : List UInt8) : numF xs t.num (tsz t.vec t.size) = ([], 3) := by
  have h1 := tsz_num t.size
  simp [okT, hv] at hok
  simp [numF, hv, h1]
  omega

theorem vec_take (t : KT) (hv : t.vec = true) (hok : okT t) (tail : List UInt8) : rvecF (encT t ++ tail) (tsz t.vec t.size) = (t.bs, 0, tail) := by
  have h1 := tsz_vec t.size
  simp only [okT, hv, if_true] at hok
  have hl := digits_len t.bs.length (tsz true t.size)
  have he : encT t ++ tail = digits t.bs.length (tsz true t.size) ++ (t.bs ++ tail) := by simp [encT, hv]
  have ht : (encT t ++ tail).take (tsz true t.size) = digits t.bs.length (tsz true t.size) := by rw [he, List.take_left' hl]
  have hd : (encT t ++ tail).drop (tsz true t.size) = t.bs ++ tail := by rw [he, List.drop_left' hl]
  have hlen : (encT t ++ tail).length = tsz true t.size + (t.bs.length + tail.length) := by rw [he]; simp [hl]
  have hb := beNat_digits _ _ hok
  rw [hv]
  unfold rvecF
  rw [Int.toNat_natCast, ht, hd, hb, ← List.drop_drop, hd, hlen]
  rw [if_pos h1, if_neg (by omega), if_neg (by omega), List.take_left' rfl, List.drop_left' rfl]
theorem vec_short (t : KT) (hv : t.vec = true) (hok : okT t) (l : Nat) (h : l < (encT t).length) : (rvecF ((encT t).take l) (tsz t.vec t.size)).1 = [] ∧ (rvecF ((encT t).take l) (tsz t.vec t.size)).2.1 = 4 := by
  have h1 := tsz_vec t.size
  simp only [okT, hv, if_true] at hok
  have hl := digits_len t.bs.length (tsz true t.size)
  have he : encT t = digits t.bs.length (tsz true t.size) ++ t.bs := by simp [encT, hv]
  have hL : (encT t).length = tsz true t.size + t.bs.length := by rw [he]; simp [hl]
  rw [hv]
  unfold rvecF
  rw [if_pos h1]
  by_cases hc : (((encT t).take l).length : Int) < (tsz true t.size : Int)
  · rw [if_pos hc]; exact ⟨rfl, rfl⟩
  · rw [if_neg hc, Int.toNat_natCast]
    have hll : ((encT t).take l).length = l := by simp; omega
    rw [hll] at hc
    have ht : ((encT t).take l).take (tsz true t.size) = digits t.bs.length (tsz true t.size) := by
      rw [List.take_take, Nat.min_eq_left (by omega), he, List.take_left' hl]
    rw [ht, beNat_digits _ _ hok, hll, if_pos (by omega)]
    exact ⟨rfl, rfl⟩
theorem num_take (t : KT) (hv : t.vec = false) (hok : okT t) (tail : List UInt8) : rnumF (encT t ++ tail) (tsz t.vec t.size) = (t.num, 0, tail) := by
  have h1 := tsz_num t.size
  simp [okT, hv] at hok
  have hl := digits_len t.num (tsz false t.size)
  have he : encT t = digits t.num (tsz false t.size) := by simp [encT, hv]
  rw [hv, he]
  unfold rnumF
  rw [if_pos h1, if_neg (by simp [hl]; omega), Int.toNat_natCast, List.take_left' hl, List.drop_left' hl, beNat_digits _ _ hok]
theorem num_short (t : KT) (hv : t.vec = false) (l : Nat) (h : l < (encT t).length) : (rnumF ((encT t).take l) (tsz t.vec t.size)).1 = 0 ∧ (rnumF ((encT t).take l) (tsz t.vec t.size)).2.1 = 4 := by
  have h1 := tsz_num t.size
  have hl := digits_len t.num (tsz false t.size)
  have he : encT t = digits t.num (tsz false t.size) := by simp [encT, hv]
  rw [he] at h ⊢
  rw [hv]
  unfold rnumF
  rw [if_pos h1, if_pos (by simp; omega)]
  exact ⟨rfl, rfl⟩

theorem take_take_app (l : List UInt8) (r : List UInt8) (c : Nat) (h : l.length ≤ c) : (l ++ r).take c = l ++ r.take (c - l.length) := by
  rw [List.take_append, List.take_of_length_le h]
theorem take_short (l : List UInt8) (r : List UInt8) (c : Nat) (h : c < l.length) : (l ++ r).take c = l.take c := by
  rw [List.take_append, show c - l.length = 0 from by omega]; simp
end Go.Proofs.Ytfcncojellhloaa
