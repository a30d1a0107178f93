/-
  Layer 14: the rest of the message's polynomial (its first 32 bits turned over, times x to the power of 32) is the sum bit by bit. Conditions: those in each statement.
-/
import Derived.Test.YtocehaflgpljfaaCrA
namespace Go.Proofs.Ytocehaflgpljfaa
open Go.RowKit

/-- a bit at the far end -/
def top32 (b : Bool) : BitVec 32 := bit32 b <<< 31
/-- the rest goes on by a bit, the lowest bit first -/
def rst (x : BitVec 32) (b : Bool) : BitVec 32 := zst x ^^^ top32 b
theorem wordB_snoc : ∀ (bs : List Bool) (b : Bool), wordB (bs ++ [b]) = wordB bs ^^^ (bit32 b <<< bs.length) := by
  intro bs
  induction bs with
  | nil => intro b; simp [wordB]
  | cons a bs ih =>
    intro b
    show bit32 a ^^^ (wordB (bs ++ [b]) <<< 1) = (bit32 a ^^^ (wordB bs <<< 1)) ^^^ (bit32 b <<< (bs.length + 1))
    rw [ih, BitVec.shiftLeft_xor_distrib, BitVec.xor_assoc, BitVec.shiftLeft_add]
theorem zst_even {x : BitVec 32} (h : x.getLsbD 0 = false) : zst x = x >>> 1 := by
  unfold zst
  rw [h]
  simp
theorem shl_lsb (x : BitVec 32) (k : Nat) (h : 0 < k) : (x <<< k).getLsbD 0 = false := by
  rw [BitVec.getLsbD_shiftLeft]
  simp [h]
theorem shl_shr_one (x : BitVec 32) (k : Nat) (h : ∀ i, 31 - k ≤ i → x.getLsbD i = false) : (x <<< (k + 1)) >>> 1 = x <<< k := by
  apply BitVec.eq_of_getLsbD_eq
  intro i hi
  rw [BitVec.getLsbD_ushiftRight, BitVec.getLsbD_shiftLeft, BitVec.getLsbD_shiftLeft]
  by_cases e : i = 31
  · subst e
    have h1 : x.getLsbD (31 - k) = false := h _ (Nat.le_refl _)
    simp [h1]
  · have h1 : 1 + i < 32 := by omega
    by_cases h2 : i < k
    · have h3 : 1 + i < k + 1 := by omega
      simp [h2, h3]
    · have h3 : ¬ (1 + i < k + 1) := by omega
      have h4 : 1 + i - (k + 1) = i - k := by omega
      simp [h1, h2, h3, h4, hi]
/-- the first 32 bits only come in -/
theorem rst_first : ∀ (n : Nat) (bs : List Bool), bs.length = n → n ≤ 32 → bs.foldl rst 0#32 = wordB bs <<< (32 - n) := by
  intro n
  induction n with
  | zero =>
    intro bs h _
    have := List.eq_nil_of_length_eq_zero h
    subst this
    decide
  | succ n ih =>
    intro bs h hn
    have hne : bs ≠ [] := by intro e; rw [e] at h; cases h
    obtain ⟨cs, b, rfl⟩ : ∃ cs b, bs = cs ++ [b] := ⟨bs.dropLast, bs.getLast hne, (List.dropLast_concat_getLast hne).symm⟩
    have hc : cs.length = n := by simpa using h
    rw [List.foldl_append, ih cs hc (by omega), wordB_snoc, hc]
    show zst (wordB cs <<< (32 - n)) ^^^ top32 b = _
    rw [zst_even (shl_lsb _ _ (by omega)), show 32 - n = (31 - n) + 1 by omega, shl_shr_one _ _ (fun i hi => wordB_high cs i (by omega)), BitVec.shiftLeft_xor_distrib, show 32 - (n + 1) = 31 - n by omega]
    have e5 : bit32 b <<< n <<< (31 - n) = bit32 b <<< 31 := by rw [← BitVec.shiftLeft_add, show n + (31 - n) = 31 by omega]
    rw [e5]
    rfl
theorem wordB_nones (k : Nat) : wordB (List.replicate k false) = 0#32 := by
  induction k with
  | zero => rfl
  | succ k ih =>
    rw [List.replicate_succ, wordB, ih]
    simp [bit32]
/-- behind the first 32: the rest and the sum differ by the 32 bits that are to come -/
theorem rst_sum : ∀ (bs : List Bool) (r : BitVec 32), ((bs ++ List.replicate 32 false).drop 32).foldl rst (r ^^^ wordB ((bs ++ List.replicate 32 false).take 32)) = crfold r bs := by
  intro bs
  induction bs with
  | nil =>
    intro r
    rw [List.nil_append, List.drop_of_length_le (by simp), List.take_of_length_le (by simp), wordB_nones]
    simp [crfold]
  | cons b bs ih =>
    intro r
    obtain ⟨Z, hZ⟩ : ∃ Z, Z = bs ++ List.replicate 32 false := ⟨_, rfl⟩
    have hl : 32 ≤ Z.length := by rw [hZ]; simp
    have h1 : ((b :: bs) ++ List.replicate 32 false).take 32 = b :: Z.take 31 := by rw [hZ]; rfl
    have h2 : ((b :: bs) ++ List.replicate 32 false).drop 32 = Z[31] :: Z.drop 32 := by
      rw [List.cons_append, List.drop_succ_cons, ← hZ]
      exact List.drop_eq_getElem_cons (by omega)
    have h3 : Z.take 32 = Z.take 31 ++ [Z[31]] := by
      rw [List.take_succ_eq_append_getElem (by omega)]
    have hw : (wordB (Z.take 31)).getLsbD 31 = false := wordB_high _ 31 (by rw [List.length_take]; omega)
    have ih' := ih (crst r b)
    rw [← hZ] at ih'
    rw [h1, h2]
    show (Z.drop 32).foldl rst (rst (r ^^^ wordB (b :: Z.take 31)) Z[31]) = crfold (crst r b) bs
    rw [← ih', h3, wordB_snoc]
    congr 1
    unfold rst
    have e : r ^^^ wordB (b :: Z.take 31) = (r ^^^ bit32 b) ^^^ (wordB (Z.take 31) <<< 1) := by rw [wordB, BitVec.xor_assoc]
    rw [e, zst_xor, zst_even (shl_lsb _ 1 (by omega)), shl_shr hw, BitVec.xor_assoc]
    unfold crst top32
    rw [List.length_take, show min 31 Z.length = 31 by omega]
def ones32 : BitVec 32 := 0xffffffff#32
theorem bit32_not (b : Bool) : bit32 (!b) = 1#32 ^^^ bit32 b := by cases b <;> decide
theorem wordB_not : ∀ (n : Nat) (bs : List Bool), bs.length = n → n ≤ 32 → wordB (bs.map (!·)) = (wordB (List.replicate n true)) ^^^ wordB bs := by
  intro n
  induction n with
  | zero =>
    intro bs h _
    have := List.eq_nil_of_length_eq_zero h
    subst this
    decide
  | succ n ih =>
    intro bs h hn
    match bs, h with
    | b :: bs, h =>
      rw [List.map_cons, wordB, List.replicate_succ, wordB, wordB, ih bs (by simpa using h) (by omega), bit32_not, BitVec.shiftLeft_xor_distrib]
      have e : bit32 true = 1#32 := rfl
      rw [e]
      apply BitVec.eq_of_getLsbD_eq
      intro i hi
      simp only [BitVec.getLsbD_xor]
      cases (1#32).getLsbD i <;> cases (bit32 b).getLsbD i <;> cases (wordB (List.replicate n true) <<< 1).getLsbD i <;> cases (wordB bs <<< 1).getLsbD i <;> rfl
theorem wordB_ones : wordB (List.replicate 32 true) = ones32 := by decide
/-- the document's bits: the message's, then 32 more, the first 32 of all turned over -/
def docBits (bs : List Bool) : List Bool := ((bs ++ List.replicate 32 false).take 32).map (!·) ++ (bs ++ List.replicate 32 false).drop 32
theorem doc_sum (bs : List Bool) : (docBits bs).foldl rst 0#32 = crfold ones32 bs := by
  unfold docBits
  have hl : ((bs ++ List.replicate 32 false).take 32).length = 32 := by rw [List.length_take]; simp
  rw [List.foldl_append, rst_first 32 _ (by rw [List.length_map]; exact hl) (Nat.le_refl _), wordB_not 32 _ hl (Nat.le_refl _), wordB_ones]
  have e : (ones32 ^^^ wordB ((bs ++ List.replicate 32 false).take 32)) <<< (32 - 32) = ones32 ^^^ wordB ((bs ++ List.replicate 32 false).take 32) := by simp
  rw [e]
  exact rst_sum bs ones32
end Go.Proofs.Ytocehaflgpljfaa
