/-
  Layer 14: sums of 32 bits, plainly, bit by bit: linear, nothing but none comes to none, 32 bits in a row are seen. Conditions: those in each statement.
-/
import Derived.Test.YtocehaflgpljfaaBytes
namespace Go.Proofs.Ytocehaflgpljfaa
open Go.RowKit

/-- the polynomial, the lowest bit first -/
def polR : BitVec 32 := 0xedb88320#32
/-- one bit that is none goes in -/
def zst (x : BitVec 32) : BitVec 32 := (x >>> 1) ^^^ (if x.getLsbD 0 then polR else 0#32)
def bit32 (b : Bool) : BitVec 32 := if b then 1#32 else 0#32
/-- one bit goes in -/
def crst (r : BitVec 32) (b : Bool) : BitVec 32 := zst (r ^^^ bit32 b)
def crfold (r : BitVec 32) (bs : List Bool) : BitVec 32 := bs.foldl crst r
theorem zst_zero : zst 0#32 = 0#32 := by decide
theorem zst_xor (x y : BitVec 32) : zst (x ^^^ y) = zst x ^^^ zst y := by
  unfold zst
  rw [BitVec.getLsbD_xor]
  have e : (x ^^^ y) >>> 1 = (x >>> 1) ^^^ (y >>> 1) := by
    apply BitVec.eq_of_getLsbD_eq
    intro i hi
    simp [BitVec.getLsbD_ushiftRight]
  rw [e]
  apply BitVec.eq_of_getLsbD_eq
  intro i hi
  have h : ∀ c : Bool, (if c = true then polR else 0#32).getLsbD i = (c && polR.getLsbD i) := by
    intro c
    cases c <;> simp
  simp only [BitVec.getLsbD_xor, h]
  cases x.getLsbD 0 <;> cases y.getLsbD 0 <;> cases (x >>> 1).getLsbD i <;> cases (y >>> 1).getLsbD i <;> cases polR.getLsbD i <;> rfl
theorem zst_inj {x : BitVec 32} (h : zst x = 0#32) : x = 0#32 := by
  unfold zst at h
  have top : ((x >>> 1) ^^^ (if x.getLsbD 0 then polR else 0#32)).getLsbD 31 = x.getLsbD 0 := by
    rw [BitVec.getLsbD_xor, BitVec.getLsbD_ushiftRight]
    have h1 : x.getLsbD (1 + 31) = false := BitVec.getLsbD_of_ge _ _ (by omega)
    rw [h1]
    cases x.getLsbD 0 <;> decide
  rw [h] at top
  have l0 : x.getLsbD 0 = false := by rw [← top]; decide
  rw [l0] at h
  apply BitVec.eq_of_getLsbD_eq
  intro i hi
  cases i with
  | zero => rw [l0]; decide
  | succ i =>
    have h2 : ((x >>> 1) ^^^ (if false = true then polR else 0#32)).getLsbD i = (0#32).getLsbD i := by rw [h]
    rw [BitVec.getLsbD_xor, BitVec.getLsbD_ushiftRight, Nat.add_comm 1 i] at h2
    simpa using h2
theorem crst_xor (r s : BitVec 32) (a b : Bool) : crst (r ^^^ s) (a ^^ b) = crst r a ^^^ crst s b := by
  unfold crst
  rw [← zst_xor]
  congr 1
  apply BitVec.eq_of_getLsbD_eq
  intro i hi
  have h : ∀ c : Bool, (bit32 c).getLsbD i = (c && (1#32).getLsbD i) := by
    intro c
    cases c <;> simp [bit32]
  simp only [BitVec.getLsbD_xor, h]
  cases a <;> cases b <;> cases r.getLsbD i <;> cases s.getLsbD i <;> cases (1#32).getLsbD i <;> rfl
/-- bits that differ, as bits -/
def xorB : List Bool → List Bool → List Bool
  | a :: r, b :: s => (a ^^ b) :: xorB r s
  | _, _ => []
theorem crfold_xor : ∀ (us bs : List Bool) (r s : BitVec 32), us.length = bs.length → crfold (r ^^^ s) (xorB us bs) = crfold r us ^^^ crfold s bs := by
  intro us
  induction us with
  | nil => intro bs r s h; cases bs <;> simp [crfold, xorB] at h ⊢
  | cons a us ih =>
    intro bs r s h
    match bs, h with
    | b :: bs, h =>
      show crfold (crst (r ^^^ s) (a ^^ b)) (xorB us bs) = crfold (crst r a) us ^^^ crfold (crst s b) bs
      rw [crst_xor]
      exact ih bs _ _ (by simpa using h)
theorem crst_none (r : BitVec 32) : crst r false = zst r := by simp [crst, bit32]
theorem crfold_nones (k : Nat) : ∀ r, r ≠ 0#32 → crfold r (List.replicate k false) ≠ 0#32 := by
  induction k with
  | zero => intro r h; exact h
  | succ k ih =>
    intro r h
    show crfold (crst r false) (List.replicate k false) ≠ 0#32
    rw [crst_none]
    exact ih _ fun e => h (zst_inj e)
theorem crfold_lead (k : Nat) : crfold 0#32 (List.replicate k false) = 0#32 := by
  induction k with
  | zero => rfl
  | succ k ih =>
    show crfold (crst 0#32 false) (List.replicate k false) = 0#32
    rw [crst_none, zst_zero]
    exact ih
theorem crfold_app (r : BitVec 32) (us bs : List Bool) : crfold r (us ++ bs) = crfold (crfold r us) bs := by simp [crfold]
/-- a row of bits as a number, the first one lowest -/
def wordB : List Bool → BitVec 32
  | [] => 0#32
  | b :: r => bit32 b ^^^ (wordB r <<< 1)
def zsts : Nat → BitVec 32 → BitVec 32
  | 0, x => x
  | k + 1, x => zsts k (zst x)
theorem zsts_inj : ∀ (k : Nat) {x : BitVec 32}, zsts k x = 0#32 → x = 0#32 := by
  intro k
  induction k with
  | zero => intro x h; exact h
  | succ k ih => intro x h; exact zst_inj (ih h)
theorem shl_shr {x : BitVec 32} (h : x.getLsbD 31 = false) : (x <<< 1) >>> 1 = x := by
  apply BitVec.eq_of_getLsbD_eq
  intro i hi
  rw [BitVec.getLsbD_ushiftRight, BitVec.getLsbD_shiftLeft]
  by_cases e : i = 31
  · subst e; rw [h]; decide
  · have h1 : 1 + i < 32 := by omega
    have h2 : 1 + i - 1 = i := by omega
    simp [h1, h2]
/-- in a word of k bits the ones above are none -/
theorem wordB_high : ∀ (bs : List Bool) (i : Nat), bs.length ≤ i → (wordB bs).getLsbD i = false := by
  intro bs
  induction bs with
  | nil => intro i _; simp [wordB]
  | cons b r ih =>
    intro i h
    simp only [List.length_cons] at h
    rw [wordB, BitVec.getLsbD_xor, BitVec.getLsbD_shiftLeft]
    have h1 : (bit32 b).getLsbD i = false := by
      cases b
      · simp [bit32]
      · have : i ≠ 0 := by omega
        simp [bit32, this]
    rw [h1]
    have h2 := ih (i - 1) (by omega)
    rw [h2]
    simp
theorem wordB_zero : ∀ (bs : List Bool), bs.length ≤ 32 → wordB bs = 0#32 → ∀ b ∈ bs, b = false := by
  intro bs
  induction bs with
  | nil => intro _ _ b hb; cases hb
  | cons a r ih =>
    intro hl h b hb
    simp only [List.length_cons] at hl
    have h0 : (wordB (a :: r)).getLsbD 0 = a := by
      rw [wordB, BitVec.getLsbD_xor, BitVec.getLsbD_shiftLeft]
      cases a <;> simp [bit32]
    rw [h] at h0
    have ha : a = false := by rw [← h0]; decide
    subst ha
    have hr : wordB r = 0#32 := by
      have h1 : wordB r <<< 1 = 0#32 := by
        have := h
        rw [wordB] at this
        simpa [bit32] using this
      have h2 := shl_shr (x := wordB r) (wordB_high r 31 (by omega))
      rw [h1] at h2
      rw [← h2]
      decide
    rcases List.mem_cons.1 hb with e | hb
    · exact e
    · exact ih (by omega) hr b hb
/-- bit by bit is word by word -/
theorem crfold_word : ∀ (bs : List Bool) (r : BitVec 32), bs.length ≤ 32 → crfold r bs = zsts bs.length (r ^^^ wordB bs) := by
  intro bs
  induction bs with
  | nil => intro r _; simp [crfold, zsts, wordB]
  | cons b bs ih =>
    intro r h
    simp only [List.length_cons] at h
    show crfold (crst r b) bs = zsts bs.length (zst (r ^^^ wordB (b :: bs)))
    rw [ih (crst r b) (by omega)]
    congr 1
    have hw := shl_shr (x := wordB bs) (wordB_high bs 31 (by omega))
    have e : r ^^^ wordB (b :: bs) = (r ^^^ bit32 b) ^^^ (wordB bs <<< 1) := by rw [wordB, BitVec.xor_assoc]
    rw [e, zst_xor]
    have e2 : zst (wordB bs <<< 1) = wordB bs := by
      unfold zst
      have h0 : (wordB bs <<< 1).getLsbD 0 = false := by rw [BitVec.getLsbD_shiftLeft]; simp
      rw [h0, hw]
      simp
    rw [e2]
    rfl
/-- P14.4, plainly: at most 32 bits in a row that are not all none are seen, wherever they stand -/
theorem burst_seen (p q : Nat) (bs : List Bool) (hl : bs.length ≤ 32) (h1 : true ∈ bs) : crfold 0#32 (List.replicate p false ++ bs ++ List.replicate q false) ≠ 0#32 := by
  rw [crfold_app, crfold_app, crfold_lead]
  refine crfold_nones q _ fun h => ?_
  rw [crfold_word bs _ hl] at h
  have := zsts_inj _ h
  have hz : wordB bs = 0#32 := by simpa using this
  have := wordB_zero bs hl hz true h1
  cases this
theorem tells (us bs : List Bool) (r : BitVec 32) (hl : us.length = bs.length) (h : crfold 0#32 (xorB us bs) ≠ 0#32) : crfold r us ≠ crfold r bs := by
  intro e
  apply h
  have := crfold_xor us bs r r hl
  rw [BitVec.xor_self] at this
  rw [this, e, BitVec.xor_self]
end Go.Proofs.Ytocehaflgpljfaa
