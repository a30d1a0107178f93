/-
  SHA-256 on plain lists: what is hashed, block by block. Conditions: those in each statement.
-/
import Derived.Test.YtfidajbenmgflaaDoorShaP
namespace Go.Proofs.YtfidajbenmgflaaDoor
open Go.RowKit

/-- the byte of n at place i of size -/
def digit (n size i : Nat) : UInt8 := UInt8.ofNat (n / 256 ^ (size - 1 - i))
def digits (n size : Nat) : List UInt8 := (List.range size).map (digit n size)
theorem digits_len (num size : Nat) : (digits num size).length = size := by simp [digits]
theorem down_step (num k j : Nat) (h : j < k) : (List.replicate (k - j) 0 ++ (digits num k).drop (k - j)).set (k - 1 - j) (digit num k (k - 1 - j)) = List.replicate (k - (j + 1)) 0 ++ (digits num k).drop (k - (j + 1)) := by
  have hl := digits_len num k
  have e : k - j = (k - (j + 1)) + 1 := by omega
  have hi : k - (j + 1) < (digits num k).length := by omega
  rw [e, List.replicate_succ', List.append_assoc, List.set_append_right _ _ (by simp; omega), List.length_replicate, show k - 1 - j - (k - (j + 1)) = 0 from by omega]
  congr 1
  rw [List.drop_eq_getElem_cons hi]
  simp [digits, show k - (j + 1) = k - 1 - j from by omega]

/-- how many noughts -/
def nz (n : Nat) : Nat := (64 - (n + 9) % 64) % 64
def padB (n : Nat) : List UInt8 := 128 :: (List.replicate (nz n) 0 ++ digits (8 * n) 8)
def padM (xs : List UInt8) : List UInt8 := xs ++ padB xs.length
def IV : R8 := ⟨1779033703, 3144134277, 1013904242, 2773480762, 1359893119, 2600822924, 528734635, 1541459225⟩
theorem IV_list : IV.list = H0 := rfl
/-- the state behind so many blocks -/
def bl (xs : List UInt8) : Nat → R8
  | 0 => IV
  | k + 1 => blk (bl xs k) ((xs.drop (64 * k)).take 64)
def shaR (xs : List UInt8) : R8 := bl (padM xs) ((padM xs).length / 64)
/-- a state as bytes -/
def digB (s : R8) (i : Nat) : UInt8 := UInt8.ofNat ((s.list.getD (i / 4) 0).toNat / 2 ^ (24 - 8 * (i % 4)))
def dig (s : R8) : List UInt8 := (List.range 32).map (digB s)
def shaL (xs : List UInt8) : List UInt8 := dig (shaR xs)

theorem padB_len (n : Nat) : (padB n).length = nz n + 9 := by simp [padB, digits_len]
theorem padM_len (xs : List UInt8) : (padM xs).length = xs.length + nz xs.length + 9 := by simp [padM, padB_len]; omega
theorem padM_mod (xs : List UInt8) : (padM xs).length % 64 = 0 := by rw [padM_len]; unfold nz; omega
theorem nz_lt (n : Nat) : nz n < 64 := by unfold nz; omega
theorem dig_len (s : R8) : (dig s).length = 32 := by simp [dig]
theorem shaL_len (xs : List UInt8) : (shaL xs).length = 32 := dig_len _

theorem bl_append (xs ys : List UInt8) (k : Nat) (h : 64 * k ≤ xs.length) : bl (xs ++ ys) k = bl xs k := by
  induction k with
  | zero => rfl
  | succ k ih =>
    simp only [bl]
    rw [ih (by omega), List.drop_append_of_le_length (by omega), List.take_append_of_le_length (by simp; omega)]

/-- what a block's row of bytes is, behind so many bytes -/
def RestOk (xs rest : List UInt8) : Prop := rest.length = 64 ∧ rest.take (xs.length % 64) = xs.drop (64 * (xs.length / 64))
def more (xs rest ys : List UInt8) : List UInt8 := rest.take (xs.length % 64) ++ (ys ++ rest.drop (xs.length % 64 + ys.length))

theorem more_len (xs rest ys : List UInt8) (h : RestOk xs rest) (hm : xs.length % 64 + ys.length ≤ 64) : (more xs rest ys).length = 64 := by
  obtain ⟨h1, _⟩ := h
  simp [more]; omega
theorem more_part (xs rest ys : List UInt8) (h : RestOk xs rest) (hm : xs.length % 64 + ys.length < 64) :
    RestOk (xs ++ ys) (more xs rest ys) ∧ bl (xs ++ ys) ((xs ++ ys).length / 64) = bl xs (xs.length / 64) := by
  have hl := more_len xs rest ys h (by omega)
  obtain ⟨h1, h2⟩ := h
  have e1 : (xs ++ ys).length / 64 = xs.length / 64 := by rw [List.length_append]; omega
  have e2 : (xs ++ ys).length % 64 = xs.length % 64 + ys.length := by rw [List.length_append]; omega
  refine ⟨⟨hl, ?_⟩, ?_⟩
  · rw [e1, e2, List.drop_append_of_le_length (by omega), ← h2]
    unfold more
    rw [← List.append_assoc, List.take_left' (by simp; omega)]
  · rw [e1, bl_append _ _ _ (by omega)]
theorem more_full (xs rest ys : List UInt8) (h : RestOk xs rest) (hm : xs.length % 64 + ys.length = 64) :
    RestOk (xs ++ ys) (more xs rest ys) ∧ bl (xs ++ ys) ((xs ++ ys).length / 64) = blk (bl xs (xs.length / 64)) (more xs rest ys) := by
  have hl := more_len xs rest ys h (by omega)
  obtain ⟨h1, h2⟩ := h
  have e1 : (xs ++ ys).length / 64 = xs.length / 64 + 1 := by rw [List.length_append]; omega
  have e2 : (xs ++ ys).length % 64 = 0 := by rw [List.length_append]; omega
  have e3 : more xs rest ys = xs.drop (64 * (xs.length / 64)) ++ ys := by
    unfold more
    rw [h2, show rest.drop (xs.length % 64 + ys.length) = [] from List.drop_of_length_le (by omega), List.append_nil]
  refine ⟨⟨hl, ?_⟩, ?_⟩
  · rw [e1, e2, List.take_zero, List.drop_of_length_le (by rw [List.length_append]; omega)]
  · rw [e1]
    simp only [bl]
    rw [bl_append _ _ _ (by omega), List.drop_append_of_le_length (by omega), ← e3, List.take_of_length_le (by omega)]
theorem rest_nil (rest : List UInt8) (h : rest.length = 64) : RestOk [] rest := ⟨h, by simp⟩

/-- a state's cells -/
def stC (s : R8) (rest : List UInt8) (n : Nat) : List Value := .bool true :: (qs s.list ++ (bvs rest ++ [.int .u64 (n : Int)]))
theorem stC_len (s : R8) (rest : List UInt8) (n : Nat) (h : rest.length = 64) : (stC s rest n).length = 74 := by simp [stC, qs, bvs, R8.list, h]
theorem stC_rest (s : R8) (rest : List UInt8) (n : Nat) (o : Nat) (ys : List UInt8) (h : rest.length = 64) (ho : o + ys.length ≤ 64) :
    (stC s rest n).take (9 + o) ++ (bvs ys ++ (stC s rest n).drop (9 + o + ys.length)) = stC s (rest.take o ++ (ys ++ rest.drop (o + ys.length))) n := by
  have hq : (Value.bool true :: qs s.list).length = 9 := by simp [qs, R8.list]
  have e : stC s rest n = (Value.bool true :: qs s.list) ++ (bvs rest ++ [.int .u64 (n : Int)]) := rfl
  have e2 : stC s (rest.take o ++ (ys ++ rest.drop (o + ys.length))) n = (Value.bool true :: qs s.list) ++ (bvs (rest.take o ++ (ys ++ rest.drop (o + ys.length))) ++ [.int .u64 (n : Int)]) := rfl
  rw [e, e2, List.take_append, List.drop_append, hq, List.take_of_length_le (by omega), List.drop_of_length_le (by omega),
    show 9 + o - 9 = o by omega, show 9 + o + ys.length - 9 = o + ys.length by omega, List.take_append_of_le_length (by simp [bvs]; omega), List.drop_append_of_le_length (by simp [bvs]; omega)]
  simp [bvs, List.map_take, List.map_drop]
theorem stC_now (s t : R8) (rest : List UInt8) (n : Nat) : (stC s rest n).take 1 ++ qs t.list ++ (stC s rest n).drop (1 + (qs t.list).length) = stC t rest n := by
  simp [stC, qs, R8.list]
theorem stC_num (s : R8) (rest : List UInt8) (n m : Nat) (h : rest.length = 64) : (stC s rest n).set 73 (.int .u64 (m : Int)) = stC s rest m := by
  have hq : (Value.bool true :: qs s.list ++ bvs rest).length = 73 := by simp [qs, bvs, R8.list, h]
  have e : ∀ k : Nat, stC s rest k = (Value.bool true :: qs s.list ++ bvs rest) ++ [.int .u64 (k : Int)] := fun k => by simp [stC]
  rw [e, e, List.set_append_right _ _ (by omega), hq]
  rfl
theorem stC_get_num (s : R8) (rest : List UInt8) (n : Nat) (h : rest.length = 64) : (stC s rest n)[73]? = some (.int .u64 (n : Int)) := by
  have hq : (Value.bool true :: qs s.list ++ bvs rest).length = 73 := by simp [qs, bvs, R8.list, h]
  have e : stC s rest n = (Value.bool true :: qs s.list ++ bvs rest) ++ [.int .u64 (n : Int)] := by simp [stC]
  rw [e, List.getElem?_append_right (by omega), hq]
  rfl
theorem stC_get_now (s : R8) (rest : List UInt8) (n : Nat) (j : Nat) (v : Value) (h : (qs s.list)[j]? = some v) : (stC s rest n)[1 + j]? = some v := by
  rw [Nat.add_comm]
  show (qs s.list ++ _)[j]? = _
  rw [List.getElem?_append_left (List.getElem?_eq_some_iff.1 h).1]
  exact h
theorem stC_get_rest (s : R8) (rest : List UInt8) (n : Nat) (j : Nat) (v : Value) (h : (bvs rest)[j]? = some v) : (stC s rest n)[9 + j]? = some v := by
  have hq : (Value.bool true :: qs s.list).length = 9 := by simp [qs, R8.list]
  have e : stC s rest n = (Value.bool true :: qs s.list) ++ (bvs rest ++ [.int .u64 (n : Int)]) := rfl
  rw [e, List.getElem?_append_right (by omega), hq, show 9 + j - 9 = j by omega, List.getElem?_append_left (List.getElem?_eq_some_iff.1 h).1]
  exact h
end Go.Proofs.YtfidajbenmgflaaDoor
