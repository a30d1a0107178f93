/-
  Layer 8: heads of lists of hashes, plainly: by the greatest power of 2 below; put together; level by level. Conditions: those in each statement.
-/
import Derived.Test.YtlfncgpjgbpdjaaShaM
namespace Go.Proofs.Ytlfncgpjgbpdjaa
open Go.RowKit


/-- the hashes of a leaf, of a node -/
def leafH (b : List UInt8) : (List UInt8) := shaL (0 :: b)
def nodeH (a b : (List UInt8)) : (List UInt8) := shaL (1 :: (a ++ b))
/-- the greatest power of 2 below n, where n is 2 at least -/
def splK (n : Nat) : Nat := 2 ^ (n - 1).log2
theorem splK_at {n j : Nat} (h1 : 2 ^ j < n) (h2 : n ≤ 2 ^ (j + 1)) : splK n = 2 ^ j := by
  have hp := Nat.two_pow_pos j
  unfold splK
  congr 1
  have hn : n - 1 ≠ 0 := by omega
  have a : j ≤ (n - 1).log2 := by rw [Nat.le_log2 hn]; omega
  have b : (n - 1).log2 < j + 1 := by rw [Nat.log2_lt hn]; omega
  omega
theorem splK_bounds {n : Nat} (h : 2 ≤ n) : 1 ≤ splK n ∧ splK n < n ∧ n ≤ 2 * splK n := by
  have hn : n - 1 ≠ 0 := by omega
  have h1 := Nat.log2_self_le hn
  have h2 := @Nat.lt_log2_self (n - 1)
  have hp := Nat.two_pow_pos (n - 1).log2
  rw [Nat.pow_succ] at h2
  unfold splK
  omega

/-- the head, with so many halvings at most -/
def rootGo : Nat → List (List UInt8) → (List UInt8)
  | 0, _ => shaL []
  | f + 1, L => if L.length = 0 then shaL [] else if L.length = 1 then L.getD 0 [] else nodeH (rootGo f (L.take (splK L.length))) (rootGo f (L.drop (splK L.length)))
/-- the head of a list of hashes -/
def rootF (L : List (List UInt8)) : (List UInt8) := rootGo L.length L
theorem rootGo_enough : ∀ (f g : Nat) (L : List (List UInt8)), L.length ≤ f → L.length ≤ g → rootGo f L = rootGo g L := by
  intro f
  induction f with
  | zero =>
    intro g L h _
    have h0 : L.length = 0 := by omega
    cases g with
    | zero => rfl
    | succ g => simp only [rootGo, if_pos h0]
  | succ f ih =>
    intro g L h hg
    cases g with
    | zero =>
      have h0 : L.length = 0 := by omega
      simp only [rootGo, if_pos h0]
    | succ g =>
      by_cases h0 : L.length = 0
      · simp only [rootGo, if_pos h0]
      · by_cases h1 : L.length = 1
        · simp only [rootGo, if_neg h0, if_pos h1]
        · obtain ⟨b1, b2, b3⟩ := splK_bounds (show 2 ≤ L.length by omega)
          simp only [rootGo, if_neg h0, if_neg h1]
          rw [ih g (L.take (splK L.length)) (by simp; omega) (by simp; omega), ih g (L.drop (splK L.length)) (by simp; omega) (by simp; omega)]
theorem rootF_nil : rootF [] = shaL [] := rfl
theorem rootF_one (a : (List UInt8)) : rootF [a] = a := rfl
theorem rootF_more {L : List (List UInt8)} (h : 2 ≤ L.length) : rootF L = nodeH (rootF (L.take (splK L.length))) (rootF (L.drop (splK L.length))) := by
  obtain ⟨b1, b2, b3⟩ := splK_bounds h
  obtain ⟨f, hf⟩ : ∃ f, L.length = f + 1 := ⟨L.length - 1, by omega⟩
  have e : rootF L = nodeH (rootGo f (L.take (splK L.length))) (rootGo f (L.drop (splK L.length))) := by
    unfold rootF
    rw [hf, rootGo, if_neg (by omega), if_neg (by omega), hf]
  rw [e]
  unfold rootF
  rw [rootGo_enough f (L.take (splK L.length)).length _ (by simp; omega) (Nat.le_refl _), rootGo_enough f (L.drop (splK L.length)).length _ (by simp; omega) (Nat.le_refl _)]
/-- P8.4 -/
theorem rootF_join (j : Nat) (A B : List (List UInt8)) (hA : A.length = 2 ^ j) (hB : 0 < B.length) (hle : B.length ≤ 2 ^ j) : rootF (A ++ B) = nodeH (rootF A) (rootF B) := by
  have hp := Nat.two_pow_pos j
  have hl : (A ++ B).length = 2 ^ j + B.length := by simp [hA]
  have hk : splK (A ++ B).length = 2 ^ j := splK_at (by omega) (by rw [Nat.pow_succ]; omega)
  rw [rootF_more (by omega), hk]
  congr 2
  · rw [← hA]; simp
  · rw [← hA]; simp
/-- all of them have 32 bytes -/
def All32 (L : List (List UInt8)) : Prop := ∀ k, k < L.length → (L.getD k []).length = 32
theorem All32.mem {L : List (List UInt8)} (h : All32 L) {x : (List UInt8)} (hx : x ∈ L) : x.length = 32 := by
  obtain ⟨k, hk, rfl⟩ := List.getElem_of_mem hx
  have := h k hk
  simpa [List.getD, hk] using this
theorem All32.of {L : List (List UInt8)} (h : ∀ x ∈ L, x.length = 32) : All32 L := by
  intro k hk
  have e : L.getD k [] = L[k] := by simp [List.getD, hk]
  rw [e]
  exact h _ (List.getElem_mem hk)
theorem All32.take {L : List (List UInt8)} (h : All32 L) (n : Nat) : All32 (L.take n) := All32.of fun _ hx => h.mem (List.mem_of_mem_take hx)
theorem All32.drop {L : List (List UInt8)} (h : All32 L) (n : Nat) : All32 (L.drop n) := All32.of fun _ hx => h.mem (List.mem_of_mem_drop hx)
theorem rootF_len {L : List (List UInt8)} (h : All32 L) : (rootF L).length = 32 := by
  by_cases h0 : L.length = 0
  · rw [List.eq_nil_of_length_eq_zero h0]; exact shaL_len _
  · by_cases h1 : L.length = 1
    · match L, h1 with
      | [a], _ => rw [rootF_one]; exact h.mem (by simp)
    · rw [rootF_more (by omega)]; exact shaL_len _

/-- the nodes of each two beside one another -/
def pairs : List (List UInt8) → List (List UInt8)
  | a :: b :: r => nodeH a b :: pairs r
  | _ => []
theorem pairs_len : ∀ (n : Nat) (L : List (List UInt8)), L.length ≤ n → (pairs L).length = L.length / 2 := by
  intro n
  induction n with
  | zero =>
    intro L h
    have e := List.eq_nil_of_length_eq_zero (show L.length = 0 by omega)
    subst e
    rfl
  | succ n ih =>
    intro L h
    match L with
    | [] => rfl
    | [_] => simp [pairs]
    | a :: b :: r =>
      have := ih r (by simp at h; omega)
      simp only [pairs, List.length_cons, this]
      omega
theorem pairs_get : ∀ (n : Nat) (L : List (List UInt8)) (k : Nat), L.length ≤ n → 2 * k + 1 < L.length → (pairs L).getD k [] = nodeH (L.getD (2 * k) []) (L.getD (2 * k + 1) []) := by
  intro n
  induction n with
  | zero => intro L k h h2; omega
  | succ n ih =>
    intro L k h h2
    match L with
    | [] => simp at h2
    | [_] => simp at h2
    | a :: b :: r =>
      cases k with
      | zero => simp [pairs]
      | succ k =>
        have := ih r k (by simp at h; omega) (by simp at h2; omega)
        rw [show 2 * (k + 1) = 2 * k + 1 + 1 by omega]
        simpa [pairs] using this
/-- the part of 2 ^ i hashes at place k -/
def chunk (L : List (List UInt8)) (i k : Nat) : List (List UInt8) := (L.drop (k * 2 ^ i)).take (2 ^ i)
/-- level i: the heads of all whole parts of 2 ^ i -/
def chunks (L : List (List UInt8)) (i : Nat) : List (List UInt8) := (List.range (L.length / 2 ^ i)).map fun k => rootF (chunk L i k)
theorem chunks_len (L : List (List UInt8)) (i : Nat) : (chunks L i).length = L.length / 2 ^ i := by simp [chunks]
theorem chunks_get (L : List (List UInt8)) (i k : Nat) (h : k < L.length / 2 ^ i) : (chunks L i).getD k [] = rootF (chunk L i k) := by
  simp [chunks, List.getD, h]
theorem chunks_zero (L : List (List UInt8)) : chunks L 0 = L := by
  apply List.ext_getElem
  · simp [chunks]
  · intro k h1 h2
    have e : chunk L 0 k = [L[k]] := by
      unfold chunk
      rw [Nat.pow_zero, Nat.mul_one, List.drop_eq_getElem_cons h2]
      rfl
    simp [chunks, e, rootF_one]
theorem chunk_len {L : List (List UInt8)} {i k : Nat} (h : (k + 1) * 2 ^ i ≤ L.length) : (chunk L i k).length = 2 ^ i := by
  rw [Nat.add_mul, Nat.one_mul] at h
  simp only [chunk, List.length_take, List.length_drop]
  omega
theorem chunk_two {L : List (List UInt8)} {i k : Nat} : chunk L (i + 1) k = chunk L i (2 * k) ++ chunk L i (2 * k + 1) := by
  unfold chunk
  have e : k * 2 ^ (i + 1) = 2 * k * 2 ^ i := by rw [Nat.pow_succ, Nat.mul_comm 2 k, Nat.mul_assoc, Nat.mul_comm 2]
  rw [e, Nat.pow_succ, Nat.mul_two, List.take_add, List.drop_drop, Nat.add_mul, Nat.one_mul]
theorem pairs_chunks (L : List (List UInt8)) (i : Nat) : pairs (chunks L i) = chunks L (i + 1) := by
  have hl := pairs_len _ (chunks L i) (Nat.le_refl _)
  have h2 : (L.length / 2 ^ i) / 2 = L.length / 2 ^ (i + 1) := by rw [Nat.div_div_eq_div_mul, Nat.pow_succ]
  rw [chunks_len] at hl
  apply List.ext_getElem
  · rw [hl, chunks_len, h2]
  · intro k h1 h3
    have hk : k < L.length / 2 ^ i / 2 := by omega
    have hk2 : 2 * k + 1 < L.length / 2 ^ i := by omega
    have a := pairs_get _ (chunks L i) k (Nat.le_refl _) (by rw [chunks_len]; exact hk2)
    rw [chunks_get L i _ (by omega), chunks_get L i _ hk2] at a
    have b := chunks_get L (i + 1) k (by omega)
    have hp := Nat.two_pow_pos i
    have hend : (2 * k + 1 + 1) * 2 ^ i ≤ L.length := Nat.le_trans (Nat.mul_le_mul_right _ (by omega)) (Nat.div_mul_le_self L.length (2 ^ i))
    have hfst : (2 * k + 1) * 2 ^ i ≤ L.length := Nat.le_trans (Nat.mul_le_mul_right _ (by omega)) hend
    rw [chunk_two, rootF_join i _ _ (chunk_len hfst) (by rw [chunk_len hend]; exact hp) (by rw [chunk_len hend]; exact Nat.le_refl _)] at b
    have c := a.trans b.symm
    simpa [List.getD, h1, h3] using c
/-- all levels, by pairs -/
def levGo : Nat → List (List UInt8) → List (List (List UInt8))
  | 0, _ => []
  | f + 1, L => if L.length = 0 then [] else L :: levGo f (pairs L)
def levelsF (L : List (List UInt8)) : List (List (List UInt8)) := levGo L.length L
theorem levGo_end (f : Nat) (L : List (List UInt8)) (h : L.length = 0) : levGo f L = [] := by
  cases f with
  | zero => rfl
  | succ f => simp only [levGo, if_pos h]
theorem levGo_more (f : Nat) (L : List (List UInt8)) (h : L.length ≠ 0) (hf : L.length ≤ f) : ∃ g, f = g + 1 ∧ (pairs L).length ≤ g ∧ levGo f L = L :: levGo g (pairs L) := by
  have hl := pairs_len _ L (Nat.le_refl _)
  exact ⟨f - 1, by omega, by omega, by rw [show f = (f - 1) + 1 by omega, levGo, if_neg h, Nat.add_sub_cancel]⟩
end Go.Proofs.Ytlfncgpjgbpdjaa
