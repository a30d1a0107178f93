/-
  The answers' deep: may a value be? Conditions: those in each statement.
-/
import Derived.Test.YtehlgflpkofooaaDoorJsonV
namespace Go.Proofs.YtehlgflpkofooaaDoor
open Go.RowKit

/-- what the first test refuses -/
def bad1 (k : Int) (s : List UInt8) (n : Nat) (l : List JV) (ks : List (List UInt8)) : Prop :=
  k < 0 ∨ 6 < k ∨ (k ≠ 3 ∧ n ≠ 0) ∨ (k ≠ 4 ∧ 0 < s.length) ∨ (k ≠ 6 ∧ 0 < ks.length) ∨ (k < 5 ∧ 0 < l.length)
/-- .. the second -/
def bad2 (k : Int) (s : List UInt8) (l : List JV) (ks : List (List UInt8)) (most : Nat) : Prop :=
  (5 ≤ k ∧ most = 0) ∨ utf8F s = false ∨ (k = 6 ∧ ks.length ≠ l.length)
theorem isE {α : Type} (l : List α) : l.isEmpty = decide (l = []) := by cases l <;> simp
theorem head_split (k : Int) (s : List UInt8) (n : Nat) (l : List JV) (ks : List (List UInt8)) (most : Nat) :
    headF k s n l ks most = true ↔ (¬ bad1 k s n l ks ∧ ¬ bad2 k s l ks most ∧ ks.all utf8F = true ∧ apartF ks = true) := by
  unfold headF bad1 bad2
  simp only [isE, Bool.and_eq_true, Bool.or_eq_true, decide_eq_true_eq]
  have e1 : (0 < ks.length) ↔ ks ≠ [] := List.length_pos_iff
  have e2 : (0 < l.length) ↔ l ≠ [] := List.length_pos_iff
  have e3 : (0 < s.length) ↔ s ≠ [] := List.length_pos_iff
  rw [e1, e2, e3]
  generalize utf8F s = u
  generalize (ks.all utf8F = true) = A
  generalize (apartF ks = true) = B
  by_cases hl : l = []
  · have : l.length = 0 := by rw [hl]; rfl
    by_cases hk : ks = []
    · have : ks.length = 0 := by rw [hk]; rfl
      by_cases hA : A <;> by_cases hB : B <;> by_cases hS : s = [] <;> cases u <;> simp [hl, hk, hA, hB, hS] <;> omega
    · by_cases hA : A <;> by_cases hB : B <;> by_cases hS : s = [] <;> cases u <;> simp [hl, hk, hA, hB, hS] <;> omega
  · by_cases hk : ks = []
    · have : ks.length = 0 := by rw [hk]; rfl
      by_cases hA : A <;> by_cases hB : B <;> by_cases hS : s = [] <;> cases u <;> simp [hl, hk, hA, hB, hS] <;> omega
    · by_cases hA : A <;> by_cases hB : B <;> by_cases hS : s = [] <;> cases u <;> simp [hl, hk, hA, hB, hS] <;> omega

mutual
/-- all texts are so long at most -/
def smallV : JV → Nat → Prop
  | .mk _ s _ l ks, m => s.length ≤ m ∧ (∀ k ∈ ks, k.length ≤ m) ∧ smallL l m
def smallL : List JV → Nat → Prop
  | [], _ => True
  | v :: r, m => smallV v m ∧ smallL r m
end
theorem small_at : ∀ (l : List JV) (m i : Nat) (v : JV), smallL l m → l[i]? = some v → smallV v m
  | [], _, _, _, _, h => by simp at h
  | u :: r, m, 0, v, h, hi => by
    unfold smallL at h
    cases hi
    exact h.1
  | u :: r, m, i + 1, v, h, hi => by
    unfold smallL at h
    exact small_at r m i v h.2 (by simpa using hi)

end Go.Proofs.YtehlgflpkofooaaDoor
