/-
  Layer 8: the head out of the peaks (P8.4), plainly; a part's head stands in its level (P8.5). Conditions: those in each statement.
-/
import Derived.Test.YtlfncgpjgbpdjaaMkV
namespace Go.Proofs.Ytlfncgpjgbpdjaa
open Go.RowKit

/-- the peaks, the greatest first -/
def peaksGo : Nat → List (List UInt8) → List (List UInt8)
  | 0, _ => []
  | f + 1, L => if L.length = 0 then [] else rootF (L.take (2 ^ L.length.log2)) :: peaksGo f (L.drop (2 ^ L.length.log2))
def peaksF (L : List (List UInt8)) : List (List UInt8) := peaksGo L.length L
/-- put together from the last one on -/
def foldP : List (List UInt8) → List UInt8
  | [] => shaL []
  | [a] => a
  | a :: b :: r => nodeH a (foldP (b :: r))
theorem peaksGo_nil (f : Nat) : peaksGo f [] = [] := by cases f <;> rfl
theorem foldP_peaks : ∀ (f : Nat) (L : List (List UInt8)), L.length ≤ f → foldP (peaksGo f L) = rootF L := by
  intro f
  induction f with
  | zero =>
    intro L h
    have e := List.eq_nil_of_length_eq_zero (show L.length = 0 by omega)
    subst e
    rfl
  | succ f ih =>
    intro L h
    by_cases h0 : L.length = 0
    · have e := List.eq_nil_of_length_eq_zero h0
      subst e
      rfl
    · have hk1 := Nat.log2_self_le h0
      have hk2 := @Nat.lt_log2_self L.length
      rw [Nat.pow_succ] at hk2
      have hp := Nat.two_pow_pos L.length.log2
      unfold peaksGo
      rw [if_neg h0]
      obtain ⟨j, hj⟩ : ∃ j, j = L.length.log2 := ⟨_, rfl⟩
      rw [← hj] at hk1 hk2 hp ⊢
      by_cases hle : L.length = 2 ^ j
      · rw [List.take_of_length_le (by omega), List.drop_of_length_le (by omega), peaksGo_nil]
        rfl
      · have hd : (L.drop (2 ^ j)).length = L.length - 2 ^ j := List.length_drop
        have hi := ih (L.drop (2 ^ j)) (by omega)
        have hjn := rootF_join j (L.take (2 ^ j)) (L.drop (2 ^ j)) (by rw [List.length_take]; omega) (by omega) (by omega)
        rw [List.take_append_drop] at hjn
        cases hq : peaksGo f (L.drop (2 ^ j)) with
        | nil =>
          cases f with
          | zero => omega
          | succ f =>
            unfold peaksGo at hq
            rw [if_neg (by omega)] at hq
            cases hq
        | cons b r =>
          rw [hq] at hi
          rw [hjn, ← hi]
          rfl
theorem foldP_root (L : List (List UInt8)) : foldP (peaksF L) = rootF L := foldP_peaks _ _ (Nat.le_refl _)
/-- level i's head at k is that of its part -/
theorem lev_part (L : List (List UInt8)) (i k : Nat) (h : (k + 1) * 2 ^ i ≤ L.length) : (chunks L i).getD k [] = rootF ((L.drop (k * 2 ^ i)).take ((k + 1) * 2 ^ i - k * 2 ^ i)) := by
  have hk : k < L.length / 2 ^ i := by
    rw [Nat.lt_iff_add_one_le, Nat.le_div_iff_mul_le (Nat.two_pow_pos i)]
    exact h
  rw [chunks_get L i k hk, Nat.add_mul, Nat.one_mul, Nat.add_sub_cancel_left]
  rfl
end Go.Proofs.Ytlfncgpjgbpdjaa
