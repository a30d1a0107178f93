/-
  Plain: values that have no others in them. Conditions: those in each statement.
-/
import Derived.Test.YtehlgflpkofooaaDoorJvP
namespace Go.Proofs.YtehlgflpkofooaaDoor
open Go.RowKit

theorem must_drop : ∀ (s b : List UInt8), mustF s b = if s.isPrefixOf b then some (b.drop s.length) else none
  | [], b => by simp [mustF]
  | _ :: _, [] => by simp [mustF]
  | c :: s, d :: b => by
    simp only [mustF, List.isPrefixOf, List.length_cons, List.drop_succ_cons]
    by_cases h : c = d
    · rw [if_pos h, must_drop s b]
      simp [h]
    · rw [if_neg h]
      simp [h]
theorem bytesOf_nat (xs : List UInt8) : Lib.bytesOf (xs.map fun x => (x.toNat : Int)) = xs := by
  unfold Lib.bytesOf
  rw [List.map_map]
  conv => rhs; rw [← List.map_id xs]
  apply List.map_congr_left
  intro x _
  simp
/-- one of the three words -/
def wordX : Nat → List UInt8
  | 0 => [110, 117, 108, 108]
  | 1 => [102, 97, 108, 115, 101]
  | _ => [116, 114, 117, 101]
/-- the first word from the k-th on that is next -/
def wordsF : Nat → Nat → List UInt8 → Option (Nat × List UInt8)
  | 0, _, _ => none
  | n + 1, k, ys => match mustF (wordX k) ys with | some q => some (k, q) | none => wordsF n (k + 1) ys
/-- a value without others -/
def singleF (xs : List UInt8) : Option (Nat × List UInt8 × Nat × List UInt8) :=
  if (takeF 34 xs).1 = true then (strF ((takeF 34 xs).2.length + 1) (takeF 34 xs).2).map fun (s, q) => (4, s, 0, q)
  else match wordsF 3 0 (takeF 34 xs).2 with
    | some (k, q) => some (k, [], 0, q)
    | none => (numF (takeF 34 xs).2).map fun p => (3, [], p.1, p.2)
theorem take_len (c : UInt8) (xs : List UInt8) : (takeF c xs).2.length ≤ xs.length := by
  have := blanks_len xs
  unfold takeF
  split
  · simp
  · rename_i d r h
    rw [h] at this
    split
    · simp at this ⊢
      omega
    · exact this
theorem take_less (c : UInt8) (xs : List UInt8) (h : (takeF c xs).1 = true) : (takeF c xs).2.length < xs.length := by
  have := blanks_len xs
  unfold takeF at h ⊢
  split
  · rename_i hh
    rw [hh] at h
    cases h
  · rename_i d r hh
    rw [hh] at this h
    simp only [List.length_cons] at this
    split
    · simp only
      omega
    · rename_i hd
      simp only [if_neg hd] at h
      cases h
end Go.Proofs.YtehlgflpkofooaaDoor
