/-
  Layer 8: the levels by pairs are the levels by parts. Conditions: those in each statement.
-/
import Derived.Test.YtlfncgpjgbpdjaaMkK
namespace Go.Proofs.Ytlfncgpjgbpdjaa
open Go.RowKit

theorem levGo_range (L : List (List UInt8)) (i : Nat) (h1 : L.length < 2 ^ i) (h2 : ∀ j, j < i → 2 ^ j ≤ L.length) : ∀ (d j f : Nat), j + d = i → (chunks L j).length ≤ f → levGo f (chunks L j) = (List.range' j d).map (chunks L) := by
  intro d
  induction d with
  | zero =>
    intro j f hj hf
    obtain rfl : j = i := by omega
    rw [levGo_end _ _ (by rw [chunks_len]; exact Nat.div_eq_of_lt h1)]
    rfl
  | succ d ih =>
    intro j f hj hf
    have h0 : (chunks L j).length ≠ 0 := by
      rw [chunks_len]
      have := Nat.div_pos (h2 j (by omega)) (Nat.two_pow_pos j)
      omega
    obtain ⟨g, -, hg, e⟩ := levGo_more f (chunks L j) h0 hf
    rw [e, pairs_chunks, ih (j + 1) g (by omega) (by rw [← pairs_chunks]; exact hg), List.range'_succ]
    rfl
theorem levs_levelsF (L : List (List UInt8)) (i : Nat) (h1 : L.length < 2 ^ i) (h2 : ∀ j, j < i → 2 ^ j ≤ L.length) : levelsF L = levs L i := by
  have := levGo_range L i h1 h2 i 0 L.length (by omega) (by rw [chunks_zero]; exact Nat.le_refl _)
  rw [chunks_zero] at this
  unfold levelsF levs
  rw [this, List.range_eq_range']
end Go.Proofs.Ytlfncgpjgbpdjaa
