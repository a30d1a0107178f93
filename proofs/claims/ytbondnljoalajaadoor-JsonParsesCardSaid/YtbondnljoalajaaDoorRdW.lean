/-
  Layer 4: a rune's bytes, as string(rune(n)) has them. Conditions: none.
-/
import Derived.Test.YtbondnljoalajaaDoorRdR
import Derived.Laws.Runes
namespace Go.Proofs.YtbondnljoalajaaDoor
open Go.RowKit

theorem encode_rune (n : Nat) (h1 : ¬ (55296 ≤ n ∧ n < 57344)) (h2 : n ≤ 1114111) : Utf8.encode (n : Int) = bstr (runeF n) := by
  have hv : Utf8.valid (n : Int) = true := by
    rw [validRune_eq]
    unfold validRune
    exact decide_eq_true (by omega)
  unfold Utf8.encode runeF
  rw [hv]
  simp only [if_true, Int.toNat_natCast]
  by_cases a1 : n < 128
  · rw [if_pos a1, if_pos a1]; rfl
  · rw [if_neg a1, if_neg a1]
    by_cases a2 : n < 2048
    · rw [if_pos a2, if_pos a2]; rfl
    · rw [if_neg a2, if_neg a2]
      by_cases a3 : n < 65536
      · rw [if_pos a3, if_pos a3]; rfl
      · rw [if_neg a3, if_neg a3]; rfl
theorem encode_any (i : Int) : ∃ s : List UInt8, Utf8.encode i = bstr s ∧ s.length ≤ 4 := by
  refine ⟨(Utf8.encode i).data.toList, ?_, ?_⟩
  · unfold bstr
    rfl
  · unfold Utf8.encode
    simp only
    repeat' split
    all_goals simp
theorem rune_four (n : Nat) : (runeF n).length ≤ 4 := by
  unfold runeF
  repeat' split
  all_goals simp
end Go.Proofs.YtbondnljoalajaaDoor
