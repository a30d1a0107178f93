/-
  The program's reader: numbers. Conditions: those in each statement.
-/
import Derived.Test.YtehlgflpkofooaaDoorJvL
namespace Go.Proofs.YtehlgflpkofooaaDoor
open Go.RowKit

theorem number_any (R : Nat) (xs : List UInt8) (w : World) (h : RdAt w R xs) (hT : Tabs w) (hlim : xs.length ≤ 281474976710656) :
    Calls Tryd.prog 62 #[.pointer (some ⟨R, 0, none⟩)] w (FlatRes ((numF xs).map fun p => (3, [], p.1, p.2)) w R) := by
  obtain ⟨h1, h2, h3⟩ := span_split xs
  unfold numF
  by_cases h0 : (spanD xs).1 = []
  · rw [if_pos h0]
    rw [h0] at h1 h2
    exact number_none R xs (spanD xs).2 w h hT (fun _ _ => ⟨h1, h2, h3⟩)
  · rw [if_neg h0]
    have := number_pos R xs (spanD xs).1 (spanD xs).2 w h hT (fun _ _ => ⟨h1, h2, h3⟩) h0 hlim
    have e : ∀ (p q : Prop) [Decidable p] [Decidable q] (v : Nat) (r : List UInt8), ((if p then none else if q then some (v, r) else none : Option (Nat × List UInt8)).map fun p => (3, ([] : List UInt8), p.1, p.2)) = (if p then none else if q then some (3, [], v, r) else none) := fun p q _ _ v r => by
      by_cases hp : p <;> by_cases hq : q <;> simp [hp, hq]
    rw [e]
    exact this
end Go.Proofs.YtehlgflpkofooaaDoor
