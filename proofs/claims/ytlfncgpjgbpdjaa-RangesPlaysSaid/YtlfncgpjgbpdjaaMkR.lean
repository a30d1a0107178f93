/-
  Layer 8: rows of rows of hashes that lie apart; the program's Levels. Conditions: those in each statement.
-/
import Derived.Test.YtlfncgpjgbpdjaaMkQ
namespace Go.Proofs.Ytlfncgpjgbpdjaa
open Go.RowKit

/-- a call's own row of its own rows of hashes, each in a block of its own below C -/
def OwnS (w : World) (B C : Nat) (v : Value) (LL : List (List (List UInt8))) : Prop :=
  ∃ vs, w.ownsRow B 30 1 v LL.length vs ∧ (∀ k, k < LL.length → ∃ u, vs[k]? = some u ∧ OwnD w B u (LL.getD k [])) ∧
    (∀ (j k : Nat) (x y : Value) (g : Nat), j ≠ k → vs[j]? = some x → vs[k]? = some y → x.ownBlock = some g → y.ownBlock ≠ some g) ∧ ∀ (j : Nat) (x : Value) (g : Nat), vs[j]? = some x → x.ownBlock = some g → g < C
theorem OwnS.ownR {w : World} {B C : Nat} {v : Value} {LL : List (List (List UInt8))} (h : OwnS w B C v LL) : OwnR w B v LL := by
  obtain ⟨vs, h1, h2, -⟩ := h
  exact ⟨vs, h1, h2⟩
theorem OwnS.nil (w : World) (B C : Nat) : OwnS w B C (.slice none 0 0) [] :=
  ⟨[], World.ownsRow_nil w B 30 1, fun k hk => by simp at hk, fun j k x y g _ h => by simp at h, fun j x g h => by simp at h⟩
theorem OwnS.up {w : World} {B C C' : Nat} {v : Value} {LL : List (List (List UInt8))} (h : OwnS w B C v LL) (hc : C ≤ C') : OwnS w B C' v LL := by
  obtain ⟨vs, h1, h2, h3, h4⟩ := h
  exact ⟨vs, h1, h2, h3, fun j x g a b => Nat.lt_of_lt_of_le (h4 j x g a b) hc⟩
theorem OwnS.to {w w' : World} {B C : Nat} {v : Value} {LL : List (List (List UInt8))} (h : OwnS w B C v LL) (hb : Below w.heap.size w w') : OwnS w' B C v LL := by
  obtain ⟨vs, h1, h2, h3, h4⟩ := h
  have hlt := World.ownsRow.lt h1
  refine ⟨vs, ?_, fun k hk => ?_, h3, h4⟩
  · obtain ⟨h1, ⟨rfl, hn⟩ | ⟨g, cap, cur, rfl, hbb, hg, r⟩⟩ := h1
    · exact ⟨h1, .inl ⟨rfl, hn⟩⟩
    · exact ⟨h1, .inr ⟨g, cap, cur, rfl, hbb, by rw [hb.block g (hlt g rfl).2]; exact hg, r⟩⟩
  · obtain ⟨u, e, h⟩ := h2 k hk
    exact ⟨u, e, h.to hb⟩
theorem OwnS.one {w : World} {B g : Nat} {u : Value} {L : List (List UInt8)} (hA : Arr w g 30 [u]) (hB : B ≤ g) (hu : OwnD w B u L) : OwnS w B w.heap.size (.slice (some ⟨g, 0, none⟩) 1 1) [L] := by
  refine ⟨[u], ⟨rfl, .inr ⟨g, 1, _, rfl, hB, hA, Nat.le_refl _, by unfold maxLen; omega, rfl, rfl⟩⟩, fun k hk => ?_, fun j k x y q hjk h1 h2 => ?_, fun j x q h1 h2 => ?_⟩
  · obtain rfl : k = 0 := by simpa using hk
    exact ⟨u, rfl, hu⟩
  · have e1 : j < 1 := by have := (List.getElem?_eq_some_iff.1 h1).1; simpa using this
    have e2 : k < 1 := by have := (List.getElem?_eq_some_iff.1 h2).1; simpa using this
    omega
  · have e1 : j < 1 := by have := (List.getElem?_eq_some_iff.1 h1).1; simpa using this
    obtain rfl : j = 0 := by omega
    simp at h1
    subst h1
    exact (World.ownsRow.lt hu.row q h2).2

section
variable {ops : Array Oper} {rest : List Oper} {o : Oper} {a : Act} {Q : Exit → Act → World → Prop} {w : World}
end

end Go.Proofs.Ytlfncgpjgbpdjaa
