/-
  Layer 8: rows of rows of hashes of a call's own. Conditions: those in each statement.
-/
import Derived.Test.YtlfncgpjgbpdjaaMkH
namespace Go.Proofs.Ytlfncgpjgbpdjaa
open Go.RowKit

theorem OwnD.base {w : World} {B B' : Nat} {v : Value} {L : List (List UInt8)} (h : OwnD w B v L) (hb : B' ≤ B) : OwnD w B' v L := by
  refine ⟨?_, h.all⟩
  obtain ⟨h1, h2 | ⟨g, cap, cur, rfl, hbb, r⟩⟩ := h.row
  · exact ⟨h1, .inl h2⟩
  · exact ⟨h1, .inr ⟨g, cap, cur, rfl, by omega, r⟩⟩
/-- two own rows of different elements lie in different blocks -/
theorem rows_apart {w : World} {B B' : Nat} {e e' : TypeId} {s s' n n' : Nat} {v v' : Value} {xs xs' : List Value} (h : w.ownsRow B e s v n xs) (h' : w.ownsRow B' e' s' v' n' xs') (he : e ≠ e') : v.ownBlock = none ∨ v.ownBlock ≠ v'.ownBlock := by
  obtain ⟨-, ⟨rfl, -⟩ | ⟨g, cap, cur, rfl, -, hg, -⟩⟩ := h
  · exact .inl rfl
  · right
    obtain ⟨-, ⟨rfl, -⟩ | ⟨g', cap', cur', rfl, -, hg', -⟩⟩ := h'
    · intro e; cases e
    · intro e
      have e : some g = some g' := e
      injection e with e
      subst e
      rw [hg] at hg'
      injection hg' with hg'
      injection hg' with _ h2
      exact he h2
theorem OwnD.by {w w' : World} {B : Nat} {v : Value} {L : List (List UInt8)} {row : Option Nat} (h : OwnD w B v L) (hg : w.grownBy w' row) (hne : v.ownBlock = none ∨ v.ownBlock ≠ row) : OwnD w' B v L := ⟨h.row.kept hg hne, h.all⟩
/-- a call's own row of its own rows of hashes -/
def OwnR (w : World) (B : Nat) (v : Value) (LL : List (List (List UInt8))) : Prop :=
  ∃ vs, w.ownsRow B 30 1 v LL.length vs ∧ ∀ k, k < LL.length → ∃ u, vs[k]? = some u ∧ OwnD w B u (LL.getD k [])
theorem OwnR.nil (w : World) (B : Nat) : OwnR w B (.slice none 0 0) [] := ⟨[], World.ownsRow_nil w B 30 1, fun k hk => by simp at hk⟩
theorem OwnR.to {w w' : World} {B : Nat} {v : Value} {LL : List (List (List UInt8))} (h : OwnR w B v LL) (hb : Below w.heap.size w w') : OwnR w' B v LL := by
  obtain ⟨vs, h1, h2⟩ := h
  have hlt := World.ownsRow.lt h1
  refine ⟨vs, ?_, fun k hk => ?_⟩
  · obtain ⟨h1, ⟨rfl, hn⟩ | ⟨g, cap, cur, rfl, hbb, hg, r⟩⟩ := h1
    · exact ⟨h1, .inl ⟨rfl, hn⟩⟩
    · exact ⟨h1, .inr ⟨g, cap, cur, rfl, hbb, by rw [hb.block g (hlt g rfl).2]; exact hg, r⟩⟩
  · obtain ⟨u, e, h⟩ := h2 k hk
    exact ⟨u, e, h.to hb⟩
section
variable {ops : Array Oper} {rest : List Oper} {o : Oper} {a : Act} {Q : Exit → Act → World → Prop} {w : World}
theorem infoDr : (Try.prog.info? 30).map (fun i => (i.zero, i.size, i.bytes)) = some (some (.slice none 0 0), 1, 24) := by kernel_rfl
end
end Go.Proofs.Ytlfncgpjgbpdjaa
