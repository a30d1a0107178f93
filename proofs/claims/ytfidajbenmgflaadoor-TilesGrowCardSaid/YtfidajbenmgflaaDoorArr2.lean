/-
  Blocks of cells known whole: copy into the midst of one. Conditions: those in each statement.
-/
import Derived.Test.YtfidajbenmgflaaDoorArr
namespace Go.Proofs.YtfidajbenmgflaaDoor
open Go.RowKit

theorem setRow_grown (w : World) (g : Nat) (cs : Array Value) : w.grownBy (w.setRow g cs) (some g) :=
  ⟨rfl, rfl, rfl, by simp, fun k _ hne => setRow_other w g k cs (by intro e; exact hne (by rw [e]))⟩
section
variable {P : Program} {ops : Array Oper} {rest : List Oper} {o : Oper} {a : Act} {Q : Exit → Act → World → Prop} {w : World}
/-- copy into the midst of a block -/
theorem wl_copyV (hgd : o.guard = none) (d s : Operand) (dT sT : TypeId) (ho : o.op = .call { callee := .builtin .copy, args := #[d, s], argTypes := #[dT, sT] })
    (elem : TypeId) (hu : P.underlying dT = some (.slice elem)) (hsz : (P.info? elem).map (·.size) = some 1) (g off dLen dCap : Nat) (sp : Option Addr) (sLen sCap : Nat)
    (hd : a.eval d = .slice (some ⟨g, off, none⟩) dLen dCap) (hs : a.eval s = .slice sp sLen sCap) (T : TypeId) (old : List Value) (hA : Arr w g T old) (cs : List Value) (hn : cs.length = Nat.min sLen dLen)
    (hsrc : 0 < cs.length → ∃ ad, sp = some ad ∧ ∀ j v, cs[j]? = some v → w.cell? (ad.add j) = some v) (hfit : off + cs.length ≤ old.length) (h1 : ∀ v ∈ cs, v.oneCell' = true)
    (hK : ∀ w', Arr w' g T (old.take off ++ (cs ++ old.drop (off + cs.length))) → w.grownBy w' (some g) → w.heap.size ≤ w'.heap.size → wpList P ops Q rest (a.put o.dst (goInt cs.length)) w') :
    wpList P ops Q (o :: rest) a w := by
  by_cases h0 : cs.length = 0
  · obtain rfl : cs = [] := List.eq_nil_of_length_eq_zero h0
    refine wpList_copy_nothing hgd d s dT sT ho elem hu hsz _ sp dLen dCap sLen sCap hd hs (by simpa using hn.symm) ?_
    exact hK w (by simpa using hA) (World.grownBy.refl _ _) (Nat.le_refl _)
  · obtain ⟨ad, rfl, hsr⟩ := hsrc (by omega)
    refine wpList_copy_own hgd d s dT sT ho elem hu hsz g off dLen dCap ad sLen sCap hd hs old.toArray T hA cs hn hsr (by simpa using hfit) h1 ?_
    refine hK _ ?_ (setRow_grown _ _ _) (by simp)
    have := setRow_heap w g old.toArray (old.toArray.toList.take off ++ (cs ++ old.toArray.toList.drop (off + cs.length))).toArray T (0, 0) hA
    simpa [Arr] using this
end
end Go.Proofs.YtfidajbenmgflaaDoor
