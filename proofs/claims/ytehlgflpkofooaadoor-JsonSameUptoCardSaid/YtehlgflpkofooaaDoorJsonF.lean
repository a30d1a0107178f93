/-
  The program's May: whether a value may be. Conditions: those in each statement.
-/
import Derived.Test.YtehlgflpkofooaaDoorJsonC
namespace Go.Proofs.YtehlgflpkofooaaDoor
open Go.RowKit

set_option maxRecDepth 100000 in
theorem May_any (v : JV) (cs : List Value) (w : World) (h : PV w v cs) (hs : smallV v 9223372036854775000) (hT : Tabs w) :
    Calls Tryd.prog 15 #[.agg cs.toArray] w fun e w' => e = .returned (.bool (mayF v 8)) ∧ Below w.heap.size w w' := by
  have hmm : ∀ (w : World), (Instr.makeMap 66 none).run Tryd.prog w = .ok (.map (some w.heap.size)) (w.alloc (.map #[] 0)) := fun w => by
    simp [Instr.makeMap, Result.andThen]
  obtain ⟨xk, xs, xn, xa, xl, xc, xb, xm, xd, rfl⟩ := pv_shape h
  have hc : Hid (∀ W B, B = W.heap.size → Below w.heap.size w W → Calls Tryd.prog 27 #[.agg #[.int .i64 xk, .string xs, .int .u64 xn, .slice xa xl xc, .slice xb xm xd], .int .i64 0, .map (some B)] (W.alloc (.map #[] 0)) fun e w' => e = .returned (.bool (mayF v 8)) ∧ Below w.heap.size w w')   := fun W B hBB hW => by
    subst hBB
    have hW2 : Below w.heap.size w (W.alloc (.map #[] 0)) := hW.alloc hW.size _
    refine (may_all _ v _ (W.alloc (.map #[] 0)) W.heap.size 0 [] (Nat.le_refl _) (pv_keep (CellsKept.of_below hW2) _ _ h) hs (by omega) (hT.to hW2) (MapR.new W) (by intro q hq; cases hq)).mono ?_
    rintro e w' ⟨h1, h2, -⟩
    exact ⟨h1, hW2.grown h2 (by simp; have := hW.size; omega) (fun k hk => by cases hk; exact hW.size)⟩
  clear h hs hT
  go_enter Tryd.func15, Tryd.ntmps15
  go_wp2_with (go_at_call 27; go_loud (refine (hc.out _ _ (by simp) ((Below.refl _ _).alloc (Nat.le_refl _) _)).mono ?_); rintro e w9 ⟨rfl, hb9⟩)
  go_ret
  exact ⟨rfl, hb9⟩
end Go.Proofs.YtehlgflpkofooaaDoor
