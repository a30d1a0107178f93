/-
  Layer 10: the document's Head; Verify of both. Conditions: those in each statement.
-/
import Derived.Test.YtcnnblhjgligbaaInH
namespace Go.Proofs.Ytcnnblhjgligbaa
open Go.RowKit

theorem run_guardEq (x y : Operand) (A B : Array Value) (w : World) : (eqGuard .eql 41 x y (.agg A) (.agg B)).run Try.prog w = .ok () w := by
  unfold eqGuard
  simp
section
variable {o : Oper} {a : Act} {K : Act → World → Prop} {Q : Exit → Act → World → Prop} {w : World} {ops : Array Oper} {rest : List Oper}
theorem ow_eqD (x y : Operand) (r : TypeId) (ho : o.op = .binOp .eql 41 x y r) (xs ys : List UInt8) (hl : xs.length = 32) (hm : ys.length = 32) (hx : a.eval x = .agg (bvs xs).toArray) (hy : a.eval y = .agg (bvs ys).toArray)
    (hK : K (a.put o.dst (.bool (decide (xs = ys)))) w) : o.wp Try.prog a w K Q := by
  have h := eqD hl hm w
  unfold Oper.wp execOp
  simp only [ho, hx, hy, Sem.run_bind, Sem.run_pure, run_guardEq, h, Result.andThen_ok]
  exact hK
theorem wl_eqD (hw : Region.wanted o (yielded ops a.tmps) = true) (x y : Operand) (r : TypeId) (ho : o.op = .binOp .eql 41 x y r) (xs ys : List UInt8) (hl : xs.length = 32) (hm : ys.length = 32) (hx : a.eval x = .agg (bvs xs).toArray) (hy : a.eval y = .agg (bvs ys).toArray)
    (hK : wpList Try.prog ops Q rest (a.put o.dst (.bool (decide (xs = ys)))) w) : wpList Try.prog ops Q (o :: rest) a w :=
  wpList_step fun _ hK' => by
    rw [if_pos hw]
    exact ow_eqD x y r ho xs ys hl hm hx hy (hK' _ _ hK)
end
/-- whether a path is verified -/
def verB (d : List UInt8) (i s : Nat) (P : List (List UInt8)) (r : List UInt8) : Bool := okH i s P.length && decide (hdV d i s P = r)

end Go.Proofs.Ytcnnblhjgligbaa
