/-
  Two hashes held against each other, as an operation. Conditions: those in each statement.
-/
import Derived.Test.YtpnhflpajccbbaaMkZ
namespace Go.Proofs.Ytpnhflpajccbbaa
open Go.RowKit
theorem run_guardNe (x y : Operand) (A B : Array Value) (w : World) : (eqGuard .neq 25 x y (.agg A) (.agg B)).run Try.prog w = .ok () w := by
  unfold eqGuard
  simp
theorem run_guardEq (x y : Operand) (A B : Array Value) (w : World) : (eqGuard .eql 25 x y (.agg A) (.agg B)).run Try.prog w = .ok () w := by
  unfold eqGuard
  simp
section
variable {o : Oper} {a : Act} {K : Act → World → Prop} {Q : Exit → Act → World → Prop} {w : World}
theorem ow_neSame (x y : Operand) (r : TypeId) (ho : o.op = .binOp .neq 25 x y r) (xs : List UInt8) (hl : xs.length = 32) (hx : a.eval x = .agg (bvs xs).toArray) (hy : a.eval y = .agg (bvs xs).toArray)
    (hK : K (a.put o.dst (.bool false)) w) : o.wp Try.prog a w K Q := by
  have h := neD hl hl w
  rw [decide_eq_true rfl] at h
  unfold Oper.wp execOp
  simp only [ho, hx, hy, Sem.run_bind, Sem.run_pure, run_guardNe, h, Result.andThen_ok]
  exact hK
theorem ow_neDiff (x y : Operand) (r : TypeId) (ho : o.op = .binOp .neq 25 x y r) (xs ys : List UInt8) (hl : xs.length = 32) (hm : ys.length = 32) (hne : xs ≠ ys) (hx : a.eval x = .agg (bvs xs).toArray) (hy : a.eval y = .agg (bvs ys).toArray)
    (hK : K (a.put o.dst (.bool true)) w) : o.wp Try.prog a w K Q := by
  have h := neD hl hm w
  rw [decide_eq_false hne] at h
  unfold Oper.wp execOp
  simp only [ho, hx, hy, Sem.run_bind, Sem.run_pure, run_guardNe, h, Result.andThen_ok]
  exact hK
theorem ow_eqSame (x y : Operand) (r : TypeId) (ho : o.op = .binOp .eql 25 x y r) (xs : List UInt8) (hl : xs.length = 32) (hx : a.eval x = .agg (bvs xs).toArray) (hy : a.eval y = .agg (bvs xs).toArray)
    (hK : K (a.put o.dst (.bool true)) w) : o.wp Try.prog a w K Q := by
  have h := eqD hl hl w
  rw [decide_eq_true rfl] at h
  unfold Oper.wp execOp
  simp only [ho, hx, hy, Sem.run_bind, Sem.run_pure, run_guardEq, h, Result.andThen_ok]
  exact hK
end
end Go.Proofs.Ytpnhflpajccbbaa
