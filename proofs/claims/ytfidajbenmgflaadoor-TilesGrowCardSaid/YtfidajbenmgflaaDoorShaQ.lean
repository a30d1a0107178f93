/-
  Plain lists with noughts behind them, for the document's block. Conditions: those in each statement.
-/
import Derived.Test.YtfidajbenmgflaaDoorShaD
namespace Go.Proofs.YtfidajbenmgflaaDoor
open Go.RowKit
theorem padZ_zero (ws : List UInt32) (n : Nat) (h : ws.length < n) : padZ (ws ++ [0]) n = padZ ws n := by
  unfold padZ Z
  rw [show n - ws.length = (n - (ws ++ [(0 : UInt32)]).length) + 1 from by simp; omega, List.replicate_succ]
  simp
theorem padZ_last (ws : List UInt32) (n : Nat) (x y : UInt32) : (padZ (ws ++ [x]) n).set ws.length y = padZ (ws ++ [y]) n := by
  unfold padZ
  simp
end Go.Proofs.YtfidajbenmgflaaDoor
