/-
  Slots as a function. Conditions: none.
-/
import Derived.Test.YtfidajbenmgflaaDoorReg
namespace Go.Proofs.YtfidajbenmgflaaDoor
open Go.RowKit
def pickB (b : Bool) (x y : Value) : Value := match b with
  | true => x
  | false => y
/-- slot k turned -/
def upd (v : Nat → Value) (k : Nat) (x : Value) (j : Nat) : Value := pickB (Nat.beq j k) x (v j)
end Go.Proofs.YtfidajbenmgflaaDoor
