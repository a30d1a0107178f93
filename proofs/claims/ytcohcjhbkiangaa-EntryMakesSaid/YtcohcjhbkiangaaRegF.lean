/-
  Slots as a function. Conditions: none.
-/
import Derived.Test.YtcohcjhbkiangaaReg
namespace Go.Proofs.Ytcohcjhbkiangaa
open Go.RowKit
/-- slot k turned -/
def upd (v : Nat → Value) (k : Nat) (x : Value) (j : Nat) : Value := bif Nat.beq j k then x else v j
end Go.Proofs.Ytcohcjhbkiangaa
