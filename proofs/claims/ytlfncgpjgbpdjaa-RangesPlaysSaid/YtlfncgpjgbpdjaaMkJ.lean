/-
  Layer 8: the document's Levels. Conditions: those in each statement.
-/
import Derived.Test.YtlfncgpjgbpdjaaMkI
namespace Go.Proofs.Ytlfncgpjgbpdjaa
open Go.RowKit

/-- the levels below i -/
def levs (L : List (List UInt8)) (i : Nat) : List (List (List UInt8)) := (List.range i).map (chunks L)
theorem levs_succ (L : List (List UInt8)) (i : Nat) : levs L (i + 1) = levs L i ++ [chunks L i] := by simp [levs, List.range_succ]

end Go.Proofs.Ytlfncgpjgbpdjaa
