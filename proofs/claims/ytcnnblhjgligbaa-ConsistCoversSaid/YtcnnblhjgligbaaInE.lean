/-
  Layer 10: the document's Ranges. Conditions: those in each statement.
-/
import Derived.Test.YtcnnblhjgligbaaInD
namespace Go.Proofs.Ytcnnblhjgligbaa
open Go.RowKit

end Go.Proofs.Ytcnnblhjgligbaa
