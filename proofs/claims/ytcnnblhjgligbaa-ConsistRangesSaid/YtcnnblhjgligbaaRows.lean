/-
  No cell of these rows narrows 'for every input' (looked for: loops, veiled, ifaces, maps, wideKeys, modest, calm, conditions, laid).
  DERIVED. THE GIVEN ROWS OF THIS SEAT. 7 by the template 'for every input the law returns true; each argument reads behind the call as it read before'; 0 by the template 'total and deterministic' (their statements: YtcnnblhjgligbaaTotals.lean).
  GIVEN WITH THE SEED: the statements are not yours to turn. If you find one false, say at which input.
  Laid BY PROGRAM, IN A SANDBOX (cutbox-rows.mjs): the forced cells as the released guide's own fill.sh prints them over the translation d27c9ecc38dcb1d3… (all of the seat's roots in one cut). By AI agents, Wed Nov 11 2026. No macro, syntax, notation, axiom, sorry.
-/
import Derived.Test.YtcnnblhjgligbaaChecked
import GoSem.Claim
import GoSem.ClaimJoined
import GoSem.ClaimMapViews
import Derived.JoinedTies
import Derived.KernelRfl
namespace Go.Proofs.Ytcnnblhjgligbaa
/- THE CELL 'sum', in the pinned program and in every row, IS THE sha256 OF THE DUMP (.gsa) THAT YtcnnblhjgligbaaProg.lean LOADS. Nothing in Lean hashes anything: it is a label: what it is worth is what the hold of that sum in a sandbox is worth. -/
noncomputable def Try.pinned : Pinned := { name := "ytcnnblhjgligbaa", sum := "d27c9ecc38dcb1d37321787cf542bdecd1c40977eb22b8d221c92f3478c17f75", checked := Try.checked }
namespace Rows
def none {H : Type} : Left H := { results := [], args := [] }

/-- 'escritoirelaw11.ConsistRanges': WHATEVER THE INPUT: true; the input reads as it did. -/
def consistRangesSpec : ChangeSpec := { name := "consistRanges", fn := fun _ => fun
  | [d1, d2] => { results := [.lit (.bool true)], args := [d1, d2] }
  | _ => none }
def consistRangesRow : OpenClaim := { program := "ytcnnblhjgligbaa", sum := "d27c9ecc38dcb1d37321787cf542bdecd1c40977eb22b8d221c92f3478c17f75", func := "escritoire/escritoirelaw11.ConsistRanges", spec := "consistRanges", unfollowed := true, recurses := true, apart := false }
def ConsistRangesSaid : Prop := consistRangesRow.holds Try.pinned (OpenSpec.ofChange consistRangesSpec)

/-- ITS FALSE NEIGHBOUR: 'it returns false'. Refute it at one input. -/
def consistRangesWrong : ChangeSpec := { name := "consistRanges", fn := fun _ => fun
  | [d1, d2] => { results := [.lit (.bool false)], args := [d1, d2] }
  | _ => none }
def ConsistRangesWrongFalsely : Prop := consistRangesRow.holds Try.pinned (OpenSpec.ofChange consistRangesWrong)

/-- 'escritoirelaw11.ConsistProofs': WHATEVER THE INPUT: true; the input reads as it did. -/
def consistProofsSpec : ChangeSpec := { name := "consistProofs", fn := fun _ => fun
  | [d1, d2] => { results := [.lit (.bool true)], args := [d1, d2] }
  | _ => none }
def consistProofsRow : OpenClaim := { program := "ytcnnblhjgligbaa", sum := "d27c9ecc38dcb1d37321787cf542bdecd1c40977eb22b8d221c92f3478c17f75", func := "escritoire/escritoirelaw11.ConsistProofs", spec := "consistProofs", unfollowed := true, recurses := true, apart := false }
def ConsistProofsSaid : Prop := consistProofsRow.holds Try.pinned (OpenSpec.ofChange consistProofsSpec)

/-- ITS FALSE NEIGHBOUR: 'it returns false'. Refute it at one input. -/
def consistProofsWrong : ChangeSpec := { name := "consistProofs", fn := fun _ => fun
  | [d1, d2] => { results := [.lit (.bool false)], args := [d1, d2] }
  | _ => none }
def ConsistProofsWrongFalsely : Prop := consistProofsRow.holds Try.pinned (OpenSpec.ofChange consistProofsWrong)

/-- 'escritoirelaw11.ConsistTells': WHATEVER THE INPUT: true; the input reads as it did. -/
def consistTellsSpec : ChangeSpec := { name := "consistTells", fn := fun _ => fun
  | [d] => { results := [.lit (.bool true)], args := [d] }
  | _ => none }
def consistTellsRow : OpenClaim := { program := "ytcnnblhjgligbaa", sum := "d27c9ecc38dcb1d37321787cf542bdecd1c40977eb22b8d221c92f3478c17f75", func := "escritoire/escritoirelaw11.ConsistTells", spec := "consistTells", unfollowed := true, recurses := true, apart := false }
def ConsistTellsSaid : Prop := consistTellsRow.holds Try.pinned (OpenSpec.ofChange consistTellsSpec)

/-- ITS FALSE NEIGHBOUR: 'it returns false'. Refute it at one input. -/
def consistTellsWrong : ChangeSpec := { name := "consistTells", fn := fun _ => fun
  | [d] => { results := [.lit (.bool false)], args := [d] }
  | _ => none }
def ConsistTellsWrongFalsely : Prop := consistTellsRow.holds Try.pinned (OpenSpec.ofChange consistTellsWrong)

/-- 'escritoirelaw11.ConsistComplete': WHATEVER THE INPUT: true; the input reads as it did. -/
def consistCompleteSpec : ChangeSpec := { name := "consistComplete", fn := fun _ => fun
  | [d1, d2] => { results := [.lit (.bool true)], args := [d1, d2] }
  | _ => none }
def consistCompleteRow : OpenClaim := { program := "ytcnnblhjgligbaa", sum := "d27c9ecc38dcb1d37321787cf542bdecd1c40977eb22b8d221c92f3478c17f75", func := "escritoire/escritoirelaw11.ConsistComplete", spec := "consistComplete", unfollowed := true, recurses := true, apart := false }
def ConsistCompleteSaid : Prop := consistCompleteRow.holds Try.pinned (OpenSpec.ofChange consistCompleteSpec)

/-- ITS FALSE NEIGHBOUR: 'it returns false'. Refute it at one input. -/
def consistCompleteWrong : ChangeSpec := { name := "consistComplete", fn := fun _ => fun
  | [d1, d2] => { results := [.lit (.bool false)], args := [d1, d2] }
  | _ => none }
def ConsistCompleteWrongFalsely : Prop := consistCompleteRow.holds Try.pinned (OpenSpec.ofChange consistCompleteWrong)

/-- 'escritoirelaw11.ConsistCovers': WHATEVER THE INPUT: true; the input reads as it did. -/
def consistCoversSpec : ChangeSpec := { name := "consistCovers", fn := fun _ => fun
  | [d1, d2] => { results := [.lit (.bool true)], args := [d1, d2] }
  | _ => none }
def consistCoversRow : OpenClaim := { program := "ytcnnblhjgligbaa", sum := "d27c9ecc38dcb1d37321787cf542bdecd1c40977eb22b8d221c92f3478c17f75", func := "escritoire/escritoirelaw11.ConsistCovers", spec := "consistCovers", unfollowed := true, recurses := true, apart := false }
def ConsistCoversSaid : Prop := consistCoversRow.holds Try.pinned (OpenSpec.ofChange consistCoversSpec)

/-- ITS FALSE NEIGHBOUR: 'it returns false'. Refute it at one input. -/
def consistCoversWrong : ChangeSpec := { name := "consistCovers", fn := fun _ => fun
  | [d1, d2] => { results := [.lit (.bool false)], args := [d1, d2] }
  | _ => none }
def ConsistCoversWrongFalsely : Prop := consistCoversRow.holds Try.pinned (OpenSpec.ofChange consistCoversWrong)

/-- 'escritoirelaw11.ConsistChains': WHATEVER THE INPUT: true; the input reads as it did. -/
def consistChainsSpec : ChangeSpec := { name := "consistChains", fn := fun _ => fun
  | [d1, d2, d3] => { results := [.lit (.bool true)], args := [d1, d2, d3] }
  | _ => none }
def consistChainsRow : OpenClaim := { program := "ytcnnblhjgligbaa", sum := "d27c9ecc38dcb1d37321787cf542bdecd1c40977eb22b8d221c92f3478c17f75", func := "escritoire/escritoirelaw11.ConsistChains", spec := "consistChains", unfollowed := true, recurses := true, apart := false }
def ConsistChainsSaid : Prop := consistChainsRow.holds Try.pinned (OpenSpec.ofChange consistChainsSpec)

/-- ITS FALSE NEIGHBOUR: 'it returns false'. Refute it at one input. -/
def consistChainsWrong : ChangeSpec := { name := "consistChains", fn := fun _ => fun
  | [d1, d2, d3] => { results := [.lit (.bool false)], args := [d1, d2, d3] }
  | _ => none }
def ConsistChainsWrongFalsely : Prop := consistChainsRow.holds Try.pinned (OpenSpec.ofChange consistChainsWrong)

/-- 'escritoirelaw11.ConsistKnown': WHATEVER THE INPUT: true; the input reads as it did. -/
def consistKnownSpec : ChangeSpec := { name := "consistKnown", fn := fun _ => fun
  | [] => { results := [.lit (.bool true)], args := [] }
  | _ => none }
def consistKnownRow : OpenClaim := { program := "ytcnnblhjgligbaa", sum := "d27c9ecc38dcb1d37321787cf542bdecd1c40977eb22b8d221c92f3478c17f75", func := "escritoire/escritoirelaw11.ConsistKnown", spec := "consistKnown", unfollowed := true, recurses := true, apart := false }
def ConsistKnownSaid : Prop := consistKnownRow.holds Try.pinned (OpenSpec.ofChange consistKnownSpec)

/-- ITS FALSE NEIGHBOUR: 'it returns false'. Refute it at one input. -/
def consistKnownWrong : ChangeSpec := { name := "consistKnown", fn := fun _ => fun
  | [] => { results := [.lit (.bool false)], args := [] }
  | _ => none }
def ConsistKnownWrongFalsely : Prop := consistKnownRow.holds Try.pinned (OpenSpec.ofChange consistKnownWrong)

/- THE SECOND FORM. 'bulk': how many values and letters a reading holds, each counted each time it is reached (what is shared counts as often as it is met; a slice's spare places count too). A statement '..UptoSaid' is the law's where the arguments, and the package variables that the reading takes, are together of bulk at most 1048576: NARROWER than '..Said'. Prove '..Said' where nothing that the law and all that it calls make is longer than what came in: it says more and counts as full. Else prove '..UptoSaid'. A law counts once. -/
mutual
def uptoBulk {H : Type} : DataW H → Nat
  | .lit (.string bytes) => bytes.length + 1
  | .lit _ => 1
  | .nil => 1
  | .ptr d => uptoBulk d + 1
  | .slice elems spare => uptoBulkAll elems + uptoBulkAll spare + 1
  | .agg parts => uptoBulkAll parts + 1
  | .iface _ d => uptoBulk d + 1
  | .map entries => uptoBulkEntries entries + 1
  | .held _ => 1
def uptoBulkAll {H : Type} : List (DataW H) → Nat
  | [] => 0
  | d :: r => uptoBulk d + uptoBulkAll r
def uptoBulkEntries {H : Type} : List (Lit × DataW H) → Nat
  | [] => 0
  | x :: r => uptoBulkEntry x + uptoBulkEntries r
def uptoBulkEntry {H : Type} : Lit × DataW H → Nat
  | (.string bytes, d) => bytes.length + uptoBulk d + 1
  | (_, d) => uptoBulk d + 1
 end
def uptoSmall : (H : Type) → List (DataW H) → Bool := fun _ ds => decide (uptoBulkAll ds ≤ 1048576)
def OpenSpec.upto (s : _root_.Go.ChangeSpec) : _root_.Go.OpenSpec := { _root_.Go.OpenSpec.ofChange s with cond := some uptoSmall }

/-- 'escritoirelaw11.ConsistRanges', WHERE WHAT IT READS IS OF BULK AT MOST 1048576: true; the input reads as it did. -/
def consistRangesUptoRow : OpenClaim := { program := "ytcnnblhjgligbaa", sum := "d27c9ecc38dcb1d37321787cf542bdecd1c40977eb22b8d221c92f3478c17f75", func := "escritoire/escritoirelaw11.ConsistRanges", spec := "consistRanges", unfollowed := true, recurses := true, apart := false, narrowed := true }
def ConsistRangesUptoSaid : Prop := consistRangesUptoRow.holds Try.pinned (OpenSpec.upto consistRangesSpec)

/-- 'escritoirelaw11.ConsistProofs', WHERE WHAT IT READS IS OF BULK AT MOST 1048576: true; the input reads as it did. -/
def consistProofsUptoRow : OpenClaim := { program := "ytcnnblhjgligbaa", sum := "d27c9ecc38dcb1d37321787cf542bdecd1c40977eb22b8d221c92f3478c17f75", func := "escritoire/escritoirelaw11.ConsistProofs", spec := "consistProofs", unfollowed := true, recurses := true, apart := false, narrowed := true }
def ConsistProofsUptoSaid : Prop := consistProofsUptoRow.holds Try.pinned (OpenSpec.upto consistProofsSpec)

/-- 'escritoirelaw11.ConsistTells', WHERE WHAT IT READS IS OF BULK AT MOST 1048576: true; the input reads as it did. -/
def consistTellsUptoRow : OpenClaim := { program := "ytcnnblhjgligbaa", sum := "d27c9ecc38dcb1d37321787cf542bdecd1c40977eb22b8d221c92f3478c17f75", func := "escritoire/escritoirelaw11.ConsistTells", spec := "consistTells", unfollowed := true, recurses := true, apart := false, narrowed := true }
def ConsistTellsUptoSaid : Prop := consistTellsUptoRow.holds Try.pinned (OpenSpec.upto consistTellsSpec)

/-- 'escritoirelaw11.ConsistComplete', WHERE WHAT IT READS IS OF BULK AT MOST 1048576: true; the input reads as it did. -/
def consistCompleteUptoRow : OpenClaim := { program := "ytcnnblhjgligbaa", sum := "d27c9ecc38dcb1d37321787cf542bdecd1c40977eb22b8d221c92f3478c17f75", func := "escritoire/escritoirelaw11.ConsistComplete", spec := "consistComplete", unfollowed := true, recurses := true, apart := false, narrowed := true }
def ConsistCompleteUptoSaid : Prop := consistCompleteUptoRow.holds Try.pinned (OpenSpec.upto consistCompleteSpec)

/-- 'escritoirelaw11.ConsistCovers', WHERE WHAT IT READS IS OF BULK AT MOST 1048576: true; the input reads as it did. -/
def consistCoversUptoRow : OpenClaim := { program := "ytcnnblhjgligbaa", sum := "d27c9ecc38dcb1d37321787cf542bdecd1c40977eb22b8d221c92f3478c17f75", func := "escritoire/escritoirelaw11.ConsistCovers", spec := "consistCovers", unfollowed := true, recurses := true, apart := false, narrowed := true }
def ConsistCoversUptoSaid : Prop := consistCoversUptoRow.holds Try.pinned (OpenSpec.upto consistCoversSpec)

/-- 'escritoirelaw11.ConsistChains', WHERE WHAT IT READS IS OF BULK AT MOST 1048576: true; the input reads as it did. -/
def consistChainsUptoRow : OpenClaim := { program := "ytcnnblhjgligbaa", sum := "d27c9ecc38dcb1d37321787cf542bdecd1c40977eb22b8d221c92f3478c17f75", func := "escritoire/escritoirelaw11.ConsistChains", spec := "consistChains", unfollowed := true, recurses := true, apart := false, narrowed := true }
def ConsistChainsUptoSaid : Prop := consistChainsUptoRow.holds Try.pinned (OpenSpec.upto consistChainsSpec)

/-- 'escritoirelaw11.ConsistKnown', WHERE WHAT IT READS IS OF BULK AT MOST 1048576: true; the input reads as it did. -/
def consistKnownUptoRow : OpenClaim := { program := "ytcnnblhjgligbaa", sum := "d27c9ecc38dcb1d37321787cf542bdecd1c40977eb22b8d221c92f3478c17f75", func := "escritoire/escritoirelaw11.ConsistKnown", spec := "consistKnown", unfollowed := true, recurses := true, apart := false, narrowed := true }
def ConsistKnownUptoSaid : Prop := consistKnownUptoRow.holds Try.pinned (OpenSpec.upto consistKnownSpec)

end Rows
end Go.Proofs.Ytcnnblhjgligbaa
