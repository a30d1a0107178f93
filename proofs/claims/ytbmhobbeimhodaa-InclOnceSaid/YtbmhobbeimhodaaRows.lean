/-
  No cell of these rows narrows 'for every input' (looked for: loops, veiled, ifaces, maps, wideKeys, modest, calm, conditions, laid).
  DERIVED. THE GIVEN ROWS OF THIS SEAT. 7 by the template 'for every input the law returns true; each argument reads behind the call as it read before'; 0 by the template 'total and deterministic' (their statements: YtbmhobbeimhodaaTotals.lean).
  GIVEN WITH THE SEED: the statements are not yours to turn. If you find one false, say at which input.
  Laid BY PROGRAM, IN A SANDBOX (cutbox-rows.mjs): the forced cells as the released guide's own fill.sh prints them over the translation 77aea2a952a52868… (all of the seat's roots in one cut). By AI agents, Wed Nov 11 2026. No macro, syntax, notation, axiom, sorry.
-/
import Derived.Test.YtbmhobbeimhodaaChecked
import GoSem.Claim
import GoSem.ClaimJoined
import GoSem.ClaimMapViews
import Derived.JoinedTies
import Derived.KernelRfl
namespace Go.Proofs.Ytbmhobbeimhodaa
/- THE CELL 'sum', in the pinned program and in every row, IS THE sha256 OF THE DUMP (.gsa) THAT YtbmhobbeimhodaaProg.lean LOADS. Nothing in Lean hashes anything: it is a label: what it is worth is what the hold of that sum in a sandbox is worth. -/
noncomputable def Try.pinned : Pinned := { name := "ytbmhobbeimhodaa", sum := "77aea2a952a528680e0ffe63ced7a2f1bd45bff4f2febd7dfa464e0570eb83c1", checked := Try.checked }
namespace Rows
def none {H : Type} : Left H := { results := [], args := [] }

/-- 'escritoirelaw10.InclRanges': WHATEVER THE INPUT: true; the input reads as it did. -/
def inclRangesSpec : ChangeSpec := { name := "inclRanges", fn := fun _ => fun
  | [d1, d2] => { results := [.lit (.bool true)], args := [d1, d2] }
  | _ => none }
def inclRangesRow : OpenClaim := { program := "ytbmhobbeimhodaa", sum := "77aea2a952a528680e0ffe63ced7a2f1bd45bff4f2febd7dfa464e0570eb83c1", func := "escritoire/escritoirelaw10.InclRanges", spec := "inclRanges", unfollowed := true, recurses := true, apart := false }
def InclRangesSaid : Prop := inclRangesRow.holds Try.pinned (OpenSpec.ofChange inclRangesSpec)

/-- ITS FALSE NEIGHBOUR: 'it returns false'. Refute it at one input. -/
def inclRangesWrong : ChangeSpec := { name := "inclRanges", fn := fun _ => fun
  | [d1, d2] => { results := [.lit (.bool false)], args := [d1, d2] }
  | _ => none }
def InclRangesWrongFalsely : Prop := inclRangesRow.holds Try.pinned (OpenSpec.ofChange inclRangesWrong)

/-- 'escritoirelaw10.InclPaths': WHATEVER THE INPUT: true; the input reads as it did. -/
def inclPathsSpec : ChangeSpec := { name := "inclPaths", fn := fun _ => fun
  | [d1, d2] => { results := [.lit (.bool true)], args := [d1, d2] }
  | _ => none }
def inclPathsRow : OpenClaim := { program := "ytbmhobbeimhodaa", sum := "77aea2a952a528680e0ffe63ced7a2f1bd45bff4f2febd7dfa464e0570eb83c1", func := "escritoire/escritoirelaw10.InclPaths", spec := "inclPaths", unfollowed := true, recurses := true, apart := false }
def InclPathsSaid : Prop := inclPathsRow.holds Try.pinned (OpenSpec.ofChange inclPathsSpec)

/-- ITS FALSE NEIGHBOUR: 'it returns false'. Refute it at one input. -/
def inclPathsWrong : ChangeSpec := { name := "inclPaths", fn := fun _ => fun
  | [d1, d2] => { results := [.lit (.bool false)], args := [d1, d2] }
  | _ => none }
def InclPathsWrongFalsely : Prop := inclPathsRow.holds Try.pinned (OpenSpec.ofChange inclPathsWrong)

/-- 'escritoirelaw10.InclTells': WHATEVER THE INPUT: true; the input reads as it did. -/
def inclTellsSpec : ChangeSpec := { name := "inclTells", fn := fun _ => fun
  | [d] => { results := [.lit (.bool true)], args := [d] }
  | _ => none }
def inclTellsRow : OpenClaim := { program := "ytbmhobbeimhodaa", sum := "77aea2a952a528680e0ffe63ced7a2f1bd45bff4f2febd7dfa464e0570eb83c1", func := "escritoire/escritoirelaw10.InclTells", spec := "inclTells", unfollowed := true, recurses := true, apart := false }
def InclTellsSaid : Prop := inclTellsRow.holds Try.pinned (OpenSpec.ofChange inclTellsSpec)

/-- ITS FALSE NEIGHBOUR: 'it returns false'. Refute it at one input. -/
def inclTellsWrong : ChangeSpec := { name := "inclTells", fn := fun _ => fun
  | [d] => { results := [.lit (.bool false)], args := [d] }
  | _ => none }
def InclTellsWrongFalsely : Prop := inclTellsRow.holds Try.pinned (OpenSpec.ofChange inclTellsWrong)

/-- 'escritoirelaw10.InclComplete': WHATEVER THE INPUT: true; the input reads as it did. -/
def inclCompleteSpec : ChangeSpec := { name := "inclComplete", fn := fun _ => fun
  | [d1, d2] => { results := [.lit (.bool true)], args := [d1, d2] }
  | _ => none }
def inclCompleteRow : OpenClaim := { program := "ytbmhobbeimhodaa", sum := "77aea2a952a528680e0ffe63ced7a2f1bd45bff4f2febd7dfa464e0570eb83c1", func := "escritoire/escritoirelaw10.InclComplete", spec := "inclComplete", unfollowed := true, recurses := true, apart := false }
def InclCompleteSaid : Prop := inclCompleteRow.holds Try.pinned (OpenSpec.ofChange inclCompleteSpec)

/-- ITS FALSE NEIGHBOUR: 'it returns false'. Refute it at one input. -/
def inclCompleteWrong : ChangeSpec := { name := "inclComplete", fn := fun _ => fun
  | [d1, d2] => { results := [.lit (.bool false)], args := [d1, d2] }
  | _ => none }
def InclCompleteWrongFalsely : Prop := inclCompleteRow.holds Try.pinned (OpenSpec.ofChange inclCompleteWrong)

/-- 'escritoirelaw10.InclCovers': WHATEVER THE INPUT: true; the input reads as it did. -/
def inclCoversSpec : ChangeSpec := { name := "inclCovers", fn := fun _ => fun
  | [d1, d2] => { results := [.lit (.bool true)], args := [d1, d2] }
  | _ => none }
def inclCoversRow : OpenClaim := { program := "ytbmhobbeimhodaa", sum := "77aea2a952a528680e0ffe63ced7a2f1bd45bff4f2febd7dfa464e0570eb83c1", func := "escritoire/escritoirelaw10.InclCovers", spec := "inclCovers", unfollowed := true, recurses := true, apart := false }
def InclCoversSaid : Prop := inclCoversRow.holds Try.pinned (OpenSpec.ofChange inclCoversSpec)

/-- ITS FALSE NEIGHBOUR: 'it returns false'. Refute it at one input. -/
def inclCoversWrong : ChangeSpec := { name := "inclCovers", fn := fun _ => fun
  | [d1, d2] => { results := [.lit (.bool false)], args := [d1, d2] }
  | _ => none }
def InclCoversWrongFalsely : Prop := inclCoversRow.holds Try.pinned (OpenSpec.ofChange inclCoversWrong)

/-- 'escritoirelaw10.InclOnce': WHATEVER THE INPUT: true; the input reads as it did. -/
def inclOnceSpec : ChangeSpec := { name := "inclOnce", fn := fun _ => fun
  | [d1, d2, d3] => { results := [.lit (.bool true)], args := [d1, d2, d3] }
  | _ => none }
def inclOnceRow : OpenClaim := { program := "ytbmhobbeimhodaa", sum := "77aea2a952a528680e0ffe63ced7a2f1bd45bff4f2febd7dfa464e0570eb83c1", func := "escritoire/escritoirelaw10.InclOnce", spec := "inclOnce", unfollowed := true, recurses := true, apart := false }
def InclOnceSaid : Prop := inclOnceRow.holds Try.pinned (OpenSpec.ofChange inclOnceSpec)

/-- ITS FALSE NEIGHBOUR: 'it returns false'. Refute it at one input. -/
def inclOnceWrong : ChangeSpec := { name := "inclOnce", fn := fun _ => fun
  | [d1, d2, d3] => { results := [.lit (.bool false)], args := [d1, d2, d3] }
  | _ => none }
def InclOnceWrongFalsely : Prop := inclOnceRow.holds Try.pinned (OpenSpec.ofChange inclOnceWrong)

/-- 'escritoirelaw10.InclKnown': WHATEVER THE INPUT: true; the input reads as it did. -/
def inclKnownSpec : ChangeSpec := { name := "inclKnown", fn := fun _ => fun
  | [] => { results := [.lit (.bool true)], args := [] }
  | _ => none }
def inclKnownRow : OpenClaim := { program := "ytbmhobbeimhodaa", sum := "77aea2a952a528680e0ffe63ced7a2f1bd45bff4f2febd7dfa464e0570eb83c1", func := "escritoire/escritoirelaw10.InclKnown", spec := "inclKnown", unfollowed := true, recurses := true, apart := false }
def InclKnownSaid : Prop := inclKnownRow.holds Try.pinned (OpenSpec.ofChange inclKnownSpec)

/-- ITS FALSE NEIGHBOUR: 'it returns false'. Refute it at one input. -/
def inclKnownWrong : ChangeSpec := { name := "inclKnown", fn := fun _ => fun
  | [] => { results := [.lit (.bool false)], args := [] }
  | _ => none }
def InclKnownWrongFalsely : Prop := inclKnownRow.holds Try.pinned (OpenSpec.ofChange inclKnownWrong)

/- THE SECOND FORM. 'bulk': how many values and letters a reading holds, each counted each time it is reached (what is shared counts as often as it is met; a slice's spare places count too). A statement '..UptoSaid' is the law's where the arguments, and the package variables that the reading takes, are together of bulk at most 1048576: NARROWER than '..Said'. Prove '..Said' where nothing that the law and all that it calls make is longer than what came in: it says more and counts as full. Else prove '..UptoSaid'. A law counts once. -/
mutual
def uptoBulk {H : Type} : DataW H → Nat
  | .lit (.string bytes) => bytes.length + 1
  | .lit _ => 1
  | .nil => 1
  | .ptr d => uptoBulk d + 1
  | .slice elems spare => uptoBulkAll elems + uptoBulkAll spare + 1
  | .agg parts => uptoBulkAll parts + 1
  | .iface _ d => uptoBulk d + 1
  | .map entries => uptoBulkEntries entries + 1
  | .held _ => 1
def uptoBulkAll {H : Type} : List (DataW H) → Nat
  | [] => 0
  | d :: r => uptoBulk d + uptoBulkAll r
def uptoBulkEntries {H : Type} : List (Lit × DataW H) → Nat
  | [] => 0
  | x :: r => uptoBulkEntry x + uptoBulkEntries r
def uptoBulkEntry {H : Type} : Lit × DataW H → Nat
  | (.string bytes, d) => bytes.length + uptoBulk d + 1
  | (_, d) => uptoBulk d + 1
 end
def uptoSmall : (H : Type) → List (DataW H) → Bool := fun _ ds => decide (uptoBulkAll ds ≤ 1048576)
def OpenSpec.upto (s : _root_.Go.ChangeSpec) : _root_.Go.OpenSpec := { _root_.Go.OpenSpec.ofChange s with cond := some uptoSmall }

/-- 'escritoirelaw10.InclRanges', WHERE WHAT IT READS IS OF BULK AT MOST 1048576: true; the input reads as it did. -/
def inclRangesUptoRow : OpenClaim := { program := "ytbmhobbeimhodaa", sum := "77aea2a952a528680e0ffe63ced7a2f1bd45bff4f2febd7dfa464e0570eb83c1", func := "escritoire/escritoirelaw10.InclRanges", spec := "inclRanges", unfollowed := true, recurses := true, apart := false, narrowed := true }
def InclRangesUptoSaid : Prop := inclRangesUptoRow.holds Try.pinned (OpenSpec.upto inclRangesSpec)

/-- 'escritoirelaw10.InclPaths', WHERE WHAT IT READS IS OF BULK AT MOST 1048576: true; the input reads as it did. -/
def inclPathsUptoRow : OpenClaim := { program := "ytbmhobbeimhodaa", sum := "77aea2a952a528680e0ffe63ced7a2f1bd45bff4f2febd7dfa464e0570eb83c1", func := "escritoire/escritoirelaw10.InclPaths", spec := "inclPaths", unfollowed := true, recurses := true, apart := false, narrowed := true }
def InclPathsUptoSaid : Prop := inclPathsUptoRow.holds Try.pinned (OpenSpec.upto inclPathsSpec)

/-- 'escritoirelaw10.InclTells', WHERE WHAT IT READS IS OF BULK AT MOST 1048576: true; the input reads as it did. -/
def inclTellsUptoRow : OpenClaim := { program := "ytbmhobbeimhodaa", sum := "77aea2a952a528680e0ffe63ced7a2f1bd45bff4f2febd7dfa464e0570eb83c1", func := "escritoire/escritoirelaw10.InclTells", spec := "inclTells", unfollowed := true, recurses := true, apart := false, narrowed := true }
def InclTellsUptoSaid : Prop := inclTellsUptoRow.holds Try.pinned (OpenSpec.upto inclTellsSpec)

/-- 'escritoirelaw10.InclComplete', WHERE WHAT IT READS IS OF BULK AT MOST 1048576: true; the input reads as it did. -/
def inclCompleteUptoRow : OpenClaim := { program := "ytbmhobbeimhodaa", sum := "77aea2a952a528680e0ffe63ced7a2f1bd45bff4f2febd7dfa464e0570eb83c1", func := "escritoire/escritoirelaw10.InclComplete", spec := "inclComplete", unfollowed := true, recurses := true, apart := false, narrowed := true }
def InclCompleteUptoSaid : Prop := inclCompleteUptoRow.holds Try.pinned (OpenSpec.upto inclCompleteSpec)

/-- 'escritoirelaw10.InclCovers', WHERE WHAT IT READS IS OF BULK AT MOST 1048576: true; the input reads as it did. -/
def inclCoversUptoRow : OpenClaim := { program := "ytbmhobbeimhodaa", sum := "77aea2a952a528680e0ffe63ced7a2f1bd45bff4f2febd7dfa464e0570eb83c1", func := "escritoire/escritoirelaw10.InclCovers", spec := "inclCovers", unfollowed := true, recurses := true, apart := false, narrowed := true }
def InclCoversUptoSaid : Prop := inclCoversUptoRow.holds Try.pinned (OpenSpec.upto inclCoversSpec)

/-- 'escritoirelaw10.InclOnce', WHERE WHAT IT READS IS OF BULK AT MOST 1048576: true; the input reads as it did. -/
def inclOnceUptoRow : OpenClaim := { program := "ytbmhobbeimhodaa", sum := "77aea2a952a528680e0ffe63ced7a2f1bd45bff4f2febd7dfa464e0570eb83c1", func := "escritoire/escritoirelaw10.InclOnce", spec := "inclOnce", unfollowed := true, recurses := true, apart := false, narrowed := true }
def InclOnceUptoSaid : Prop := inclOnceUptoRow.holds Try.pinned (OpenSpec.upto inclOnceSpec)

/-- 'escritoirelaw10.InclKnown', WHERE WHAT IT READS IS OF BULK AT MOST 1048576: true; the input reads as it did. -/
def inclKnownUptoRow : OpenClaim := { program := "ytbmhobbeimhodaa", sum := "77aea2a952a528680e0ffe63ced7a2f1bd45bff4f2febd7dfa464e0570eb83c1", func := "escritoire/escritoirelaw10.InclKnown", spec := "inclKnown", unfollowed := true, recurses := true, apart := false, narrowed := true }
def InclKnownUptoSaid : Prop := inclKnownUptoRow.holds Try.pinned (OpenSpec.upto inclKnownSpec)

end Rows
end Go.Proofs.Ytbmhobbeimhodaa
