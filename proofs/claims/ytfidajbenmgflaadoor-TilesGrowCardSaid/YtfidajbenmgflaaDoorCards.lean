/-
  DERIVED. GIVEN WITH THE SEED: THE CARDS: each row of YtfidajbenmgflaaDoorRows.lean that lists a variable, with what it lists TIED to the program's text (the seventh form; the later family's looks); each row that meets fmt, with fmt's text TOLD by the authors' own Lean function (tested against real Go, not proved from fmt's source: count such statements apart). THE CARD IS WHAT COUNTS. Prove the row's statement (the work); the ties are given (YtfidajbenmgflaaDoorTie.lean); close each card by the builder's one call (the guide's Derived/Test/ToyasCard.lean, 'card_holds'). Laid BY PROGRAM, IN A SANDBOX (cutbox-door.mjs). By AI agents, Wed Nov 11 2026. No macro, syntax, notation, axiom, sorry.
-/
import Derived.Test.YtfidajbenmgflaaDoorRows
import GoSem.ClaimSeven
namespace Go.Proofs.YtfidajbenmgflaaDoor
namespace Rows

/-- THE TIED CARD OF 'escritoirelaw16.TilesNames'. -/
def tilesNamesCard : Claim7 := { stood := { row := tilesNamesRow, standIns := [], harness := (true, "4337277dd02693fcc9f1330bfef1a6eb6d65f2309b410d6a37873695ead81d95"), looks := true }, kinds := [], alts := [], laidByText := true, laidKinds := [.data, .data, .data, .sentinel, .sentinel], laidTests := true, laidLooks := .later }
def TilesNamesCardSaid : Prop := Claim7.holds Tryd.pinned (.plain (OpenSpec.ofChange tilesNamesSpec)) tilesNamesCard

/-- THE TIED CARD OF 'escritoirelaw16.TilesBytes'. -/
def tilesBytesCard : Claim7 := { stood := { row := tilesBytesRow, standIns := [], harness := (true, "4337277dd02693fcc9f1330bfef1a6eb6d65f2309b410d6a37873695ead81d95"), looks := true }, kinds := [], alts := [], laidByText := true, laidKinds := [.data, .data, .data, .sentinel, .sentinel], laidTests := true, laidLooks := .later }
def TilesBytesCardSaid : Prop := Claim7.holds Tryd.pinned (.plain (OpenSpec.ofChange tilesBytesSpec)) tilesBytesCard

/-- THE TIED CARD OF 'escritoirelaw16.TilesBack'. -/
def tilesBackCard : Claim7 := { stood := { row := tilesBackRow, standIns := [], harness := (true, "4337277dd02693fcc9f1330bfef1a6eb6d65f2309b410d6a37873695ead81d95"), looks := true }, kinds := [], alts := [], laidByText := true, laidKinds := [.data, .data, .data, .sentinel, .sentinel], laidTests := true, laidLooks := .later }
def TilesBackCardSaid : Prop := Claim7.holds Tryd.pinned (.plain (OpenSpec.ofChange tilesBackSpec)) tilesBackCard

/-- THE TIED CARD OF 'escritoirelaw16.TilesGrow'. -/
def tilesGrowCard : Claim7 := { stood := { row := tilesGrowRow, standIns := [], harness := (true, "4337277dd02693fcc9f1330bfef1a6eb6d65f2309b410d6a37873695ead81d95"), looks := true }, kinds := [], alts := [], laidByText := true, laidKinds := [.data, .data, .data, .sentinel, .sentinel], laidTests := true, laidLooks := .later }
def TilesGrowCardSaid : Prop := Claim7.holds Tryd.pinned (.plain (OpenSpec.ofChange tilesGrowSpec)) tilesGrowCard

/-- THE TIED CARD OF 'escritoirelaw16.TilesKnown'. -/
def tilesKnownCard : Claim7 := { stood := { row := tilesKnownRow, standIns := [], harness := (true, "4337277dd02693fcc9f1330bfef1a6eb6d65f2309b410d6a37873695ead81d95"), looks := true }, kinds := [], alts := [], laidByText := true, laidKinds := [.data, .data, .data, .sentinel, .sentinel], laidTests := true, laidLooks := .later }
def TilesKnownCardSaid : Prop := Claim7.holds Tryd.pinned (.plain (OpenSpec.ofChange tilesKnownSpec)) tilesKnownCard

/-- THE SECOND FORM's CARD OF 'escritoirelaw16.TilesNames'. -/
def tilesNamesUptoCard : Claim7 := { stood := { row := tilesNamesUptoRow, standIns := [], harness := (true, "4337277dd02693fcc9f1330bfef1a6eb6d65f2309b410d6a37873695ead81d95"), looks := true }, kinds := [], alts := [], laidByText := true, laidKinds := [.data, .data, .data, .sentinel, .sentinel], laidTests := true, laidLooks := .later }
def TilesNamesUptoCardSaid : Prop := Claim7.holds Tryd.pinned (.plain (OpenSpec.upto tilesNamesSpec)) tilesNamesUptoCard

/-- THE SECOND FORM's CARD OF 'escritoirelaw16.TilesBytes'. -/
def tilesBytesUptoCard : Claim7 := { stood := { row := tilesBytesUptoRow, standIns := [], harness := (true, "4337277dd02693fcc9f1330bfef1a6eb6d65f2309b410d6a37873695ead81d95"), looks := true }, kinds := [], alts := [], laidByText := true, laidKinds := [.data, .data, .data, .sentinel, .sentinel], laidTests := true, laidLooks := .later }
def TilesBytesUptoCardSaid : Prop := Claim7.holds Tryd.pinned (.plain (OpenSpec.upto tilesBytesSpec)) tilesBytesUptoCard

/-- THE SECOND FORM's CARD OF 'escritoirelaw16.TilesBack'. -/
def tilesBackUptoCard : Claim7 := { stood := { row := tilesBackUptoRow, standIns := [], harness := (true, "4337277dd02693fcc9f1330bfef1a6eb6d65f2309b410d6a37873695ead81d95"), looks := true }, kinds := [], alts := [], laidByText := true, laidKinds := [.data, .data, .data, .sentinel, .sentinel], laidTests := true, laidLooks := .later }
def TilesBackUptoCardSaid : Prop := Claim7.holds Tryd.pinned (.plain (OpenSpec.upto tilesBackSpec)) tilesBackUptoCard

/-- THE SECOND FORM's CARD OF 'escritoirelaw16.TilesGrow'. -/
def tilesGrowUptoCard : Claim7 := { stood := { row := tilesGrowUptoRow, standIns := [], harness := (true, "4337277dd02693fcc9f1330bfef1a6eb6d65f2309b410d6a37873695ead81d95"), looks := true }, kinds := [], alts := [], laidByText := true, laidKinds := [.data, .data, .data, .sentinel, .sentinel], laidTests := true, laidLooks := .later }
def TilesGrowUptoCardSaid : Prop := Claim7.holds Tryd.pinned (.plain (OpenSpec.upto tilesGrowSpec)) tilesGrowUptoCard

/-- THE SECOND FORM's CARD OF 'escritoirelaw16.TilesKnown'. -/
def tilesKnownUptoCard : Claim7 := { stood := { row := tilesKnownUptoRow, standIns := [], harness := (true, "4337277dd02693fcc9f1330bfef1a6eb6d65f2309b410d6a37873695ead81d95"), looks := true }, kinds := [], alts := [], laidByText := true, laidKinds := [.data, .data, .data, .sentinel, .sentinel], laidTests := true, laidLooks := .later }
def TilesKnownUptoCardSaid : Prop := Claim7.holds Tryd.pinned (.plain (OpenSpec.upto tilesKnownSpec)) tilesKnownUptoCard
end Rows
end Go.Proofs.YtfidajbenmgflaaDoor
