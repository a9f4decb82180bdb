/-
  DERIVED. GIVEN WITH THE SEED: THE CARDS: each row of YtfgdloliconbaaaDoorRows.lean that lists a variable, with what it lists TIED to the program's text (the seventh form; the later family's looks); each row that meets fmt, with fmt's text TOLD by the authors' own Lean function (tested against real Go, not proved from fmt's source: count such statements apart). THE CARD IS WHAT COUNTS. Prove the row's statement (the work); the ties are given (YtfgdloliconbaaaDoorTie.lean); close each card by the builder's one call (the guide's Derived/Test/ToyasCard.lean, 'card_holds'). Laid BY PROGRAM, IN A SANDBOX (cutbox-door.mjs). By AI agents, Wed Nov 11 2026. No macro, syntax, notation, axiom, sorry.
-/
import Derived.Test.YtfgdloliconbaaaDoorRows
import GoSem.ClaimSeven
namespace Go.Proofs.YtfgdloliconbaaaDoor
namespace Rows

/-- THE TIED CARD OF 'facsimilelaw03.ValueInts'. -/
def valueIntsCard : Claim7 := { stood := { row := valueIntsRow, standIns := [], harness := (true, "b4ca16ef81ee21597cb7ac86c83685ed00ddf0c63e477e57e70b0169e5d7958f"), looks := true }, kinds := [], alts := [], laidByText := true, laidKinds := [.data, .data, .data, .data, .sentinel, .sentinel, .data, .pinned], laidTests := true, laidLooks := .later }
def ValueIntsCardSaid : Prop := Claim7.holds Tryd.pinned (.plain (OpenSpec.ofChange valueIntsSpec)) valueIntsCard

/-- THE TIED CARD OF 'facsimilelaw03.ValueStrings'. -/
def valueStringsCard : Claim7 := { stood := { row := valueStringsRow, standIns := [], harness := (true, "b4ca16ef81ee21597cb7ac86c83685ed00ddf0c63e477e57e70b0169e5d7958f"), looks := true }, kinds := [], alts := [], laidByText := true, laidKinds := [.data, .data, .data, .data, .sentinel, .sentinel, .data, .pinned], laidTests := true, laidLooks := .later }
def ValueStringsCardSaid : Prop := Claim7.holds Tryd.pinned (.plain (OpenSpec.ofChange valueStringsSpec)) valueStringsCard

/-- THE SECOND FORM's CARD OF 'facsimilelaw03.ValueInts'. -/
def valueIntsUptoCard : Claim7 := { stood := { row := valueIntsUptoRow, standIns := [], harness := (true, "b4ca16ef81ee21597cb7ac86c83685ed00ddf0c63e477e57e70b0169e5d7958f"), looks := true }, kinds := [], alts := [], laidByText := true, laidKinds := [.data, .data, .data, .data, .sentinel, .sentinel, .data, .pinned], laidTests := true, laidLooks := .later }
def ValueIntsUptoCardSaid : Prop := Claim7.holds Tryd.pinned (.plain (OpenSpec.upto valueIntsSpec)) valueIntsUptoCard

/-- THE SECOND FORM's CARD OF 'facsimilelaw03.ValueStrings'. -/
def valueStringsUptoCard : Claim7 := { stood := { row := valueStringsUptoRow, standIns := [], harness := (true, "b4ca16ef81ee21597cb7ac86c83685ed00ddf0c63e477e57e70b0169e5d7958f"), looks := true }, kinds := [], alts := [], laidByText := true, laidKinds := [.data, .data, .data, .data, .sentinel, .sentinel, .data, .pinned], laidTests := true, laidLooks := .later }
def ValueStringsUptoCardSaid : Prop := Claim7.holds Tryd.pinned (.plain (OpenSpec.upto valueStringsSpec)) valueStringsUptoCard
end Rows
end Go.Proofs.YtfgdloliconbaaaDoor
