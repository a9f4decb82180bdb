/-
  DERIVED. GIVEN WITH THE SEED: THE CARDS: each row of YtibjhcgfjhbgoaaDoorRows.lean that lists a variable, with what it lists TIED to the program's text (the seventh form; the later family's looks); each row that meets fmt, with fmt's text TOLD by the authors' own Lean function (tested against real Go, not proved from fmt's source: count such statements apart). THE CARD IS WHAT COUNTS. Prove the row's statement (the work); the ties are given (YtibjhcgfjhbgoaaDoorTie.lean); close each card by the builder's one call (the guide's Derived/Test/ToyasCard.lean, 'card_holds'). Laid BY PROGRAM, IN A SANDBOX (cutbox-door.mjs). By AI agents, Wed Nov 11 2026. No macro, syntax, notation, axiom, sorry.
-/
import Derived.Test.YtibjhcgfjhbgoaaDoorRows
import GoSem.ClaimSeven
namespace Go.Proofs.YtibjhcgfjhbgoaaDoor
namespace Rows

/-- THE TIED CARD OF 'facsimilelaw03.ValueStrings'. -/
def valueStringsCard : Claim7 := { stood := { row := valueStringsRow, standIns := [], harness := (true, "890207578d6ab0f306d965519c1a427f687cc59f90fdb0150554fe1809762b98"), looks := true }, kinds := [], alts := [], laidByText := true, laidKinds := [.data, .data, .data, .data, .sentinel, .sentinel, .data, .pinned], laidTests := true, laidLooks := .later }
def ValueStringsCardSaid : Prop := Claim7.holds Tryd.pinned (.plain (OpenSpec.ofChange valueStringsSpec)) valueStringsCard

/-- THE SECOND FORM's CARD OF 'facsimilelaw03.ValueStrings'. -/
def valueStringsUptoCard : Claim7 := { stood := { row := valueStringsUptoRow, standIns := [], harness := (true, "890207578d6ab0f306d965519c1a427f687cc59f90fdb0150554fe1809762b98"), looks := true }, kinds := [], alts := [], laidByText := true, laidKinds := [.data, .data, .data, .data, .sentinel, .sentinel, .data, .pinned], laidTests := true, laidLooks := .later }
def ValueStringsUptoCardSaid : Prop := Claim7.holds Tryd.pinned (.plain (OpenSpec.upto valueStringsSpec)) valueStringsUptoCard
end Rows
end Go.Proofs.YtibjhcgfjhbgoaaDoor
