/-
  DERIVED. GIVEN WITH THE SEED: THE CARDS: each row of YtbpehdpcnnaidaaDoorRows.lean that lists a variable, with what it lists TIED to the program's text (the seventh form; the later family's looks); each row that meets fmt, with fmt's text TOLD by the authors' own Lean function (tested against real Go, not proved from fmt's source: count such statements apart). THE CARD IS WHAT COUNTS. Prove the row's statement (the work); the ties are given (YtbpehdpcnnaidaaDoorTie.lean); close each card by the builder's one call (the guide's Derived/Test/ToyasCard.lean, 'card_holds'). Laid BY PROGRAM, IN A SANDBOX (cutbox-door.mjs). By AI agents, Wed Nov 11 2026. No macro, syntax, notation, axiom, sorry.
-/
import Derived.Test.YtbpehdpcnnaidaaDoorRows
import GoSem.ClaimSeven
namespace Go.Proofs.YtbpehdpcnnaidaaDoor
namespace Rows

/-- THE TIED CARD OF 'facsimilelaw06.AccountWorlds'. -/
def accountWorldsCard : Claim7 := { stood := { row := accountWorldsRow, standIns := [], harness := (true, "1164992b83efdf69e3c3c1b13e071616aa313e3252000af2c8f1ed7d66bb2ced"), looks := false }, kinds := [], alts := [], laidByText := true, laidKinds := [.data], laidTests := true, laidLooks := .later }
def AccountWorldsCardSaid : Prop := Claim7.holds Tryd.pinned (.plain (OpenSpec.ofChange accountWorldsSpec)) accountWorldsCard

/-- THE SECOND FORM's CARD OF 'facsimilelaw06.AccountWorlds'. -/
def accountWorldsUptoCard : Claim7 := { stood := { row := accountWorldsUptoRow, standIns := [], harness := (true, "1164992b83efdf69e3c3c1b13e071616aa313e3252000af2c8f1ed7d66bb2ced"), looks := false }, kinds := [], alts := [], laidByText := true, laidKinds := [.data], laidTests := true, laidLooks := .later }
def AccountWorldsUptoCardSaid : Prop := Claim7.holds Tryd.pinned (.plain (OpenSpec.upto accountWorldsSpec)) accountWorldsUptoCard
end Rows
end Go.Proofs.YtbpehdpcnnaidaaDoor
