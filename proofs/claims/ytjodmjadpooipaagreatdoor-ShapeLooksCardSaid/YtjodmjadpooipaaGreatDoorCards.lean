/-
  DERIVED. GIVEN WITH THE SEED: THE CARDS: each row of YtjodmjadpooipaaGreatDoorRows.lean that lists a variable, with what it lists TIED to the program's text (the seventh form; the later family's looks); each row that meets fmt, with fmt's text TOLD by the authors' own Lean function (tested against real Go, not proved from fmt's source: count such statements apart). THE CARD IS WHAT COUNTS. Prove the row's statement (the work); the ties are given (YtjodmjadpooipaaGreatDoorTie.lean); close each card by the builder's one call (the guide's Derived/Test/ToyasCard.lean, 'card_holds'). Laid BY PROGRAM, IN A SANDBOX (cutbox-door.mjs). By AI agents, Wed Nov 11 2026. No macro, syntax, notation, axiom, sorry.
-/
import Derived.Test.YtjodmjadpooipaaGreatDoorRows
import GoSem.ClaimSeven
namespace Go.Proofs.YtjodmjadpooipaaGreatDoor
namespace Rows

/-- THE TIED CARD OF 'facsimilelaw08.ShapeLooks'. -/
def shapeLooksCard : Claim7 := { stood := { row := shapeLooksRow, standIns := [], harness := (true, "b47c57b4dc697318d23e1bc5ef32e2a2ab85cc75dcae9f54d8148cbc3b0950cb"), looks := false }, kinds := [], alts := [], laidByText := true, laidKinds := [.data, .data, .data], laidTests := true, laidLooks := .later }
def ShapeLooksCardSaid : Prop := Claim7.holds Tryz.pinned (.plain (OpenSpec.ofChange shapeLooksSpec)) shapeLooksCard

/-- THE SECOND FORM's CARD OF 'facsimilelaw08.ShapeLooks'. -/
def shapeLooksUptoCard : Claim7 := { stood := { row := shapeLooksUptoRow, standIns := [], harness := (true, "b47c57b4dc697318d23e1bc5ef32e2a2ab85cc75dcae9f54d8148cbc3b0950cb"), looks := false }, kinds := [], alts := [], laidByText := true, laidKinds := [.data, .data, .data], laidTests := true, laidLooks := .later }
def ShapeLooksUptoCardSaid : Prop := Claim7.holds Tryz.pinned (.plain (OpenSpec.upto shapeLooksSpec)) shapeLooksUptoCard
end Rows
end Go.Proofs.YtjodmjadpooipaaGreatDoor
