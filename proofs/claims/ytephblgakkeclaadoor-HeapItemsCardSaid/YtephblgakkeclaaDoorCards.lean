/-
  DERIVED. GIVEN WITH THE SEED: THE CARDS: each row of YtephblgakkeclaaDoorRows.lean that lists a variable, with what it lists TIED to the program's text (the seventh form; the later family's looks); each row that meets fmt, with fmt's text TOLD by the authors' own Lean function (tested against real Go, not proved from fmt's source: count such statements apart). THE CARD IS WHAT COUNTS. Prove the row's statement (the work); the ties are given (YtephblgakkeclaaDoorTie.lean); close each card by the builder's one call (the guide's Derived/Test/ToyasCard.lean, 'card_holds'). Laid BY PROGRAM, IN A SANDBOX (cutbox-door.mjs). By AI agents, Wed Nov 11 2026. No macro, syntax, notation, axiom, sorry.
-/
import Derived.Test.YtephblgakkeclaaDoorRows
import GoSem.ClaimSeven
namespace Go.Proofs.YtephblgakkeclaaDoor
namespace Rows

/-- THE TIED CARD OF 'facsimilelaw04.HeapItems'. -/
def heapItemsCard : Claim7 := { stood := { row := heapItemsRow, standIns := [], harness := (true, "67fa9c69b854e167c2179eebd23ff2659e5b1eadf91a11e858ab60274b7b2215"), looks := false }, kinds := [], alts := [], laidByText := true, laidKinds := [.data, .data, .data, .data], laidTests := true, laidLooks := .later }
def HeapItemsCardSaid : Prop := Claim7.holds Tryd.pinned (.plain (OpenSpec.ofChange heapItemsSpec)) heapItemsCard

/-- THE SECOND FORM's CARD OF 'facsimilelaw04.HeapItems'. -/
def heapItemsUptoCard : Claim7 := { stood := { row := heapItemsUptoRow, standIns := [], harness := (true, "67fa9c69b854e167c2179eebd23ff2659e5b1eadf91a11e858ab60274b7b2215"), looks := false }, kinds := [], alts := [], laidByText := true, laidKinds := [.data, .data, .data, .data], laidTests := true, laidLooks := .later }
def HeapItemsUptoCardSaid : Prop := Claim7.holds Tryd.pinned (.plain (OpenSpec.upto heapItemsSpec)) heapItemsUptoCard
end Rows
end Go.Proofs.YtephblgakkeclaaDoor
