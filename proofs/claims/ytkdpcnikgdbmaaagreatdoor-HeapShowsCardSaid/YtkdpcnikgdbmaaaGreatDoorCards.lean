/-
  DERIVED. GIVEN WITH THE SEED: THE CARDS: each row of YtkdpcnikgdbmaaaGreatDoorRows.lean that lists a variable, with what it lists TIED to the program's text (the seventh form; the later family's looks); each row that meets fmt, with fmt's text TOLD by the authors' own Lean function (tested against real Go, not proved from fmt's source: count such statements apart). THE CARD IS WHAT COUNTS. Prove the row's statement (the work); the ties are given (YtkdpcnikgdbmaaaGreatDoorTie.lean); close each card by the builder's one call (the guide's Derived/Test/ToyasCard.lean, 'card_holds'). Laid BY PROGRAM, IN A SANDBOX (cutbox-door.mjs). By AI agents, Wed Nov 11 2026. No macro, syntax, notation, axiom, sorry.
-/
import Derived.Test.YtkdpcnikgdbmaaaGreatDoorRows
import GoSem.ClaimSeven
namespace Go.Proofs.YtkdpcnikgdbmaaaGreatDoor
namespace Rows

/-- THE TIED CARD OF 'facsimilelaw04.HeapPlays'. -/
def heapPlaysCard : Claim7 := { stood := { row := heapPlaysRow, standIns := [], harness := (true, "2a91722627332851ae65b8ce914e3d6e0142f9b87b25e2b7148675900ae054f7"), looks := false }, kinds := [], alts := [], laidByText := true, laidKinds := [.data, .data, .data, .data], laidTests := true, laidLooks := .later }
def HeapPlaysCardSaid : Prop := Claim7.holds Tryz.pinned (.plain (OpenSpec.ofChange heapPlaysSpec)) heapPlaysCard

/-- THE TIED CARD OF 'facsimilelaw04.HeapLoads'. -/
def heapLoadsCard : Claim7 := { stood := { row := heapLoadsRow, standIns := [], harness := (true, "2a91722627332851ae65b8ce914e3d6e0142f9b87b25e2b7148675900ae054f7"), looks := false }, kinds := [], alts := [], laidByText := true, laidKinds := [.data, .data, .data, .data], laidTests := true, laidLooks := .later }
def HeapLoadsCardSaid : Prop := Claim7.holds Tryz.pinned (.plain (OpenSpec.ofChange heapLoadsSpec)) heapLoadsCard

/-- THE TIED CARD OF 'facsimilelaw04.HeapReach'. -/
def heapReachCard : Claim7 := { stood := { row := heapReachRow, standIns := [], harness := (true, "2a91722627332851ae65b8ce914e3d6e0142f9b87b25e2b7148675900ae054f7"), looks := false }, kinds := [], alts := [], laidByText := true, laidKinds := [.data, .data, .data, .data], laidTests := true, laidLooks := .later }
def HeapReachCardSaid : Prop := Claim7.holds Tryz.pinned (.plain (OpenSpec.ofChange heapReachSpec)) heapReachCard

/-- THE TIED CARD OF 'facsimilelaw04.HeapClosed'. -/
def heapClosedCard : Claim7 := { stood := { row := heapClosedRow, standIns := [], harness := (true, "2a91722627332851ae65b8ce914e3d6e0142f9b87b25e2b7148675900ae054f7"), looks := false }, kinds := [], alts := [], laidByText := true, laidKinds := [.data, .data, .data, .data], laidTests := true, laidLooks := .later }
def HeapClosedCardSaid : Prop := Claim7.holds Tryz.pinned (.plain (OpenSpec.ofChange heapClosedSpec)) heapClosedCard

/-- THE TIED CARD OF 'facsimilelaw04.HeapKeeps'. -/
def heapKeepsCard : Claim7 := { stood := { row := heapKeepsRow, standIns := [], harness := (true, "2a91722627332851ae65b8ce914e3d6e0142f9b87b25e2b7148675900ae054f7"), looks := false }, kinds := [], alts := [], laidByText := true, laidKinds := [.data, .data, .data, .data], laidTests := true, laidLooks := .later }
def HeapKeepsCardSaid : Prop := Claim7.holds Tryz.pinned (.plain (OpenSpec.ofChange heapKeepsSpec)) heapKeepsCard

/-- THE TIED CARD OF 'facsimilelaw04.HeapShows'. -/
def heapShowsCard : Claim7 := { stood := { row := heapShowsRow, standIns := [], harness := (true, "2a91722627332851ae65b8ce914e3d6e0142f9b87b25e2b7148675900ae054f7"), looks := false }, kinds := [], alts := [], laidByText := true, laidKinds := [.data, .data, .data, .data], laidTests := true, laidLooks := .later }
def HeapShowsCardSaid : Prop := Claim7.holds Tryz.pinned (.plain (OpenSpec.ofChange heapShowsSpec)) heapShowsCard

/-- THE SECOND FORM's CARD OF 'facsimilelaw04.HeapPlays'. -/
def heapPlaysUptoCard : Claim7 := { stood := { row := heapPlaysUptoRow, standIns := [], harness := (true, "2a91722627332851ae65b8ce914e3d6e0142f9b87b25e2b7148675900ae054f7"), looks := false }, kinds := [], alts := [], laidByText := true, laidKinds := [.data, .data, .data, .data], laidTests := true, laidLooks := .later }
def HeapPlaysUptoCardSaid : Prop := Claim7.holds Tryz.pinned (.plain (OpenSpec.upto heapPlaysSpec)) heapPlaysUptoCard

/-- THE SECOND FORM's CARD OF 'facsimilelaw04.HeapLoads'. -/
def heapLoadsUptoCard : Claim7 := { stood := { row := heapLoadsUptoRow, standIns := [], harness := (true, "2a91722627332851ae65b8ce914e3d6e0142f9b87b25e2b7148675900ae054f7"), looks := false }, kinds := [], alts := [], laidByText := true, laidKinds := [.data, .data, .data, .data], laidTests := true, laidLooks := .later }
def HeapLoadsUptoCardSaid : Prop := Claim7.holds Tryz.pinned (.plain (OpenSpec.upto heapLoadsSpec)) heapLoadsUptoCard

/-- THE SECOND FORM's CARD OF 'facsimilelaw04.HeapReach'. -/
def heapReachUptoCard : Claim7 := { stood := { row := heapReachUptoRow, standIns := [], harness := (true, "2a91722627332851ae65b8ce914e3d6e0142f9b87b25e2b7148675900ae054f7"), looks := false }, kinds := [], alts := [], laidByText := true, laidKinds := [.data, .data, .data, .data], laidTests := true, laidLooks := .later }
def HeapReachUptoCardSaid : Prop := Claim7.holds Tryz.pinned (.plain (OpenSpec.upto heapReachSpec)) heapReachUptoCard

/-- THE SECOND FORM's CARD OF 'facsimilelaw04.HeapClosed'. -/
def heapClosedUptoCard : Claim7 := { stood := { row := heapClosedUptoRow, standIns := [], harness := (true, "2a91722627332851ae65b8ce914e3d6e0142f9b87b25e2b7148675900ae054f7"), looks := false }, kinds := [], alts := [], laidByText := true, laidKinds := [.data, .data, .data, .data], laidTests := true, laidLooks := .later }
def HeapClosedUptoCardSaid : Prop := Claim7.holds Tryz.pinned (.plain (OpenSpec.upto heapClosedSpec)) heapClosedUptoCard

/-- THE SECOND FORM's CARD OF 'facsimilelaw04.HeapKeeps'. -/
def heapKeepsUptoCard : Claim7 := { stood := { row := heapKeepsUptoRow, standIns := [], harness := (true, "2a91722627332851ae65b8ce914e3d6e0142f9b87b25e2b7148675900ae054f7"), looks := false }, kinds := [], alts := [], laidByText := true, laidKinds := [.data, .data, .data, .data], laidTests := true, laidLooks := .later }
def HeapKeepsUptoCardSaid : Prop := Claim7.holds Tryz.pinned (.plain (OpenSpec.upto heapKeepsSpec)) heapKeepsUptoCard

/-- THE SECOND FORM's CARD OF 'facsimilelaw04.HeapShows'. -/
def heapShowsUptoCard : Claim7 := { stood := { row := heapShowsUptoRow, standIns := [], harness := (true, "2a91722627332851ae65b8ce914e3d6e0142f9b87b25e2b7148675900ae054f7"), looks := false }, kinds := [], alts := [], laidByText := true, laidKinds := [.data, .data, .data, .data], laidTests := true, laidLooks := .later }
def HeapShowsUptoCardSaid : Prop := Claim7.holds Tryz.pinned (.plain (OpenSpec.upto heapShowsSpec)) heapShowsUptoCard
end Rows
end Go.Proofs.YtkdpcnikgdbmaaaGreatDoor
