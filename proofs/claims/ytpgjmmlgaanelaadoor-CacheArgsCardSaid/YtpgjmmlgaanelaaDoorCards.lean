/-
  DERIVED. GIVEN WITH THE SEED: THE CARDS: each row of YtpgjmmlgaanelaaDoorRows.lean that lists a variable, with what it lists TIED to the program's text (the seventh form; the later family's looks); each row that meets fmt, with fmt's text TOLD by the authors' own Lean function (tested against real Go, not proved from fmt's source: count such statements apart). THE CARD IS WHAT COUNTS. Prove the row's statement (the work); the ties are given (YtpgjmmlgaanelaaDoorTie.lean); close each card by the builder's one call (the guide's Derived/Test/ToyasCard.lean, 'card_holds'). Laid BY PROGRAM, IN A SANDBOX (cutbox-door.mjs). By AI agents, Wed Nov 11 2026. No macro, syntax, notation, axiom, sorry.
-/
import Derived.Test.YtpgjmmlgaanelaaDoorRows
import GoSem.ClaimSeven
namespace Go.Proofs.YtpgjmmlgaanelaaDoor
namespace Rows

/-- THE TIED CARD OF 'facsimilelaw12.CachePlays'. -/
def cachePlaysCard : Claim7 := { stood := { row := cachePlaysRow, standIns := [], harness := (true, "255f8434cca476df56f50d4d3afce6ac152759da4e4861d9bcd6dc3a2de8a360"), looks := false }, kinds := [], alts := [], laidByText := true, laidKinds := [.data, .data, .data], laidTests := true, laidLooks := .later }
def CachePlaysCardSaid : Prop := Claim7.holds Tryd.pinned (.plain (OpenSpec.ofChange cachePlaysSpec)) cachePlaysCard

/-- THE TIED CARD OF 'facsimilelaw12.CacheLast'. -/
def cacheLastCard : Claim7 := { stood := { row := cacheLastRow, standIns := [], harness := (true, "255f8434cca476df56f50d4d3afce6ac152759da4e4861d9bcd6dc3a2de8a360"), looks := false }, kinds := [], alts := [], laidByText := true, laidKinds := [.data, .data, .data], laidTests := true, laidLooks := .later }
def CacheLastCardSaid : Prop := Claim7.holds Tryd.pinned (.plain (OpenSpec.ofChange cacheLastSpec)) cacheLastCard

/-- THE TIED CARD OF 'facsimilelaw12.CacheFull'. -/
def cacheFullCard : Claim7 := { stood := { row := cacheFullRow, standIns := [], harness := (true, "255f8434cca476df56f50d4d3afce6ac152759da4e4861d9bcd6dc3a2de8a360"), looks := false }, kinds := [], alts := [], laidByText := true, laidKinds := [.data, .data, .data], laidTests := true, laidLooks := .later }
def CacheFullCardSaid : Prop := Claim7.holds Tryd.pinned (.plain (OpenSpec.ofChange cacheFullSpec)) cacheFullCard

/-- THE TIED CARD OF 'facsimilelaw12.CacheOrder'. -/
def cacheOrderCard : Claim7 := { stood := { row := cacheOrderRow, standIns := [], harness := (true, "255f8434cca476df56f50d4d3afce6ac152759da4e4861d9bcd6dc3a2de8a360"), looks := false }, kinds := [], alts := [], laidByText := true, laidKinds := [.data, .data, .data], laidTests := true, laidLooks := .later }
def CacheOrderCardSaid : Prop := Claim7.holds Tryd.pinned (.plain (OpenSpec.ofChange cacheOrderSpec)) cacheOrderCard

/-- THE TIED CARD OF 'facsimilelaw12.CacheCounts'. -/
def cacheCountsCard : Claim7 := { stood := { row := cacheCountsRow, standIns := [], harness := (true, "255f8434cca476df56f50d4d3afce6ac152759da4e4861d9bcd6dc3a2de8a360"), looks := false }, kinds := [], alts := [], laidByText := true, laidKinds := [.data, .data, .data], laidTests := true, laidLooks := .later }
def CacheCountsCardSaid : Prop := Claim7.holds Tryd.pinned (.plain (OpenSpec.ofChange cacheCountsSpec)) cacheCountsCard

/-- THE TIED CARD OF 'facsimilelaw12.CacheArgs'. -/
def cacheArgsCard : Claim7 := { stood := { row := cacheArgsRow, standIns := [], harness := (true, "255f8434cca476df56f50d4d3afce6ac152759da4e4861d9bcd6dc3a2de8a360"), looks := false }, kinds := [], alts := [], laidByText := true, laidKinds := [.data, .data, .data], laidTests := true, laidLooks := .later }
def CacheArgsCardSaid : Prop := Claim7.holds Tryd.pinned (.plain (OpenSpec.ofChange cacheArgsSpec)) cacheArgsCard

/-- THE TIED CARD OF 'facsimilelaw12.CacheNil'. -/
def cacheNilCard : Claim7 := { stood := { row := cacheNilRow, standIns := [], harness := (true, "255f8434cca476df56f50d4d3afce6ac152759da4e4861d9bcd6dc3a2de8a360"), looks := false }, kinds := [], alts := [], laidByText := true, laidKinds := [.data, .data, .data], laidTests := true, laidLooks := .later }
def CacheNilCardSaid : Prop := Claim7.holds Tryd.pinned (.plain (OpenSpec.ofChange cacheNilSpec)) cacheNilCard

/-- THE SECOND FORM's CARD OF 'facsimilelaw12.CachePlays'. -/
def cachePlaysUptoCard : Claim7 := { stood := { row := cachePlaysUptoRow, standIns := [], harness := (true, "255f8434cca476df56f50d4d3afce6ac152759da4e4861d9bcd6dc3a2de8a360"), looks := false }, kinds := [], alts := [], laidByText := true, laidKinds := [.data, .data, .data], laidTests := true, laidLooks := .later }
def CachePlaysUptoCardSaid : Prop := Claim7.holds Tryd.pinned (.plain (OpenSpec.upto cachePlaysSpec)) cachePlaysUptoCard

/-- THE SECOND FORM's CARD OF 'facsimilelaw12.CacheLast'. -/
def cacheLastUptoCard : Claim7 := { stood := { row := cacheLastUptoRow, standIns := [], harness := (true, "255f8434cca476df56f50d4d3afce6ac152759da4e4861d9bcd6dc3a2de8a360"), looks := false }, kinds := [], alts := [], laidByText := true, laidKinds := [.data, .data, .data], laidTests := true, laidLooks := .later }
def CacheLastUptoCardSaid : Prop := Claim7.holds Tryd.pinned (.plain (OpenSpec.upto cacheLastSpec)) cacheLastUptoCard

/-- THE SECOND FORM's CARD OF 'facsimilelaw12.CacheFull'. -/
def cacheFullUptoCard : Claim7 := { stood := { row := cacheFullUptoRow, standIns := [], harness := (true, "255f8434cca476df56f50d4d3afce6ac152759da4e4861d9bcd6dc3a2de8a360"), looks := false }, kinds := [], alts := [], laidByText := true, laidKinds := [.data, .data, .data], laidTests := true, laidLooks := .later }
def CacheFullUptoCardSaid : Prop := Claim7.holds Tryd.pinned (.plain (OpenSpec.upto cacheFullSpec)) cacheFullUptoCard

/-- THE SECOND FORM's CARD OF 'facsimilelaw12.CacheOrder'. -/
def cacheOrderUptoCard : Claim7 := { stood := { row := cacheOrderUptoRow, standIns := [], harness := (true, "255f8434cca476df56f50d4d3afce6ac152759da4e4861d9bcd6dc3a2de8a360"), looks := false }, kinds := [], alts := [], laidByText := true, laidKinds := [.data, .data, .data], laidTests := true, laidLooks := .later }
def CacheOrderUptoCardSaid : Prop := Claim7.holds Tryd.pinned (.plain (OpenSpec.upto cacheOrderSpec)) cacheOrderUptoCard

/-- THE SECOND FORM's CARD OF 'facsimilelaw12.CacheCounts'. -/
def cacheCountsUptoCard : Claim7 := { stood := { row := cacheCountsUptoRow, standIns := [], harness := (true, "255f8434cca476df56f50d4d3afce6ac152759da4e4861d9bcd6dc3a2de8a360"), looks := false }, kinds := [], alts := [], laidByText := true, laidKinds := [.data, .data, .data], laidTests := true, laidLooks := .later }
def CacheCountsUptoCardSaid : Prop := Claim7.holds Tryd.pinned (.plain (OpenSpec.upto cacheCountsSpec)) cacheCountsUptoCard

/-- THE SECOND FORM's CARD OF 'facsimilelaw12.CacheArgs'. -/
def cacheArgsUptoCard : Claim7 := { stood := { row := cacheArgsUptoRow, standIns := [], harness := (true, "255f8434cca476df56f50d4d3afce6ac152759da4e4861d9bcd6dc3a2de8a360"), looks := false }, kinds := [], alts := [], laidByText := true, laidKinds := [.data, .data, .data], laidTests := true, laidLooks := .later }
def CacheArgsUptoCardSaid : Prop := Claim7.holds Tryd.pinned (.plain (OpenSpec.upto cacheArgsSpec)) cacheArgsUptoCard

/-- THE SECOND FORM's CARD OF 'facsimilelaw12.CacheNil'. -/
def cacheNilUptoCard : Claim7 := { stood := { row := cacheNilUptoRow, standIns := [], harness := (true, "255f8434cca476df56f50d4d3afce6ac152759da4e4861d9bcd6dc3a2de8a360"), looks := false }, kinds := [], alts := [], laidByText := true, laidKinds := [.data, .data, .data], laidTests := true, laidLooks := .later }
def CacheNilUptoCardSaid : Prop := Claim7.holds Tryd.pinned (.plain (OpenSpec.upto cacheNilSpec)) cacheNilUptoCard
end Rows
end Go.Proofs.YtpgjmmlgaanelaaDoor
