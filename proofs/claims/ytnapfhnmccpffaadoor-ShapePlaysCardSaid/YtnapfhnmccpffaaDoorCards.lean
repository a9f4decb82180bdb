/-
  DERIVED. GIVEN WITH THE SEED: THE CARDS: each row of YtnapfhnmccpffaaDoorRows.lean that lists a variable, with what it lists TIED to the program's text (the seventh form; the later family's looks); each row that meets fmt, with fmt's text TOLD by the authors' own Lean function (tested against real Go, not proved from fmt's source: count such statements apart). THE CARD IS WHAT COUNTS. Prove the row's statement (the work); the ties are given (YtnapfhnmccpffaaDoorTie.lean); close each card by the builder's one call (the guide's Derived/Test/ToyasCard.lean, 'card_holds'). Laid BY PROGRAM, IN A SANDBOX (cutbox-door.mjs). By AI agents, Wed Nov 11 2026. No macro, syntax, notation, axiom, sorry.
-/
import Derived.Test.YtnapfhnmccpffaaDoorRows
import GoSem.ClaimSeven
namespace Go.Proofs.YtnapfhnmccpffaaDoor
namespace Rows

/-- THE TIED CARD OF 'facsimilelaw08.ShapePlays'. -/
def shapePlaysCard : Claim7 := { stood := { row := shapePlaysRow, standIns := [], harness := (true, "a13b12fa8c69af9da0893d1c945d42d8978bbafa042921888402c5f80ae4271d"), looks := false }, kinds := [], alts := [], laidByText := true, laidKinds := [.data, .data, .data], laidTests := true, laidLooks := .later }
def ShapePlaysCardSaid : Prop := Claim7.holds Tryd.pinned (.plain (OpenSpec.ofChange shapePlaysSpec)) shapePlaysCard

/-- THE TIED CARD OF 'facsimilelaw08.ShapeAdds'. -/
def shapeAddsCard : Claim7 := { stood := { row := shapeAddsRow, standIns := [], harness := (true, "a13b12fa8c69af9da0893d1c945d42d8978bbafa042921888402c5f80ae4271d"), looks := false }, kinds := [], alts := [], laidByText := true, laidKinds := [.data, .data, .data], laidTests := true, laidLooks := .later }
def ShapeAddsCardSaid : Prop := Claim7.holds Tryd.pinned (.plain (OpenSpec.ofChange shapeAddsSpec)) shapeAddsCard

/-- THE TIED CARD OF 'facsimilelaw08.ShapeCanons'. -/
def shapeCanonsCard : Claim7 := { stood := { row := shapeCanonsRow, standIns := [], harness := (true, "a13b12fa8c69af9da0893d1c945d42d8978bbafa042921888402c5f80ae4271d"), looks := false }, kinds := [], alts := [], laidByText := true, laidKinds := [.data, .data, .data], laidTests := true, laidLooks := .later }
def ShapeCanonsCardSaid : Prop := Claim7.holds Tryd.pinned (.plain (OpenSpec.ofChange shapeCanonsSpec)) shapeCanonsCard

/-- THE TIED CARD OF 'facsimilelaw08.ShapeMerges'. -/
def shapeMergesCard : Claim7 := { stood := { row := shapeMergesRow, standIns := [], harness := (true, "a13b12fa8c69af9da0893d1c945d42d8978bbafa042921888402c5f80ae4271d"), looks := false }, kinds := [], alts := [], laidByText := true, laidKinds := [.data, .data, .data], laidTests := true, laidLooks := .later }
def ShapeMergesCardSaid : Prop := Claim7.holds Tryd.pinned (.plain (OpenSpec.ofChange shapeMergesSpec)) shapeMergesCard

/-- THE TIED CARD OF 'facsimilelaw08.ShapeNil'. -/
def shapeNilCard : Claim7 := { stood := { row := shapeNilRow, standIns := [], harness := (true, "a13b12fa8c69af9da0893d1c945d42d8978bbafa042921888402c5f80ae4271d"), looks := false }, kinds := [], alts := [], laidByText := true, laidKinds := [.data, .data, .data], laidTests := true, laidLooks := .later }
def ShapeNilCardSaid : Prop := Claim7.holds Tryd.pinned (.plain (OpenSpec.ofChange shapeNilSpec)) shapeNilCard

/-- THE TIED CARD OF 'facsimilelaw08.ShapeMakes'. -/
def shapeMakesCard : Claim7 := { stood := { row := shapeMakesRow, standIns := [], harness := (true, "a13b12fa8c69af9da0893d1c945d42d8978bbafa042921888402c5f80ae4271d"), looks := false }, kinds := [], alts := [], laidByText := true, laidKinds := [.data, .data, .data], laidTests := true, laidLooks := .later }
def ShapeMakesCardSaid : Prop := Claim7.holds Tryd.pinned (.plain (OpenSpec.ofChange shapeMakesSpec)) shapeMakesCard

/-- THE SECOND FORM's CARD OF 'facsimilelaw08.ShapePlays'. -/
def shapePlaysUptoCard : Claim7 := { stood := { row := shapePlaysUptoRow, standIns := [], harness := (true, "a13b12fa8c69af9da0893d1c945d42d8978bbafa042921888402c5f80ae4271d"), looks := false }, kinds := [], alts := [], laidByText := true, laidKinds := [.data, .data, .data], laidTests := true, laidLooks := .later }
def ShapePlaysUptoCardSaid : Prop := Claim7.holds Tryd.pinned (.plain (OpenSpec.upto shapePlaysSpec)) shapePlaysUptoCard

/-- THE SECOND FORM's CARD OF 'facsimilelaw08.ShapeAdds'. -/
def shapeAddsUptoCard : Claim7 := { stood := { row := shapeAddsUptoRow, standIns := [], harness := (true, "a13b12fa8c69af9da0893d1c945d42d8978bbafa042921888402c5f80ae4271d"), looks := false }, kinds := [], alts := [], laidByText := true, laidKinds := [.data, .data, .data], laidTests := true, laidLooks := .later }
def ShapeAddsUptoCardSaid : Prop := Claim7.holds Tryd.pinned (.plain (OpenSpec.upto shapeAddsSpec)) shapeAddsUptoCard

/-- THE SECOND FORM's CARD OF 'facsimilelaw08.ShapeCanons'. -/
def shapeCanonsUptoCard : Claim7 := { stood := { row := shapeCanonsUptoRow, standIns := [], harness := (true, "a13b12fa8c69af9da0893d1c945d42d8978bbafa042921888402c5f80ae4271d"), looks := false }, kinds := [], alts := [], laidByText := true, laidKinds := [.data, .data, .data], laidTests := true, laidLooks := .later }
def ShapeCanonsUptoCardSaid : Prop := Claim7.holds Tryd.pinned (.plain (OpenSpec.upto shapeCanonsSpec)) shapeCanonsUptoCard

/-- THE SECOND FORM's CARD OF 'facsimilelaw08.ShapeMerges'. -/
def shapeMergesUptoCard : Claim7 := { stood := { row := shapeMergesUptoRow, standIns := [], harness := (true, "a13b12fa8c69af9da0893d1c945d42d8978bbafa042921888402c5f80ae4271d"), looks := false }, kinds := [], alts := [], laidByText := true, laidKinds := [.data, .data, .data], laidTests := true, laidLooks := .later }
def ShapeMergesUptoCardSaid : Prop := Claim7.holds Tryd.pinned (.plain (OpenSpec.upto shapeMergesSpec)) shapeMergesUptoCard

/-- THE SECOND FORM's CARD OF 'facsimilelaw08.ShapeNil'. -/
def shapeNilUptoCard : Claim7 := { stood := { row := shapeNilUptoRow, standIns := [], harness := (true, "a13b12fa8c69af9da0893d1c945d42d8978bbafa042921888402c5f80ae4271d"), looks := false }, kinds := [], alts := [], laidByText := true, laidKinds := [.data, .data, .data], laidTests := true, laidLooks := .later }
def ShapeNilUptoCardSaid : Prop := Claim7.holds Tryd.pinned (.plain (OpenSpec.upto shapeNilSpec)) shapeNilUptoCard

/-- THE SECOND FORM's CARD OF 'facsimilelaw08.ShapeMakes'. -/
def shapeMakesUptoCard : Claim7 := { stood := { row := shapeMakesUptoRow, standIns := [], harness := (true, "a13b12fa8c69af9da0893d1c945d42d8978bbafa042921888402c5f80ae4271d"), looks := false }, kinds := [], alts := [], laidByText := true, laidKinds := [.data, .data, .data], laidTests := true, laidLooks := .later }
def ShapeMakesUptoCardSaid : Prop := Claim7.holds Tryd.pinned (.plain (OpenSpec.upto shapeMakesSpec)) shapeMakesUptoCard
end Rows
end Go.Proofs.YtnapfhnmccpffaaDoor
