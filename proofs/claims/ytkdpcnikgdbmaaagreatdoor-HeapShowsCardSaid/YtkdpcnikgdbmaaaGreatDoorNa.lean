/-
  Entries as they lie in memory.
-/
import Derived.Test.YtkdpcnikgdbmaaaGreatDoorAw
namespace Go.Proofs.YtkdpcnikgdbmaaaGreatDoor.Ac
open Go Go.RowKit

/-- An entry as its seven cells. -/
structure En where
  id : Int
  kind : Int
  cls : Int
  fn : Int
  ten : Int
  nA : Option Addr
  nn : Nat
  nc : Nat
  iA : Option Addr
  m : Nat
  ic : Nat
def En.cells (e : En) : List Value := [.int .i64 e.id, .int .i64 e.kind, .int .i64 e.cls, .int .i64 e.fn, .int .i64 e.ten, .slice e.nA e.nn e.nc, .slice e.iA e.m e.ic]
/-- The slice that begins at A reads as these entries, below block B. -/
def Se (w : World) (B : Nat) (A : Option Addr) (es : List En) : Prop :=
  ∀ j e, es[j]? = some e → ∃ g, A = some ⟨g, 0, none⟩ ∧ g < B ∧ ∀ i u, e.cells[i]? = some u → w.cell? ⟨g, j * 7 + i, none⟩ = some u
end Go.Proofs.YtkdpcnikgdbmaaaGreatDoor.Ac
