/-
  The walk of ShapeCanons.
-/
import Derived.Test.YtjodmjadpooipaaGreatDoorSv
import Derived.Deep.RegionLaw
import Derived.Deep.RegionHeld3
namespace Go.Proofs.YtjodmjadpooipaaGreatDoor.Sh
open Go Go.RowKit

/-- The loop over the classes. -/
def clsAt (fl : List (List ByteArray)) (k : Nat) : List ByteArray := fl.getD k []
theorem add_flat (g a b : Nat) (h : a = b) : (⟨g, 0, none⟩ : Addr).add a = ⟨g, b, none⟩ := by
  unfold Addr.add; subst h; simp; exact fun e => e.symm
theorem root_nat {t : Tre} {k : Nat} (h : k < t.roots.length) : t.rootI k = t.root k := by unfold Tre.rootI; rw [if_pos ⟨by omega, by omega⟩]; rfl
theorem root_names {fl : List (List ByteArray)} {t : Tre} (h : Inv fl t) {k : Nat} (hk : k < fl.length) : (t.sh (t.root k)).names = fl.getD k [] := (canon_names h.ok.wf _).trans (h.rn k hk)
end Go.Proofs.YtjodmjadpooipaaGreatDoor.Sh
