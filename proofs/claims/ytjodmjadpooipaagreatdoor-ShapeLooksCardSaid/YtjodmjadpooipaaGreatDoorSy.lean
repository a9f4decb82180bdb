/-
  The walk of ShapeMakes.
-/
import Derived.Test.YtjodmjadpooipaaGreatDoorSx
import Derived.Test.YtjodmjadpooipaaGreatDoorSw
namespace Go.Proofs.YtjodmjadpooipaaGreatDoor.Sh
open Go Go.RowKit Go.Maps

theorem Tr.turned {K : Kit} {w0 w w' : World} {p b : Nat} {t : Tre} {F : Nat → Prop} (h : Tr K w0 w p t F) (hg : w.grownBy w' (some b)) (hb : ¬ F b) (hB : w0.heap.size ≤ b) : Tr K w0 w' p t F :=
  ⟨K.keep h.h fun x hx => hg.block x (K.lt h.h x hx) (fun e => hb (by injection e with e; subst e; exact hx)), h.b.grown hg h.b.size (fun k hk => by injection hk with hk; omega), h.f, h.v⟩
theorem SlS.up {w w' : World} {B : Nat} {A : Option Addr} {ns : List ByteArray} (h : SlS w (· < B) A ns) (hb : Below w.heap.size w w') (hB : B ≤ w.heap.size) : SlS w' (· < B) A ns := h.keep fun b hb' => ⟨hb', hb.block b (by omega)⟩
theorem SlS.upc {w w' : World} {B : Nat} {A : Option Addr} {ns : List ByteArray} {F : Nat → Prop} (h : SlS w (· < B) A ns) (hc : Chg F w w') (hB : B ≤ w.heap.size) (hF : ∀ b, F b → B ≤ b) : SlS w' (· < B) A ns :=
  h.keep fun b hb' => ⟨hb', hc.block b (by omega) (fun e => by have := hF b e; omega)⟩
end Go.Proofs.YtjodmjadpooipaaGreatDoor.Sh
