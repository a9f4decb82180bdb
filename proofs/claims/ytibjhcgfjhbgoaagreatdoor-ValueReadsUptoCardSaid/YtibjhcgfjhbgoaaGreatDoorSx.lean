/-
  What a law's walk carries along, for blocks of any shape.
-/
import Derived.Test.YtibjhcgfjhbgoaaGreatDoorVp
namespace Go.Proofs.YtibjhcgfjhbgoaaGreatDoor.Va
open Go Go.RowKit Mp

structure Sx (W : World) (L : List (Nat × Array Value × TypeId)) (w : World) : Prop where
  gl : Gl w
  be : Below W.heap.size W w
  own : ∀ p, p ∈ L → Own w p.1 p.2.1 p.2.2
theorem Sx.init {W : World} (h : Gl W) : Sx W [] W := ⟨h, Below.refl _ _, fun _ h => by cases h⟩
theorem Sx.step {W : World} {L : List (Nat × Array Value × TypeId)} {w w' : World} (h : Sx W L w) (hb : Below w.heap.size w w') : Sx W L w' :=
  ⟨h.gl.below hb, h.be.trans (hb.mono h.be.size), fun p hp => (h.own p hp).below hb (h.own p hp).lt⟩
theorem Sx.add {W : World} {L : List (Nat × Array Value × TypeId)} {w : World} (h : Sx W L w) (c : Array Value) (T : TypeId) : Sx W ((w.heap.size, c, T) :: L) (w.alloc (.cells c T)) := by
  have hb : Below w.heap.size w (w.alloc (.cells c T)) := (Below.refl _ _).alloc (Nat.le_refl _) _
  refine ⟨h.gl.below hb, h.be.trans (hb.mono h.be.size), fun p hp => ?_⟩
  rcases List.mem_cons.1 hp with rfl | hp
  · exact Own.new _ _ _
  · exact (h.own p hp).below hb (h.own p hp).lt
theorem Sx.alloc {W : World} {L : List (Nat × Array Value × TypeId)} {w : World} (h : Sx W L w) (o : Obj) : Sx W L (w.alloc o) := h.step ((Below.refl _ _).alloc (Nat.le_refl _) _)
theorem Sx.drew {W : World} {L : List (Nat × Array Value × TypeId)} {w : World} (h : Sx W L w) : Sx W L w.drew := h.step (Below.refl _ _).drew
theorem Sx.drop {W : World} {L L' : List (Nat × Array Value × TypeId)} {w : World} (h : Sx W L w) (hs : ∀ p, p ∈ L' → p ∈ L) : Sx W L' w := ⟨h.gl, h.be, fun p hp => h.own p (hs p hp)⟩
theorem Sx.cell {W : World} {L : List (Nat × Array Value × TypeId)} {w : World} (h : Sx W L w) (b : Nat) (c : Array Value) (T : TypeId) (hp : (b, c, T) ∈ L) (j : Nat) (v : Value) (hv : c[j]? = some v) : w.cell? ⟨b, j, none⟩ = some v := by
  rw [(h.own _ hp).cell j]; exact hv
theorem Sx.c3 {W : World} {L : List (Nat × Array Value × TypeId)} {w : World} (h : Sx W L w) (b : Nat) (x y z : Value) (T : TypeId) (hp : (b, #[x, y, z], T) ∈ L) :
    w.cell? ⟨b, 0, none⟩ = some x ∧ w.cell? ⟨b, 1, none⟩ = some y ∧ w.cell? ⟨b, 2, none⟩ = some z := ⟨h.cell b _ T hp 0 x rfl, h.cell b _ T hp 1 y rfl, h.cell b _ T hp 2 z rfl⟩
theorem Sx.lt {W : World} {L : List (Nat × Array Value × TypeId)} {w : World} (h : Sx W L w) (b : Nat) (c : Array Value) (T : TypeId) (hp : (b, c, T) ∈ L) : b < w.heap.size := (h.own _ hp).lt
/-- What a walk carries that needs no variables. -/
structure Sx0 (W : World) (L : List (Nat × Array Value × TypeId)) (w : World) : Prop where
  be : Below W.heap.size W w
  own : ∀ p, p ∈ L → Own w p.1 p.2.1 p.2.2
theorem Sx0.init (W : World) : Sx0 W [] W := ⟨Below.refl _ _, fun _ h => by cases h⟩
theorem Sx0.step {W : World} {L : List (Nat × Array Value × TypeId)} {w w' : World} (h : Sx0 W L w) (hb : Below w.heap.size w w') : Sx0 W L w' :=
  ⟨h.be.trans (hb.mono h.be.size), fun p hp => (h.own p hp).below hb (h.own p hp).lt⟩
theorem Sx0.add {W : World} {L : List (Nat × Array Value × TypeId)} {w : World} (h : Sx0 W L w) (c : Array Value) (T : TypeId) : Sx0 W ((w.heap.size, c, T) :: L) (w.alloc (.cells c T)) := by
  have hb : Below w.heap.size w (w.alloc (.cells c T)) := (Below.refl _ _).alloc (Nat.le_refl _) _
  refine ⟨h.be.trans (hb.mono h.be.size), fun p hp => ?_⟩
  rcases List.mem_cons.1 hp with rfl | hp
  · exact Own.new _ _ _
  · exact (h.own p hp).below hb (h.own p hp).lt
theorem Sx0.res {W : World} {L : List (Nat × Array Value × TypeId)} {w : World} (h : Sx0 W L w) (b : Nat) (x y z : Value) (T : TypeId) (hp : (b, #[x, y, z], T) ∈ L) :
    w.cell? ⟨b, 0, none⟩ = some x ∧ w.cell? ⟨b, 1, none⟩ = some y ∧ w.cell? ⟨b, 2, none⟩ = some z ∧ (∀ j, w.frozen? ⟨b, j, none⟩ = false) ∧ b < w.heap.size := (h.own _ hp).facts
theorem run_vrefl (k n : Int) (s : ByteArray) (w : World) : (Op.equalIn 10000 23 (.agg #[.int .i64 k, .int .i64 n, .string s]) (.agg #[.int .i64 k, .int .i64 n, .string s])).run Tryz.prog w = .ok true w := by
  rw [run_veq]; congr 1; exact v3eq_refl (k, n, s)
end Go.Proofs.YtibjhcgfjhbgoaaGreatDoor.Va
