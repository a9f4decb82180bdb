/-
  Stores into an own block, carried along by a law's walk.
-/
import Derived.Test.YtibjhcgfjhbgoaaGreatDoorSx
import Derived.Deep.Heap
namespace Go.Proofs.YtibjhcgfjhbgoaaGreatDoor.Va
open Go Go.RowKit Mp

theorem Own.set {w : World} {b : Nat} {c : Array Value} {T : TypeId} (h : Own w b c T) (j : Nat) (v : Value) : Own (w.setCell ⟨b, j, none⟩ v) b (c.setIfInBounds j v) T := by
  unfold Own at h ⊢
  unfold World.setCell
  simp only [Array.getElem?_modify, if_true, h]
  rfl
theorem Own.other {w : World} {b : Nat} {c : Array Value} {T : TypeId} (h : Own w b c T) (p : Addr) (v : Value) (hp : b ≠ p.block) : Own (w.setCell p v) b c T := by
  unfold Own at h ⊢
  rw [Go.Deep.blk_setCell_other w p v b hp]; exact h
theorem Sx.set3 {W : World} {L : List (Nat × Array Value × TypeId)} {w : World} (hG : Gl W) (h : Sx W L w) (b : Nat) (c0 c1 c2 : Value) (T : TypeId) (hm : (b, #[c0, c1, c2], T) ∈ L) (hb : W.heap.size ≤ b) (x y z : Value)
    {L' : List (Nat × Array Value × TypeId)} (hL : ∀ p, p ∈ L' → p = (b, #[x, y, z], T) ∨ p ∈ L ∧ p.1 ≠ b) :
    Sx W L' (((w.setCell ⟨b, 0, none⟩ x).setCell ⟨b, 1, none⟩ y).setCell ⟨b, 2, none⟩ z) := by
  have hbe := ((h.be.setCell (p := ⟨b, 0, none⟩) hb x).setCell (p := ⟨b, 1, none⟩) hb y).setCell (p := ⟨b, 2, none⟩) hb z
  refine ⟨hG.below hbe, hbe, fun p hp => ?_⟩
  rcases hL p hp with rfl | ⟨h1, h2⟩
  · exact (((h.own _ hm).set 0 x).set 1 y).set 2 z
  · exact (((h.own p h1).other _ x h2).other _ y h2).other _ z h2
theorem keepA {w : World} {b j : Nat} {v : Value} (h : w.cell? ⟨b, j, none⟩ = some v) (o : Obj) : (w.alloc o).cell? ⟨b, j, none⟩ = some v := by
  rw [← h]; unfold World.cell?; rw [Below.heap_alloc _ _ _ (cell_lt h)]
theorem keepS {w : World} {b j : Nat} {v : Value} (h : w.cell? ⟨b, j, none⟩ = some v) (p : Addr) (u : Value) (ne : b ≠ p.block) : (w.setCell p u).cell? ⟨b, j, none⟩ = some v := by
  rw [← h]; unfold World.cell?; rw [Go.Deep.blk_setCell_other w p u b ne]
theorem keepT {w : World} {b j : Nat} {v : Value} {p : Addr} {u : Value} (ne : b ≠ p.block) (h : w.cell? ⟨b, j, none⟩ = some v) : (w.setCell p u).cell? ⟨b, j, none⟩ = some v := keepS h p u ne
theorem Sx.c2 {W : World} {L : List (Nat × Array Value × TypeId)} {w : World} (h : Sx W L w) (b : Nat) (x y : Value) (T : TypeId) (hp : (b, #[x, y], T) ∈ L) :
    w.cell? ⟨b, 0, none⟩ = some x ∧ w.cell? ⟨b, 1, none⟩ = some y := ⟨h.cell b _ T hp 0 x rfl, h.cell b _ T hp 1 y rfl⟩
theorem keepD {w : World} {a : Addr} {v : Value} (h : w.cell? a = some v) : w.drew.cell? a = some v := h
theorem Sx.swap {W : World} {p q : Nat × Array Value × TypeId} {w : World} (h : Sx W [p, q] w) : Sx W [q, p] w :=
  h.drop fun r hr => by
    rcases List.mem_cons.1 hr with rfl | hr
    · exact .tail _ (.head _)
    · rcases List.mem_cons.1 hr with rfl | hr
      · exact .head _
      · cases hr
theorem Sx.zero {W : World} {L : List (Nat × Array Value × TypeId)} {w : World} (h : Sx W L w) (c d : Array Value) (T : TypeId) : Sx W [(w.heap.size, c, T), (w.heap.size + 1, d, T)] ((w.alloc (.cells c T)).alloc (.cells d T)) := by
  have h2 := (h.add c T).add d T
  simp only [World.size_alloc] at h2
  refine h2.drop fun r hr => ?_
  rcases List.mem_cons.1 hr with rfl | hr
  · exact .tail _ (.head _)
  · rcases List.mem_cons.1 hr with rfl | hr
    · exact .head _
    · cases hr
theorem Sx.one {W : World} {L : List (Nat × Array Value × TypeId)} {w : World} (hG : Gl W) (h : Sx W L w) (a : Nat) (c0 c1 c2 x y z : Value) (d : Array Value) (T : TypeId) (ma : (a, #[c0, c1, c2], T) ∈ L) (ha : W.heap.size ≤ a) :
    Sx W [(a, #[x, y, z], T), (w.heap.size, d, T)] ((((w.setCell ⟨a, 0, none⟩ x).setCell ⟨a, 1, none⟩ y).setCell ⟨a, 2, none⟩ z).alloc (.cells d T)) := by
  have h1 := Sx.set3 hG h a c0 c1 c2 T ma ha x y z (L' := [(a, #[x, y, z], T)]) (fun p hp => .inl (by simpa using hp))
  have h2 := (h1.add d T).swap
  simpa [World.setCell] using h2
theorem Sx.two {W : World} {L : List (Nat × Array Value × TypeId)} {w : World} (hG : Gl W) (h : Sx W L w) (a b : Nat) (c0 c1 c2 x y z x' y' z' : Value) (T : TypeId) (ma : (a, #[c0, c1, c2], T) ∈ L) (mb : (b, #[c0, c1, c2], T) ∈ L) (ne : a ≠ b) (ha : W.heap.size ≤ a) (hb : W.heap.size ≤ b) :
    Sx W [(a, #[x, y, z], T), (b, #[x', y', z'], T)] ((((((w.setCell ⟨a, 0, none⟩ x).setCell ⟨a, 1, none⟩ y).setCell ⟨a, 2, none⟩ z).setCell ⟨b, 0, none⟩ x').setCell ⟨b, 1, none⟩ y').setCell ⟨b, 2, none⟩ z') := by
  have h1 := Sx.set3 hG h a c0 c1 c2 T ma ha x y z (L' := [(a, #[x, y, z], T), (b, #[c0, c1, c2], T)]) (fun p hp => by
    rcases List.mem_cons.1 hp with rfl | hp
    · exact .inl rfl
    · obtain rfl : p = (b, #[c0, c1, c2], T) := by simpa using hp
      exact .inr ⟨mb, fun e => ne e.symm⟩)
  refine Sx.set3 hG h1 b c0 c1 c2 T (.tail _ (.head _)) hb x' y' z' (fun p hp => ?_)
  rcases List.mem_cons.1 hp with rfl | hp
  · exact .inr ⟨.head _, ne⟩
  · exact .inl (by simpa using hp)
theorem Own.ne {w : World} {a b : Nat} {c c' : Array Value} {T T' : TypeId} (h : Own w a c T) (h' : Own w b c' T') (hT : T ≠ T') : a ≠ b := by
  rintro rfl
  have := Option.some.inj ((show w.heap[a]? = _ from h).symm.trans (show w.heap[a]? = _ from h'))
  injection this with _ h2
  exact hT h2
theorem Sx.swapR {W : World} {p q r : Nat × Array Value × TypeId} {w : World} (h : Sx W [p, q, r] w) : Sx W [q, p, r] w :=
  h.drop fun x hx => by
    simp only [List.mem_cons, List.not_mem_nil, or_false] at hx ⊢
    rcases hx with rfl | rfl | rfl <;> simp
theorem Sx.zeroR {W : World} {L : List (Nat × Array Value × TypeId)} {w : World} (h : Sx W L w) (r : Nat × Array Value × TypeId) (hr : r ∈ L) (c d : Array Value) (T : TypeId) : Sx W [(w.heap.size, c, T), (w.heap.size + 1, d, T), r] ((w.alloc (.cells c T)).alloc (.cells d T)) := by
  have h2 := (h.add c T).add d T
  simp only [World.size_alloc] at h2
  refine h2.drop fun x hx => ?_
  simp only [List.mem_cons, List.not_mem_nil, or_false] at hx ⊢
  rcases hx with rfl | rfl | rfl
  · exact .inr (.inl rfl)
  · exact .inl rfl
  · exact .inr (.inr hr)
theorem Sx.oneR {W : World} {L : List (Nat × Array Value × TypeId)} {w : World} (hG : Gl W) (h : Sx W L w) (r : Nat × Array Value × TypeId) (hr : r ∈ L) (a : Nat) (c0 c1 c2 x y z : Value) (d : Array Value) (T : TypeId) (hT : T ≠ r.2.2) (ma : (a, #[c0, c1, c2], T) ∈ L) (ha : W.heap.size ≤ a) :
    Sx W [(a, #[x, y, z], T), (w.heap.size, d, T), r] ((((w.setCell ⟨a, 0, none⟩ x).setCell ⟨a, 1, none⟩ y).setCell ⟨a, 2, none⟩ z).alloc (.cells d T)) := by
  have hn : a ≠ r.1 := (h.own _ ma).ne (h.own _ hr) hT
  have h1 := Sx.set3 hG h a c0 c1 c2 T ma ha x y z (L' := [(a, #[x, y, z], T), r]) (fun p hp => by
    simp only [List.mem_cons, List.not_mem_nil, or_false] at hp
    rcases hp with rfl | rfl
    · exact .inl rfl
    · exact .inr ⟨hr, fun e => hn e.symm⟩)
  have h2 := (h1.add d T).drop (L' := [(a, #[x, y, z], T), (w.heap.size, d, T), r]) (fun p hp => by
    simp only [List.mem_cons, List.not_mem_nil, or_false] at hp ⊢
    rcases hp with rfl | rfl | rfl <;> simp [World.setCell])
  exact h2
theorem Sx.twoR {W : World} {L : List (Nat × Array Value × TypeId)} {w : World} (hG : Gl W) (h : Sx W L w) (r : Nat × Array Value × TypeId) (hr : r ∈ L) (a b : Nat) (c0 c1 c2 x y z x' y' z' : Value) (T : TypeId) (hT : T ≠ r.2.2) (ma : (a, #[c0, c1, c2], T) ∈ L) (mb : (b, #[c0, c1, c2], T) ∈ L) (ne : a ≠ b) (ha : W.heap.size ≤ a) (hb : W.heap.size ≤ b) :
    Sx W [(a, #[x, y, z], T), (b, #[x', y', z'], T), r] ((((((w.setCell ⟨a, 0, none⟩ x).setCell ⟨a, 1, none⟩ y).setCell ⟨a, 2, none⟩ z).setCell ⟨b, 0, none⟩ x').setCell ⟨b, 1, none⟩ y').setCell ⟨b, 2, none⟩ z') := by
  have hna : a ≠ r.1 := (h.own _ ma).ne (h.own _ hr) hT
  have hnb : b ≠ r.1 := (h.own _ mb).ne (h.own _ hr) hT
  have h1 := Sx.set3 hG h a c0 c1 c2 T ma ha x y z (L' := [(a, #[x, y, z], T), (b, #[c0, c1, c2], T), r]) (fun p hp => by
    simp only [List.mem_cons, List.not_mem_nil, or_false] at hp
    rcases hp with rfl | rfl | rfl
    · exact .inl rfl
    · exact .inr ⟨mb, fun e => ne e.symm⟩
    · exact .inr ⟨hr, fun e => hna e.symm⟩)
  refine Sx.set3 hG h1 b c0 c1 c2 T (.tail _ (.head _)) hb x' y' z' (fun p hp => ?_)
  simp only [List.mem_cons, List.not_mem_nil, or_false] at hp
  rcases hp with rfl | rfl | rfl
  · exact .inr ⟨.head _, ne⟩
  · exact .inl rfl
  · exact .inr ⟨.tail _ (.tail _ (.head _)), fun e => hnb e.symm⟩
theorem Sx.put {W : World} {L : List (Nat × Array Value × TypeId)} {w : World} (hG : Gl W) (h : Sx W L w) (b : Nat) (c : Array Value) (T : TypeId) (hm : (b, c, T) ∈ L) (hb : W.heap.size ≤ b) (j : Nat) (v : Value)
    {L' : List (Nat × Array Value × TypeId)} (hL : ∀ p, p ∈ L' → p = (b, c.setIfInBounds j v, T) ∨ p ∈ L ∧ p.1 ≠ b) : Sx W L' (w.setCell ⟨b, j, none⟩ v) := by
  have hbe := h.be.setCell (p := ⟨b, j, none⟩) hb v
  refine ⟨hG.below hbe, hbe, fun p hp => ?_⟩
  rcases hL p hp with rfl | ⟨h1, h2⟩
  · exact (h.own _ hm).set j v
  · exact (h.own p h1).other _ v h2
theorem below_drewN {B : Nat} {a w : World} (h : Below B a w) (n : Nat) : Below B a (w.drewN n) := ⟨h.os, h.tape, h.output, h.size, h.block⟩
theorem bytes_full {f : ByteArray} (h : f.data.toList ≠ []) : f.toList.isEmpty = false := by
  rw [ByteArray.toList_eq]; simpa using h
theorem es_empty : es.toList.isEmpty = true := by rw [ByteArray.toList_eq]; rfl
end Go.Proofs.YtibjhcgfjhbgoaaGreatDoor.Va
