/-
  What a walk over the reference's numbers carries.
-/
import Derived.Test.YtbpehdpcnnaidaaDoorWu
namespace Go.Proofs.YtbpehdpcnnaidaaDoor.Ac
open Go Go.RowKit

structure Sn (W : World) (b : Nat) (A : Option Addr) (n c : Nat) (L : List (Nat × Array Value × TypeId)) (w : World) : Prop where
  nm : Nm w b A n c
  gr : W.grownBy w (some b)
  own : ∀ p, p ∈ L → Bk w p.1 p.2.1 p.2.2 ∧ p.1 ≠ b ∧ W.heap.size ≤ p.1
theorem Nm.lt {w : World} {b n c : Nat} {A : Option Addr} (h : Nm w b A n c) : b < w.heap.size := by
  obtain ⟨_, _, h⟩ := h; exact h.lt
theorem Sn.init {w : World} {b n c : Nat} {A : Option Addr} (h : Nm w b A n c) : Sn w b A n c [] w := ⟨h, World.grownBy.refl w _, fun _ h => by cases h⟩
theorem grown_alloc {W w : World} {row : Option Nat} (h : W.grownBy w row) (o : Obj) : W.grownBy (w.alloc o) row :=
  ⟨h.os, h.tape, h.output, Nat.le_trans h.size (by simp), fun i hi hne => (Below.heap_alloc w o i (Nat.lt_of_lt_of_le hi h.size)).trans (h.block i hi hne)⟩
theorem grown_trans {a b c : World} {row : Option Nat} (h : a.grownBy b row) (k : b.grownBy c row) : a.grownBy c row :=
  ⟨k.os.trans h.os, k.tape.trans h.tape, k.output.trans h.output, Nat.le_trans h.size k.size, fun i hi hne => (k.block i (Nat.lt_of_lt_of_le hi h.size) hne).trans (h.block i hi hne)⟩
theorem Sn.alloc {W w : World} {b n c : Nat} {A : Option Addr} {L : List (Nat × Array Value × TypeId)} (h : Sn W b A n c L w) (cs : Array Value) (T : TypeId) :
    Sn W b A n c ((w.heap.size, cs, T) :: L) (w.alloc (.cells cs T)) := by
  have hb : Below w.heap.size w (w.alloc (.cells cs T)) := (Below.refl _ _).alloc (Nat.le_refl _) _
  obtain ⟨K, hK, hn⟩ := h.nm
  refine ⟨⟨K, hK, hn.below hb hn.lt⟩, grown_alloc h.gr _, fun p hp => ?_⟩
  rcases List.mem_cons.1 hp with rfl | hp
  · exact ⟨Bk.new _ _ _, by have := hn.lt; show w.heap.size ≠ b; omega, h.gr.size⟩
  · obtain ⟨h1, h2, h3⟩ := h.own p hp
    exact ⟨h1.below hb h1.lt, h2, h3⟩
theorem Sn.next {W w w' : World} {b n c : Nat} {A : Option Addr} {L : List (Nat × Array Value × TypeId)} (h : Sn W b A n c L w) (hn : Nm w' b A n c ∧ w.grownBy w' (some b)) : Sn W b A n c L w' := by
  refine ⟨hn.1, grown_trans h.gr hn.2, fun p hp => ?_⟩
  obtain ⟨h1, h2, h3⟩ := h.own p hp
  refine ⟨?_, h2, h3⟩
  have hlt := h1.lt
  unfold Bk at *
  rw [hn.2.block p.1 hlt (by simpa using h2)]; exact h1
theorem Sn.drewN {W w : World} {b n c : Nat} {A : Option Addr} {L : List (Nat × Array Value × TypeId)} (h : Sn W b A n c L w) (k : Nat) : Sn W b A n c L (w.drewN k) := ⟨h.nm, only_drewN h.gr k, h.own⟩
theorem Sn.drew {W w : World} {b n c : Nat} {A : Option Addr} {L : List (Nat × Array Value × TypeId)} (h : Sn W b A n c L w) : Sn W b A n c L w.drew := h.drewN 1
theorem Sn.drop {W w : World} {b n c : Nat} {A : Option Addr} {L L' : List (Nat × Array Value × TypeId)} (h : Sn W b A n c L w) (hs : ∀ p, p ∈ L' → p ∈ L) : Sn W b A n c L' w := ⟨h.nm, h.gr, fun p hp => h.own p (hs p hp)⟩
theorem Sn.set {W w : World} {b n c : Nat} {A : Option Addr} {L L' : List (Nat × Array Value × TypeId)} (h : Sn W b A n c L w) (g : Nat) (cs : Array Value) (T : TypeId) (hm : (g, cs, T) ∈ L) (i : Nat) (v : Value)
    (hL : ∀ p, p ∈ L' → p = (g, cs.setIfInBounds i v, T) ∨ p ∈ L ∧ p.1 ≠ g) : Sn W b A n c L' (w.setCell ⟨g, i, none⟩ v) := by
  obtain ⟨h1, h2, h3⟩ := h.own _ hm
  obtain ⟨K, hK, hn⟩ := h.nm
  refine ⟨⟨K, hK, hn.far (fun e => h2 e.symm) v⟩, ⟨h.gr.os, h.gr.tape, h.gr.output, by simpa [World.setCell] using h.gr.size, fun i' hi hne => (Below.heap_setCell w _ v i' (by show i' ≠ g; omega)).trans (h.gr.block i' hi hne)⟩, fun p hp => ?_⟩
  rcases hL p hp with rfl | ⟨k1, k2⟩
  · exact ⟨h1.set i v, h2, h3⟩
  · obtain ⟨m1, m2, m3⟩ := h.own p k1
    exact ⟨m1.far k2 v, m2, m3⟩
theorem Sn.cell {W w : World} {b n c : Nat} {A : Option Addr} {L : List (Nat × Array Value × TypeId)} (h : Sn W b A n c L w) (g : Nat) (cs : Array Value) (T : TypeId) (hm : (g, cs, T) ∈ L) (i : Nat) (v : Value) (hv : cs[i]? = some v) : w.cell? ⟨g, i, none⟩ = some v := (h.own _ hm).1.cell i v hv
theorem Sn.frozen {W w : World} {b n c : Nat} {A : Option Addr} {L : List (Nat × Array Value × TypeId)} (h : Sn W b A n c L w) (g : Nat) (cs : Array Value) (T : TypeId) (hm : (g, cs, T) ∈ L) (i : Nat) : w.frozen? ⟨g, i, none⟩ = false := (h.own _ hm).1.frozen i
theorem Sl.grown {w w' : World} {B b : Nat} {A : Option Addr} {zs : List Int} (h : Sl w B A zs) (hg : w.grownBy w' (some b)) (hB : B ≤ b) (hb : b ≤ w.heap.size) : Sl w' B A zs :=
  h.keep fun p hp => World.cell?_of_block (hg.block p.block (by omega) (by intro e; injection e with e; omega))

theorem next_st {W w : World} {b c B : Nat} {A : Option Addr} {zs : List Int} {L : List (Nat × Array Value × TypeId)} (st : Sn W b A zs.length c L w) (hA : Sl W B A zs) (hB : B ≤ b) (hbW : b ≤ W.heap.size) (hz : ∀ z ∈ zs, I64 z) (hl : zs.length ≤ 17592186044404) (m : Int) (hm : 1 ≤ m) (hm' : m ≤ 4611686018427387904) :
    Calls Tryd.prog 15 #[.pointer (some ⟨b, 0, none⟩), .int .i64 m] w fun e w' => ∃ r : Int, e = .returned (.int .i64 r) ∧ Hid (0 ≤ r ∧ r < m) ∧ Hid (Sn W b A zs.length c L w') := by
  refine (next_any m b A zs c B w (hA.grown st.gr hB hbW) hB hz hl st.nm hm hm').mono ?_
  rintro e w' ⟨r, rfl, h1, h2⟩
  exact ⟨r, rfl, h1, st.next h2.out⟩
end Go.Proofs.YtbpehdpcnnaidaaDoor.Ac
