/-
  Slices of ints that are read, or are a call's own; the contract of slices.Equal at []int.
-/
import Derived.Test.YtkdpcnikgdbmaaaGreatDoorAi
import Derived.Below
import Derived.OwnWalk
import Derived.Laws.AppendOwn
import Derived.Laws.AppendOwnNone
import Derived.Laws.OwnMore
import Derived.Deep.AppendLies
import Derived.Lib.SliceRun
import Derived.Deep.LoopGhost
namespace Go.Proofs.YtkdpcnikgdbmaaaGreatDoor.Ac
open Go Go.RowKit

/-- The slice that begins at A reads as zs, below block B. -/
def Sl (w : World) (B : Nat) (A : Option Addr) (zs : List Int) : Prop :=
  ∀ j z, zs[j]? = some z → ∃ ad, A = some ad ∧ ad.block < B ∧ w.cell? (ad.add j) = some (.int .i64 z)
/-- The slice is the call's own. -/
def OwnI (w : World) (base : Nat) (v : Value) (zs : List Int) : Prop := w.ownsRow base 3 1 v zs.length (zs.map (Value.int .i64))
theorem blk_add (a : Addr) (j : Nat) : (a.add j).block = a.block := by unfold Addr.add; split <;> rfl
theorem Sl.nil (w : World) (B : Nat) (A : Option Addr) : Sl w B A [] := fun j z h => by simp at h
theorem Sl.keep {w w' : World} {B : Nat} {A : Option Addr} {zs : List Int} (h : Sl w B A zs) (hk : ∀ p : Addr, p.block < B → w'.cell? p = w.cell? p) : Sl w' B A zs := fun j z hz => by
  obtain ⟨ad, rfl, hb, hc⟩ := h j z hz
  exact ⟨ad, rfl, hb, by rw [hk _ (by rw [blk_add]; exact hb)]; exact hc⟩
theorem Sl.below {w w' : World} {B C : Nat} {A : Option Addr} {zs : List Int} (h : Sl w B A zs) (hb : Below C w w') (hB : B ≤ C) : Sl w' B A zs := h.keep fun _ hp => hb.cell (by omega)
theorem Sl.up {w : World} {B B' : Nat} {A : Option Addr} {zs : List Int} (h : Sl w B A zs) (hB : B ≤ B') : Sl w B' A zs := fun j z hz => by
  obtain ⟨ad, rfl, hb, hc⟩ := h j z hz
  exact ⟨ad, rfl, by omega, hc⟩
theorem Sl.drewN {w : World} {B : Nat} {A : Option Addr} {zs : List Int} (h : Sl w B A zs) (n : Nat) : Sl (w.drewN n) B A zs := h
theorem Sl.get {w : World} {B : Nat} {A : Option Addr} {zs : List Int} (h : Sl w B A zs) (k : Nat) (hk : k < zs.length) : ∃ ad, A = some ad ∧ ad.block < B ∧ w.cell? (ad.add k) = some (.int .i64 zs[k]) :=
  h k _ (List.getElem?_eq_getElem hk)
theorem Sl.take {w : World} {B : Nat} {A : Option Addr} {zs : List Int} (h : Sl w B A zs) (k : Nat) : Sl w B A (zs.take k) := fun j z hz => by
  rw [List.getElem?_take] at hz; split at hz
  · exact h j z hz
  · cases hz
theorem OwnI.form {w : World} {base : Nat} {v : Value} {zs : List Int} (h : OwnI w base v zs) :
    ∃ A c, v = .slice A zs.length c ∧ Sl w w.heap.size A zs := by
  rcases h.2 with ⟨rfl, h0⟩ | ⟨g, cap, cur, rfl, hb, hg, hn, hm, hs, ht⟩
  · have : zs = [] := List.eq_nil_of_length_eq_zero h0
    subst this
    exact ⟨none, 0, rfl, Sl.nil _ _ _⟩
  · refine ⟨_, _, rfl, fun j z hz => ⟨_, rfl, h.lt g rfl |>.2, ?_⟩⟩
    exact h.cells (g := g) rfl j _ (by rw [List.getElem?_map, hz]; rfl)
theorem OwnI.below {w w' : World} {base C : Nat} {v : Value} {zs : List Int} (h : OwnI w base v zs) (hb : Below C w w') (hC : w.heap.size ≤ C) : OwnI w' base v zs :=
  h.kept (row := none) ⟨hb.os, hb.tape, hb.output, hb.size, fun i hi _ => hb.block i (by omega)⟩ (by cases hv : v.ownBlock <;> simp)
theorem OwnI.mono {w : World} {base base' : Nat} {v : Value} {zs : List Int} (h : OwnI w base v zs) (hb : base' ≤ base) : OwnI w base' v zs := by
  refine ⟨h.1, ?_⟩
  rcases h.2 with h | ⟨g, cap, cur, e, h1, h2⟩
  · exact .inl h
  · exact .inr ⟨g, cap, cur, e, by omega, h2⟩
/-- A block that is known whole. -/
def Bk (w : World) (b : Nat) (c : Array Value) (T : TypeId) : Prop := w.heap[b]? = some (.cells c T (0, 0))
theorem Bk.lt {w : World} {b : Nat} {c : Array Value} {T : TypeId} (h : Bk w b c T) : b < w.heap.size := by
  unfold Bk at h
  exact (Array.getElem?_eq_some_iff.1 h).1
theorem Bk.new (w : World) (c : Array Value) (T : TypeId) : Bk (w.alloc (.cells c T)) w.heap.size c T := heap_alloc_new w _
theorem Bk.below {w w' : World} {b C : Nat} {c : Array Value} {T : TypeId} (h : Bk w b c T) (hb : Below C w w') (hC : b < C) : Bk w' b c T := by
  unfold Bk at *
  rw [hb.block b hC]; exact h
theorem Bk.cell {w : World} {b : Nat} {c : Array Value} {T : TypeId} (h : Bk w b c T) (i : Nat) (v : Value) (hv : c[i]? = some v) : w.cell? ⟨b, i, none⟩ = some v := by
  rw [cell_of_row w b i c T (0, 0) h]; exact hv
theorem Bk.far {w : World} {b : Nat} {c : Array Value} {T : TypeId} (h : Bk w b c T) {p : Addr} (hp : b ≠ p.block) (u : Value) : Bk (w.setCell p u) b c T := by
  unfold Bk at *
  rw [Below.heap_setCell w p u b hp]; exact h
theorem Bk.set {w : World} {b : Nat} {c : Array Value} {T : TypeId} (h : Bk w b c T) (i : Nat) (v : Value) : Bk (w.setCell ⟨b, i, none⟩ v) b (c.setIfInBounds i v) T := by
  unfold Bk at h ⊢
  unfold World.setCell
  simp only [Array.getElem?_modify, if_true, h]
  rfl
theorem Bk.frozen {w : World} {b : Nat} {c : Array Value} {T : TypeId} (h : Bk w b c T) (i : Nat) : w.frozen? ⟨b, i, none⟩ = false := by
  unfold Bk at h
  simp [World.frozen?, h]
theorem infoI : (Tryz.prog.info? 3).map (fun i => (i.zero, i.size, i.bytes)) = some (some (.int .i64 0), 1, 8) := by kernel_rfl
theorem ones (zs : List Int) : ∀ u ∈ zs.map (Value.int .i64), u.oneCell' = true := by
  intro u hu; obtain ⟨z, _, rfl⟩ := List.mem_map.1 hu; rfl

theorem take_next (l : List Int) (k : Nat) (h : k < l.length) : l.take (k + 1) = l.take k ++ [l[k]] := by rw [List.take_succ_eq_append_getElem h]
end Go.Proofs.YtkdpcnikgdbmaaaGreatDoor.Ac
