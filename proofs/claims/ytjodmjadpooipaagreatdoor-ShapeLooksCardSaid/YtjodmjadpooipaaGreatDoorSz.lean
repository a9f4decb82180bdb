/-
  The walk of ShapeMerges.
-/
import Derived.Test.YtjodmjadpooipaaGreatDoorSy
import Derived.Maps.AppendAt
namespace Go.Proofs.YtjodmjadpooipaaGreatDoor.Sh
open Go Go.RowKit

theorem infoSS : (Tryz.prog.info? 41).map (fun i => (i.zero, i.size, i.bytes)) = some (some (.slice none 0 0), 1, 24) := by kernel_rfl
/-- Values that are slices of the names of t's first shapes, each in blocks of P. -/
def NamesL (w : World) (P : Nat → Prop) (t : Tre) (vs : List Value) : Prop :=
  ∀ j u, vs[j]? = some u → ∃ A c, u = .slice A (t.sh j).names.length c ∧ SlS w P A (t.sh j).names
theorem NamesL.keep {w w' : World} {P Q : Nat → Prop} {t : Tre} {vs : List Value} (h : NamesL w P t vs) (hk : ∀ b, P b → Q b ∧ w'.heap[b]? = w.heap[b]?) : NamesL w' Q t vs := fun j u hu => by
  obtain ⟨A, c, e, hs⟩ := h j u hu
  exact ⟨A, c, e, hs.keep hk⟩
def Out (w : World) (F : Nat → Prop) (b : Nat) : Prop := b < w.heap.size ∧ ¬ F b
def OutB (w : World) (F : Nat → Prop) (v : Value) (b : Nat) : Prop := b < w.heap.size ∧ ¬ F b ∧ v.ownBlock ≠ some b
theorem NamesL.low {w w' : World} {F : Nat → Prop} {t : Tre} {vs : List Value} (h : NamesL w (Out w F) t vs) (hb : Below w.heap.size w w') : NamesL w' (Out w' F) t vs := h.keep fun b h => ⟨⟨Nat.lt_of_lt_of_le h.1 hb.size, h.2⟩, hb.block b h.1⟩
theorem NamesL.chg {w w' : World} {F F' : Nat → Prop} {t : Tre} {vs : List Value} (h : NamesL w (Out w F) t vs) (hc : Chg F w w') (s : Sub F F' w) : NamesL w' (Out w' F') t vs :=
  h.keep fun b h => ⟨⟨Nat.lt_of_lt_of_le h.1 hc.size, fun e => (s b e).elim h.2 (by have := h.1; omega)⟩, hc.block b h.1 h.2⟩
theorem NamesL.snoc {w : World} {P : Nat → Prop} {t : Tre} {vs : List Value} {A : Option Addr} {c k : Nat} (h : NamesL w P t vs) (hk : vs.length = k) (hs : SlS w P A (t.sh k).names) : NamesL w P t (vs ++ [.slice A (t.sh k).names.length c]) := fun j u hu => by
  rcases Nat.lt_trichotomy j vs.length with g | g | g
  · rw [List.getElem?_append_left g] at hu; exact h j u hu
  · subst g; subst hk
    rw [List.getElem?_append_right (Nat.le_refl _), Nat.sub_self] at hu
    injection hu with hu; subst hu
    exact ⟨A, c, rfl, hs⟩
  · rw [List.getElem?_eq_none (by simp; omega)] at hu; cases hu
/-- A row of values in a block outside of the tree. -/
def RowV (w : World) (F : Nat → Prop) (g : Nat) (vs : List Value) : Prop := g < w.heap.size ∧ ¬ F g ∧ ∀ j u, vs[j]? = some u → w.cell? ⟨g, j, none⟩ = some u
theorem RowV.low {w w' : World} {F : Nat → Prop} {g : Nat} {vs : List Value} (h : RowV w F g vs) (hb : Below w.heap.size w w') : RowV w' F g vs :=
  ⟨Nat.lt_of_lt_of_le h.1 hb.size, h.2.1, fun j u hu => (hb.cell (p := ⟨g, j, none⟩) h.1).trans (h.2.2 j u hu)⟩
theorem RowV.chg {w w' : World} {F F' : Nat → Prop} {g : Nat} {vs : List Value} (h : RowV w F g vs) (hc : Chg F w w') (s : Sub F F' w) : RowV w' F' g vs :=
  ⟨Nat.lt_of_lt_of_le h.1 hc.size, fun e => (s g e).elim h.2.1 (by have := h.1; omega), fun j u hu => (hc.cell (p := ⟨g, j, none⟩) h.1 h.2.1).trans (h.2.2 j u hu)⟩
/-- What outlives a loop over the names: the tree, the row, the names. -/
structure Mg (K : Kit) (w0 w : World) (p : Nat) (t0 t : Tre) (F : Nat → Prop) (g : Nat) (vs : List Value) : Prop where
  tr : Tr K w0 w p t F
  row : RowV w F g vs
  nl : NamesL w (Out w F) t0 vs
section
variable {K : Kit} {w0 w w' : World} {p g : Nat} {t0 t t' : Tre} {F F' : Nat → Prop} {vs : List Value}
theorem Mg.low (h : Mg K w0 w p t0 t F g vs) (hb : Below w.heap.size w w') : Mg K w0 w' p t0 t F g vs := ⟨h.tr.below hb, h.row.low hb, h.nl.low hb⟩
theorem Mg.drewN (h : Mg K w0 w p t0 t F g vs) (n : Nat) : Mg K w0 (w.drewN n) p t0 t F g vs := ⟨h.tr.drewN n, h.row, h.nl⟩
theorem Mg.drew (h : Mg K w0 w p t0 t F g vs) : Mg K w0 w.drew p t0 t F g vs := h.drewN 1
theorem Mg.chg (h : Mg K w0 w p t0 t F g vs) (h' : Tr K w0 w' p t' F') (hc : Chg F w w') (s : Sub F F' w) : Mg K w0 w' p t0 t' F' g vs := ⟨h', h.row.chg hc s, h.nl.chg hc s⟩
end
theorem oneNewV (w : World) (y : Value) (T : TypeId) : ∀ j u, [y][j]? = some u → (w.alloc (.cells #[y] T)).cell? ((⟨w.heap.size, 0, none⟩ : Addr).add j) = some u := by
  intro j u h
  rcases j with _ | j
  · injection h with h; subst h
    show (w.alloc _).cell? ⟨w.heap.size, 0, none⟩ = _
    rw [World.cell?_alloc_new]; rfl
  · simp at h
def bNew : ByteArray := ⟨#[110, 101, 119]⟩
end Go.Proofs.YtjodmjadpooipaaGreatDoor.Sh
