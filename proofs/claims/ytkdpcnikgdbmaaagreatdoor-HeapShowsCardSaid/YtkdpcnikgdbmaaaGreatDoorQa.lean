/-
  Rows of entries of the call's own, each with copies of its own: what Entries and Load keep.
-/
import Derived.Test.YtkdpcnikgdbmaaaGreatDoorKa
import Derived.Test.YtkdpcnikgdbmaaaGreatDoorJc
import Derived.Maps.AppendAt
namespace Go.Proofs.YtkdpcnikgdbmaaaGreatDoor.Hp
open Go Go.RowKit Go.Maps Va

/-- Blocks made since base, but for a row's own. -/
def Near (base : Nat) (v : Value) (w : World) (g : Nat) : Prop := base ≤ g ∧ g < w.heap.size ∧ v.ownBlock ≠ some g
/-- A row of entries with copies that lie elsewhere. -/
structure Cps (w : World) (base : Nat) (v : Value) (es : List Ac.En) (l : List Ent) : Prop where
  row : Ac.OwnE w base v es
  len : es.length = l.length
  ent : ∀ (j : Nat) (e : Ac.En) (x : Ent), es[j]? = some e → l[j]? = some x → EntAt w (Near base v w) e x
  nil : ∀ e ∈ es, (e.nA = none → e.nn = 0 ∧ e.nc = 0) ∧ (e.iA = none → e.m = 0 ∧ e.ic = 0)
theorem EntAt.keep {w w' : World} {P Q : Nat → Prop} {e : Ac.En} {x : Ent} (h : EntAt w P e x) (hk : ∀ b, P b → Q b ∧ w'.heap[b]? = w.heap[b]?) : EntAt w' Q e x :=
  ⟨h.id, h.kind, h.cls, h.fn, h.ten, h.nn, h.m, h.nms.keep hk, h.its.keep hk⟩
theorem Cps.start (w : World) (base : Nat) : Cps w base (.slice none 0 0) [] [] :=
  ⟨World.ownsRow_nil _ _ _ _, rfl, fun j e x h => by simp at h, fun e he => by cases he⟩
theorem Cps.below {w w' : World} {base C : Nat} {v : Value} {es : List Ac.En} {l : List Ent} (h : Cps w base v es l) (hb : Below C w w') (hC : w.heap.size ≤ C) : Cps w' base v es l :=
  ⟨Ac.OwnE.below h.row hb hC, h.len, fun j e x he hx => (h.ent j e x he hx).keep fun b hb' => ⟨⟨hb'.1, Nat.lt_of_lt_of_le hb'.2.1 hb.size, hb'.2.2⟩, hb.block b (Nat.lt_of_lt_of_le hb'.2.1 hC)⟩, h.nil⟩
theorem Cps.alloc {w : World} {base : Nat} {v : Value} {es : List Ac.En} {l : List Ent} (h : Cps w base v es l) (o : Obj) : Cps (w.alloc o) base v es l := h.below ((Below.refl _ w).alloc (Nat.le_refl _) o) (Nat.le_refl _)
theorem Cps.drew {w : World} {base : Nat} {v : Value} {es : List Ac.En} {l : List Ent} (h : Cps w base v es l) : Cps w.drew base v es l := h.below (C := w.heap.size) ⟨rfl, rfl, rfl, Nat.le_refl _, fun _ _ => rfl⟩ (Nat.le_refl _)
/-- A cell elsewhere was stored to. -/
theorem Cps.store {w : World} {base : Nat} {v : Value} {es : List Ac.En} {l : List Ent} (h : Cps w base v es l) {q : Nat} (hq : q < base) (i : Nat) (x : Value) : Cps (w.setCell ⟨q, i, none⟩ x) base v es l := by
  have far : ∀ b, base ≤ b → (w.setCell ⟨q, i, none⟩ x).heap[b]? = w.heap[b]? := fun b hb => set_other _ _ _ _ _ (by omega)
  have hz : (w.setCell ⟨q, i, none⟩ x).heap.size = w.heap.size := by simp [World.setCell]
  refine ⟨own_keep h.row fun b hb _ => far b hb, h.len, fun j e y he hy => (h.ent j e y he hy).keep fun b hb => ⟨⟨hb.1, by rw [hz]; exact hb.2.1, hb.2.2⟩, far b hb.1⟩, h.nil⟩
/-- One more entry. -/
theorem Cps.add {w w' : World} {base : Nat} {v v' : Value} {es : List Ac.En} {l : List Ent} (h : Cps w base v es l) {e : Ac.En} {x : Ent} (he : EntAt w (Near base v w) e x) (hn : (e.nA = none → e.nn = 0 ∧ e.nc = 0) ∧ (e.iA = none → e.m = 0 ∧ e.ic = 0))
    (ho : Ac.OwnE w' base v' (es ++ [e])) (hg : w.grownBy w' v.ownBlock) (hv : v'.ownBlock = v.ownBlock ∨ v'.ownBlock = some w.heap.size) : Cps w' base v' (es ++ [e]) (l ++ [x]) := by
  have key : ∀ b, Near base v w b → Near base v' w' b ∧ w'.heap[b]? = w.heap[b]? := fun b hb => by
    refine ⟨⟨hb.1, Nat.lt_of_lt_of_le hb.2.1 hg.size, ?_⟩, hg.block b hb.2.1 fun e => hb.2.2 e.symm⟩
    rcases hv with hv | hv
    · rw [hv]; exact hb.2.2
    · rw [hv]; intro e'; injection e' with e'; have := hb.2.1; omega
  refine ⟨ho, by rw [List.length_append, List.length_append, h.len]; rfl, fun j d y hd hy => ?_, fun d hd => ?_⟩
  · rcases Nat.lt_trichotomy j es.length with hj | hj | hj
    · rw [List.getElem?_append_left hj] at hd
      rw [List.getElem?_append_left (by rw [← h.len]; exact hj)] at hy
      exact (h.ent j d y hd hy).keep key
    · subst hj
      rw [List.getElem?_append_right (Nat.le_refl _), Nat.sub_self] at hd
      rw [h.len, List.getElem?_append_right (Nat.le_refl _), Nat.sub_self] at hy
      simp only [List.getElem?_cons_zero, Option.some.injEq] at hd hy
      subst hd; subst hy
      exact he.keep key
    · rw [List.getElem?_append_right (by omega)] at hd
      have := (List.getElem?_eq_some_iff.1 hd).1
      simp at this
      omega
  · rcases List.mem_append.1 hd with hd | hd
    · exact h.nil d hd
    · rw [List.mem_singleton] at hd; subst hd; exact hn
theorem Cps.slot {w : World} {base : Nat} {v : Value} {es : List Ac.En} {l : List Ent} (h : Cps w base v es l) : ∃ A c, v = .slice A l.length c ∧ EntsAt w (fun g => base ≤ g ∧ g < w.heap.size) A es l := by
  obtain ⟨A, c, hv, -⟩ := h.row.form
  refine ⟨A, c, by rw [hv, h.len], h.len, fun j e x he hx => (h.ent j e x he hx).keep fun b hb => ⟨⟨hb.1, hb.2.1⟩, rfl⟩, fun j e he => ?_⟩
  have hj := (List.getElem?_eq_some_iff.1 he).1
  have ho := h.row
  obtain ⟨g, cap, e1, hb, hg⟩ := World.ownsRow.form ho (by omega)
  rw [hv] at e1
  simp only [Value.slice.injEq] at e1
  obtain ⟨rfl, _, _⟩ := e1
  unfold Ac.OwnE at ho
  rw [hv] at ho
  refine ⟨g, rfl, ⟨(ho.lt g rfl).1, hg⟩, fun i u hu => ?_⟩
  have hi : i < 7 := (List.getElem?_eq_some_iff.1 hu).1
  rw [World.ownsRow.cellAt ho _ (by omega)]
  exact Ac.flat_get es j i e u he hu
/-- append of one entry, as a step. -/
theorem wp_append_ent {o : Oper} {a : Go.Act} {w : World} {K : Go.Act → World → Prop} {Q : Exit → Go.Act → World → Prop} (s x : Operand)
    (ho : o.op = .call { callee := .builtin .append, args := #[s, x], argTypes := #[33, 33] }) (base : Nat) (v : Value) (es : List Ac.En) (e : Ac.En) (hs : a.eval s = v) (hown : Ac.OwnE w base v es)
    (b c : Nat) (hx : a.eval x = .slice (some ⟨b, 0, none⟩) 1 c) (hc : Bk w b e.cells.toArray 49) (hl : es.length ≤ 8000) (hb : base ≤ w.heap.size)
    (h : ∀ v' w', Ac.OwnE w' base v' (es ++ [e]) → w.grownBy w' v.ownBlock → (v'.ownBlock = v.ownBlock ∨ v'.ownBlock = some w.heap.size) → K (a.put o.dst v') w') : o.wp Tryz.prog a w K Q := by
  obtain ⟨i0, hi0, hz0, hz1, hz2⟩ := info_parts Ac.infoE
  obtain ⟨v', w', hr, h2, h3, -, h5⟩ := run_append_own_at (P := Tryz.prog) w base 33 o.type 49 i0 _ 7 88 Tryz.underlying33 hi0 hz0 hz1 hz2 rfl (by decide) v _ _ hown ⟨b, 0, none⟩ 1 c e.cells rfl (World.news_of_block (cs := e.cells.toArray) hc) (by intro u hu; simp [Ac.En.cells] at hu; rcases hu with rfl | rfl | rfl | rfl | rfl | rfl | rfl <;> rfl) (by unfold maxLen; omega) (by omega) hb
  unfold Oper.wp execOp
  simp only [ho, resolve, invoke, builtin, Sem.run_bind, Sem.run_pure, Result.andThen_ok, List.map_toArray, List.map_cons, List.map_nil, hs, hx, hr]
  refine h v' w' ?_ h3 h5
  unfold Ac.OwnE
  rw [List.length_append, List.flatMap_append]
  simpa using h2
end Go.Proofs.YtkdpcnikgdbmaaaGreatDoor.Hp
