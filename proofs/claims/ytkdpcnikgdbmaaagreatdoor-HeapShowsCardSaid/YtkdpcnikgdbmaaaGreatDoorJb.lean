/-
  Entries as they lie in memory, as ids and cells; what the reference makes.
-/
import Derived.Test.YtkdpcnikgdbmaaaGreatDoorHn
import Derived.Test.YtkdpcnikgdbmaaaGreatDoorNe
namespace Go.Proofs.YtkdpcnikgdbmaaaGreatDoor.Hp
open Go Go.RowKit Go.Maps Va

/-- An entry that reads as this id and cell. -/
structure EntAt (w : World) (P : Nat → Prop) (e : Ac.En) (x : Ent) : Prop where
  id : e.id = x.1
  kind : e.kind = x.2.kind
  cls : e.cls = x.2.cls
  fn : e.fn = x.2.fn
  ten : e.ten = x.2.ten
  nn : x.2.names.length = e.nn
  m : x.2.items.length = e.m
  nms : SlS w P e.nA x.2.names
  its : ValsAt w P e.iA x.2.items
/-- A row of entries that is read. -/
structure EntsAt (w : World) (P : Nat → Prop) (A : Option Addr) (es : List Ac.En) (l : List Ent) : Prop where
  len : es.length = l.length
  ent : ∀ (j : Nat) (e : Ac.En) (x : Ent), es[j]? = some e → l[j]? = some x → EntAt w P e x
  row : ∀ (j : Nat) (e : Ac.En), es[j]? = some e → ∃ g, A = some ⟨g, 0, none⟩ ∧ P g ∧ ∀ (i : Nat) (u : Value), e.cells[i]? = some u → w.cell? ⟨g, j * 7 + i, none⟩ = some u
theorem EntsAt.keep {w w' : World} {P Q : Nat → Prop} {A : Option Addr} {es : List Ac.En} {l : List Ent} (h : EntsAt w P A es l) (hk : ∀ b, P b → Q b ∧ w'.heap[b]? = w.heap[b]?) : EntsAt w' Q A es l :=
  ⟨h.len, fun j e x he hx => by
    have := h.ent j e x he hx
    exact ⟨this.id, this.kind, this.cls, this.fn, this.ten, this.nn, this.m, this.nms.keep hk, this.its.keep hk⟩, fun j e he => by
    obtain ⟨g, h1, h2, h3⟩ := h.row j e he
    exact ⟨g, h1, (hk g h2).1, fun i u hu => (World.cell?_of_block (a := ⟨g, j * 7 + i, none⟩) (hk g h2).2).trans (h3 i u hu)⟩⟩
theorem list_choose {α β : Type} {Q : α → β → Prop} (es : List α) (h : ∀ e, e ∈ es → ∃ c, Q e c) : ∃ l : List β, es.length = l.length ∧ ∀ (j : Nat) (e : α) (x : β), es[j]? = some e → l[j]? = some x → Q e x := by
  induction es with
  | nil => exact ⟨[], rfl, fun j e x h => by simp at h⟩
  | cons a es ih =>
    obtain ⟨c, hc⟩ := h a List.mem_cons_self
    obtain ⟨l, h1, h2⟩ := ih fun e he => h e (List.mem_cons_of_mem _ he)
    refine ⟨c :: l, by simp [h1], fun j e x he hx => ?_⟩
    rcases j with _ | j
    · simp only [List.getElem?_cons_zero, Option.some.injEq] at he hx
      subst he; subst hx
      exact hc
    · exact h2 j e x (by simpa using he) (by simpa using hx)
theorem gv_right {P : Int → Prop} {v : Val} (h : Ac.Gv P v.k v.n v.s) (hp : ∀ x, P x → 0 ≤ x ∧ x ≤ 1000000000) : okB v = true ∧ v.Fits := by
  obtain ⟨k, n, s⟩ := v
  simp only at h
  have em : (⟨#[]⟩ : ByteArray).size ≤ maxLen := by decide
  rcases h with ⟨rfl, rfl, rfl⟩ | ⟨rfl, ⟨h1, h2⟩, rfl⟩ | ⟨rfl, ⟨h1, h2⟩, rfl⟩ | ⟨rfl, rfl, h⟩ | ⟨rfl, h1, rfl⟩
  · exact ⟨by decide, by unfold I64; simp only; omega, by unfold I64; simp only; omega, em⟩
  · rcases (show n = 0 ∨ n = 1 by omega) with rfl | rfl
    · exact ⟨by decide, by unfold I64; simp only; omega, by unfold I64; simp only; omega, em⟩
    · exact ⟨by decide, by unfold I64; simp only; omega, by unfold I64; simp only; omega, em⟩
  · refine ⟨?_, by unfold I64; simp only; omega, by unfold I64; simp only; omega, em⟩
    rcases (show n = -2 ∨ n = -1 ∨ n = 0 ∨ n = 1 ∨ n = 2 ∨ n = 3 ∨ n = 4 ∨ n = 5 ∨ n = 6 by omega) with rfl | rfl | rfl | rfl | rfl | rfl | rfl | rfl | rfl
    all_goals decide
  · rcases h with rfl | rfl | rfl | rfl
    all_goals exact ⟨by decide, by unfold I64; simp only; omega, by unfold I64; simp only; omega, by decide⟩
  · have := hp n h1
    refine ⟨?_, by unfold I64; simp only; omega, by unfold I64; simp only; omega, em⟩
    have hb : bndB 5 n = true := by unfold bndB; simp; omega
    have e : (Val.mk 5 n ⟨#[]⟩).right = (bndB 5 n && true && true) := rfl
    unfold okB
    rw [e, hb]; rfl
theorem mk_right {R : Nat → Int → Prop} {c : Cel} (h : Ac.Mk R c) (hp : ∀ t x, R t x → 0 ≤ x ∧ x ≤ 1000000000) : c.right = true ∧ (∀ v ∈ c.items, v.Fits) ∧ (∀ s ∈ c.names, s.size ≤ maxLen) ∧ c.names.length ≤ 3 ∧ c.items.length ≤ 3 := by
  obtain ⟨h1, h2, h3, h4⟩ := h
  have each : ∀ v ∈ c.items, okB v = true ∧ v.Fits := fun v hv => by
    obtain ⟨t, ht⟩ := List.mem_iff_getElem?.1 hv
    exact gv_right (h3 t v ht) (hp t)
  have stor : storB c.items = true := by
    unfold storB
    simp only [Bool.and_eq_true, decide_eq_true_eq, List.all_eq_true]
    exact ⟨by omega, fun v hv => (each v hv).1⟩
  have ten : decide (0 ≤ c.ten ∧ c.ten < 4) = true := by simp; omega
  have xy : ∀ n, n ≤ 3 → eachB (Ac.xyn.take n) n = true ∧ (∀ s ∈ Ac.xyn.take n, s.size ≤ maxLen) ∧ (Ac.xyn.take n).length ≤ 3 := fun n hn => by
    rcases (show n = 0 ∨ n = 1 ∨ n = 2 ∨ n = 3 by omega) with rfl | rfl | rfl | rfl
    all_goals exact ⟨by decide, by decide, by decide⟩
  refine ⟨?_, fun v hv => (each v hv).2, ?_, ?_, h2⟩
  · unfold Cel.right
    rw [ten]
    rcases h4 with ⟨k1, k2, k3, k4⟩ | ⟨k1, k2, k3, k4⟩ | ⟨k1, k2, k3, k4⟩ | ⟨k1, k2, k3, k4, v, k5, k6⟩
    · rw [k1, k3, stor, k4, (xy _ h2).1]; simp; omega
    · rw [k1, k2, k3, stor, k4]; simp
    · rw [k1, k2, stor, k4]; simp; omega
    · have hv := (each v (by rw [k5]; simp)).1
      have ht : targB [v] = true := by unfold targB; rcases k6 with k6 | k6 <;> simp [k6, hv]
      rw [k1, k2, k3, k4, k5, ht]; simp
  · rcases h4 with ⟨k1, k2, k3, k4⟩ | ⟨k1, k2, k3, k4⟩ | ⟨k1, k2, k3, k4⟩ | ⟨k1, k2, k3, k4, _⟩ <;> rw [k4]
    · exact (xy _ h2).2.1
    all_goals exact fun s hs => by cases hs
  · rcases h4 with ⟨k1, k2, k3, k4⟩ | ⟨k1, k2, k3, k4⟩ | ⟨k1, k2, k3, k4⟩ | ⟨k1, k2, k3, k4, _⟩ <;> rw [k4]
    · exact (xy _ h2).2.2
    all_goals simp
/-- What the reference makes, as ids and cells. -/
theorem ents_made {w' : World} {base : Nat} {v : Value} {es : List Ac.En} {nx : Int} (ho : Ac.OwnE w' base v es) (hi : ∀ (i : Nat) (e : Ac.En), es[i]? = some e → Ac.Items (fun _ x => x ∈ es.map Ac.En.id) w' base e) (hu : Ac.Up es nx) (hn : nx ≤ 17) :
    ∃ (A : Option Addr) (c : Nat) (l : List Ent), v = .slice A l.length c ∧ EntsAt w' (fun g => base ≤ g ∧ g < w'.heap.size) A es l ∧ ids l = es.map Ac.En.id ∧
      ∀ x ∈ l, x.2.right = true ∧ (∀ u ∈ x.2.items, u.Fits ∧ (u.k = 5 → u.n ∈ ids l)) ∧ (∀ s ∈ x.2.names, s.size ≤ maxLen) ∧ x.2.names.length ≤ 3 ∧ x.2.items.length ≤ 3 := by
  have hR : ∀ (t : Nat) (x : Int), x ∈ es.map Ac.En.id → 0 ≤ x ∧ x ≤ 1000000000 := fun _ x hx => by
    obtain ⟨e, he, rfl⟩ := List.mem_map.1 hx
    have := hu.2 e he
    omega
  obtain ⟨l, hl, hq⟩ := list_choose (Q := fun (e : Ac.En) (x : Ent) => EntAt w' (fun g => base ≤ g ∧ g < w'.heap.size) e x ∧ Ac.Mk (fun _ x => x ∈ es.map Ac.En.id) x.2) es fun e he => by
    obtain ⟨i, he'⟩ := List.mem_iff_getElem?.1 he
    obtain ⟨ns, vs, h1, h2, h3, h4, h5⟩ := hi i e he'
    refine ⟨(e.id, ⟨e.kind, e.cls, e.fn, e.ten, ns, vs⟩), ⟨rfl, rfl, rfl, rfl, rfl, h1, h2, ?_, ?_⟩, h3⟩
    · rw [← h1] at h4
      obtain ⟨A, c, e1, h6⟩ := own_names h4
      simp only [Value.slice.injEq] at e1
      rw [e1.1]
      exact h6.keep fun g hg => ⟨h4.lt g hg, rfl⟩
    · rw [← h2] at h5
      obtain ⟨A, c, e1, h6⟩ := own_vals h5
      simp only [Value.slice.injEq] at e1
      rw [e1.1]
      exact h6.keep fun g hg => ⟨h5.lt g hg, rfl⟩
  have hids : ids l = es.map Ac.En.id := by
    refine List.ext_getElem? fun j => ?_
    unfold ids
    rw [List.getElem?_map, List.getElem?_map]
    cases he : es[j]? with
    | none => rw [List.getElem?_eq_none (by rw [← hl]; exact List.getElem?_eq_none_iff.1 he)]; rfl
    | some e =>
      have hj : j < l.length := by rw [← hl]; exact (List.getElem?_eq_some_iff.1 he).1
      have hx := List.getElem?_eq_getElem hj
      rw [hx, Option.map_some, Option.map_some, (hq j e _ he hx).1.id]
  obtain ⟨A, c, hv, -⟩ := ho.form
  refine ⟨A, c, l, by rw [hv, hl], ⟨hl, fun j e x he hx => (hq j e x he hx).1, fun j e he => ?_⟩, hids, fun x hx => ?_⟩
  · have hj := (List.getElem?_eq_some_iff.1 he).1
    obtain ⟨g, cap, e1, hb, hg⟩ := World.ownsRow.form ho (by omega)
    rw [hv] at e1
    simp only [Value.slice.injEq] at e1
    obtain ⟨rfl, _, _⟩ := e1
    have ho' := ho
    unfold Ac.OwnE at ho'
    rw [hv] at ho'
    refine ⟨g, rfl, ⟨(ho'.lt g rfl).1, hg⟩, fun i u hu => ?_⟩
    have hi : i < 7 := (List.getElem?_eq_some_iff.1 hu).1
    rw [World.ownsRow.cellAt ho' _ (by omega)]
    exact Ac.flat_get es j i e u he hu
  · obtain ⟨j, hj⟩ := List.mem_iff_getElem?.1 hx
    have hj' : j < es.length := by rw [hl]; exact (List.getElem?_eq_some_iff.1 hj).1
    have hm := (hq j _ x (List.getElem?_eq_getElem hj') hj).2
    obtain ⟨r1, r2, r3, r4, r5⟩ := mk_right hm hR
    refine ⟨r1, fun u hu => ⟨r2 u hu, fun h5 => ?_⟩, r3, r4, r5⟩
    obtain ⟨t, ht⟩ := List.mem_iff_getElem?.1 hu
    rw [hids]
    exact (hm.2.2.1 t u ht).five h5
end Go.Proofs.YtkdpcnikgdbmaaaGreatDoor.Hp
