/-
  Slices of entries of the call's own; Made: what it hands back.
-/
import Derived.Test.YtkdpcnikgdbmaaaGreatDoorNd
import Derived.Test.YtkdpcnikgdbmaaaGreatDoorNa
namespace Go.Proofs.YtkdpcnikgdbmaaaGreatDoor.Ac
open Go Go.RowKit

/-- The entry's cell, its rows a call's own. -/
def Items (R : Nat → Int → Prop) (w : World) (base : Nat) (e : En) : Prop := CellOf R w base e.kind e.cls e.fn e.ten e.nA e.nn e.nc e.iA e.m e.ic
def En.row (e : En) : Value := .slice e.iA e.m e.ic
/-- A slice of entries of the call's own. -/
def OwnE (w : World) (base : Nat) (v : Value) (es : List En) : Prop := w.ownsRow base 49 7 v es.length (es.flatMap En.cells)
theorem flat_len (es : List En) : (es.flatMap En.cells).length = es.length * 7 := by
  induction es with
  | nil => rfl
  | cons e es ih => rw [List.flatMap_cons, List.length_append, ih]; simp [En.cells]; omega
theorem flat_get (es : List En) (j i : Nat) (e : En) (u : Value) (he : es[j]? = some e) (hu : e.cells[i]? = some u) : (es.flatMap En.cells)[j * 7 + i]? = some u := by
  induction es generalizing j with
  | nil => simp at he
  | cons d es ih =>
    have hd : d.cells.length = 7 := rfl
    rw [List.flatMap_cons]
    rcases j with _ | j
    · injection he with he
      subst he
      rw [List.getElem?_append_left (by rw [Nat.zero_mul, Nat.zero_add]; exact (List.getElem?_eq_some_iff.1 hu).1), Nat.zero_mul, Nat.zero_add]; exact hu
    · rw [List.getElem?_append_right (by omega), hd, show (j + 1) * 7 + i - 7 = j * 7 + i by omega]
      exact ih j (by simpa using he)
theorem OwnE.form {w : World} {base : Nat} {v : Value} {es : List En} (h : OwnE w base v es) : ∃ A c, v = .slice A es.length c ∧ Se w w.heap.size A es := by
  rcases h.2 with ⟨rfl, h0⟩ | ⟨g, cap, cur, rfl, hb, hg, hn, hm, hs, ht⟩
  · have : es = [] := List.eq_nil_of_length_eq_zero h0
    subst this
    exact ⟨none, 0, rfl, fun j e h => by simp at h⟩
  · refine ⟨_, _, rfl, fun j e he => ⟨g, rfl, h.lt g rfl |>.2, fun i u hu => ?_⟩⟩
    have hq : j < es.length := (List.getElem?_eq_some_iff.1 he).1
    have hi : i < 7 := (List.getElem?_eq_some_iff.1 hu).1
    rw [World.ownsRow.cellAt h _ (by omega)]
    exact flat_get es j i e u he hu
theorem OwnE.below {w w' : World} {base C : Nat} {v : Value} {es : List En} (h : OwnE w base v es) (hb : Below C w w') (hC : w.heap.size ≤ C) : OwnE w' base v es :=
  h.kept (row := none) ⟨hb.os, hb.tape, hb.output, hb.size, fun i hi _ => hb.block i (by omega)⟩ (by cases hv : v.ownBlock <;> simp)
theorem infoE : (Tryz.prog.info? 49).map (fun i => (i.zero, i.size, i.bytes)) = some (some (.agg #[.int .i64 0, .int .i64 0, .int .i64 0, .int .i64 0, .int .i64 0, .slice none 0 0, .slice none 0 0]), 7, 88) := by kernel_rfl
theorem own_apart {w : World} {b1 b2 : Nat} {e1 e2 : TypeId} {s1 s2 n1 n2 : Nat} {v1 v2 : Value} {x1 x2 : List Value} (h1 : w.ownsRow b1 e1 s1 v1 n1 x1) (h2 : w.ownsRow b2 e2 s2 v2 n2 x2) (hne : e1 ≠ e2) : v1.ownBlock = none ∨ v1.ownBlock ≠ v2.ownBlock := by
  rcases h2.2 with ⟨rfl, _⟩ | ⟨g, cap, cur, rfl, _, hh, _⟩
  · cases h : v1.ownBlock
    · exact .inl rfl
    · exact .inr (by simp [Value.ownBlock])
  · exact .inr (fun h => own_ne h1 (show Bk w g cur e2 from hh) hne h.symm)
theorem own_kept {w w' : World} {base : Nat} {T : TypeId} {size n : Nat} {v : Value} {xs : List Value} {row : Option Nat} (h : w.ownsRow base T size v n xs) (hg : w.grownBy w' row) (hr : ∀ g, row = some g → ∃ cs U, Bk w g cs U ∧ T ≠ U) : w'.ownsRow base T size v n xs := by
  rcases row with _ | g
  · exact kept_none h hg
  · obtain ⟨cs, U, hb, hT⟩ := hr g rfl
    exact h.kept hg (.inr (fun e => own_ne h hb hT e.symm))
theorem own_mono {w : World} {base base' : Nat} {e : TypeId} {size n : Nat} {v : Value} {xs : List Value} (h : w.ownsRow base e size v n xs) (hb : base' ≤ base) : w.ownsRow base' e size v n xs := by
  refine ⟨h.1, ?_⟩
  rcases h.2 with h | ⟨g, cap, cur, e, h1, h2⟩
  · exact .inl h
  · exact .inr ⟨g, cap, cur, e, by omega, h2⟩
theorem Items.kept {R : Nat → Int → Prop} {w w' : World} {base : Nat} {e : En} {row : Option Nat} (h : Items R w base e) (hg : w.grownBy w' row) (hr : ∀ g, row = some g → ∃ cs T, Bk w g cs T ∧ 64 ≠ T ∧ 9 ≠ T) : Items R w' base e := by
  obtain ⟨ns, vs, h1, h2, h3, h4, h5⟩ := h
  exact ⟨ns, vs, h1, h2, h3, own_kept h4 hg fun g e => by obtain ⟨cs, T, a, _, b⟩ := hr g e; exact ⟨cs, T, a, b⟩, own_kept h5 hg fun g e => by obtain ⟨cs, T, a, b, _⟩ := hr g e; exact ⟨cs, T, a, b⟩⟩
theorem Items.mono {R : Nat → Int → Prop} {w : World} {base base' : Nat} {e : En} (h : Items R w base e) (hb : base' ≤ base) : Items R w base' e := by
  obtain ⟨ns, vs, h1, h2, h3, h4, h5⟩ := h
  exact ⟨ns, vs, h1, h2, h3, own_mono h4 hb, own_mono h5 hb⟩
theorem Gv.weaken {P Q : Int → Prop} {k x : Int} {s : ByteArray} (h : Gv P k x s) (hq : k = 5 → P x → Q x) : Gv Q k x s := by
  rcases h with h | h | h | h | ⟨a, b, c⟩
  · exact .inl h
  · exact .inr (.inl h)
  · exact .inr (.inr (.inl h))
  · exact .inr (.inr (.inr (.inl h)))
  · exact .inr (.inr (.inr (.inr ⟨a, hq a b, c⟩)))
theorem Items.weaken {R R' : Nat → Int → Prop} {w : World} {base : Nat} {e : En} (h : Items R w base e) (hr : ∀ t x, t < e.m → R t x → R' t x) : Items R' w base e := by
  obtain ⟨ns, vs, h1, h2, ⟨a, b, c, d⟩, h4, h5⟩ := h
  refine ⟨ns, vs, h1, h2, ⟨a, b, fun t v hv => (c t v hv).weaken fun _ => hr t _ ?_, d⟩, h4, h5⟩
  have hv' : vs[t]? = some v := hv
  have := (List.getElem?_eq_some_iff.1 hv').1
  omega
theorem Items.own {R : Nat → Int → Prop} {w : World} {base : Nat} {e : En} (h : Items R w base e) : ∃ xs, w.ownsRow base 64 3 e.row e.m xs := by
  obtain ⟨ns, vs, h1, h2, h3, h4, h5⟩ := h
  exact ⟨_, h5⟩
/-- What Made's walk carries. -/
structure Md (R : Nat → Nat → Int → Prop) (W : World) (b : Nat) (A : Option Addr) (n c : Nat) (v : Value) (es : List En) (w : World) : Prop where
  st : Sn W b A n c [] w
  own : OwnE w W.heap.size v es
  items : ∀ (i : Nat) (e : En), es[i]? = some e → Items (R i) w W.heap.size e
  apart : ∀ (i k : Nat) (e f : En), i ≠ k → es[i]? = some e → es[k]? = some f → e.row.ownBlock = none ∨ e.row.ownBlock ≠ f.row.ownBlock
theorem Md.next {R : Nat → Nat → Int → Prop} {W w w' : World} {b n c : Nat} {A : Option Addr} {v : Value} {es : List En} (h : Md R W b A n c v es w) (hn : Nm w' b A n c ∧ w.grownBy w' (some b)) : Md R W b A n c v es w' := by
  obtain ⟨K, hK, hb⟩ := h.st.nm
  exact ⟨h.st.next hn, h.own.kept hn.2 (.inr (fun e => own_ne h.own hb (show (49 : TypeId) ≠ 89 by decide) e.symm)),
    fun i e he => (h.items i e he).kept hn.2 (fun g hg => ⟨_, _, by injection hg with hg; subst hg; exact hb, by decide, by decide⟩), h.apart⟩
theorem Md.weaken {R R' : Nat → Nat → Int → Prop} {W w : World} {b n c : Nat} {A : Option Addr} {v : Value} {es : List En} (h : Md R W b A n c v es w) (hr : ∀ (i : Nat) (e : En), es[i]? = some e → ∀ t x, t < e.m → R i t x → R' i t x) : Md R' W b A n c v es w :=
  ⟨h.st, h.own, fun i e he => (h.items i e he).weaken (hr i e he), h.apart⟩
theorem Md.low {R : Nat → Nat → Int → Prop} {W w : World} {b n c : Nat} {A : Option Addr} {v : Value} {es : List En} (h : Md R W b A n c v es w)   : ∀ (i : Nat) (f : En), es[i]? = some f → ∀ g, f.row.ownBlock = some g → g < w.heap.size := fun i f hf g hg => by
  obtain ⟨xs, ho⟩ := (h.items i f hf).own
  exact (ho.lt g hg).2
/-- One entry more. -/
theorem Md.add {R : Nat → Nat → Int → Prop} {W w w' : World} {b n c : Nat} {A : Option Addr} {v v' : Value} {es : List En} (h : Md R W b A n c v es w) (e : En) (C : Nat) (hi : Items (R es.length) w C e) (hC : W.heap.size ≤ C)
    (hlow : ∀ (i : Nat) (f : En), es[i]? = some f → ∀ g, f.row.ownBlock = some g → g < C)
    (ho : w'.ownsRow W.heap.size 49 7 v' (es.length + 1) (es.flatMap En.cells ++ e.cells)) (hg : (w.alloc (.cells e.cells.toArray 49)).grownBy w' v.ownBlock) : Md R W b A n c v' (es ++ [e]) w' := by
  have ha : w.grownBy (w.alloc (.cells e.cells.toArray 49)) none := World.grownBy_alloc w _ none
  have ow := World.ownsRow.alloc h.own (.cells e.cells.toArray 49)
  have sa := (h.st.alloc e.cells.toArray 49).drop (L' := []) (fun p hp => by cases hp)
  have new : ∀ g, e.row.ownBlock = some g → C ≤ g := fun g hg => by
    obtain ⟨xs, hx⟩ := hi.own
    exact (hx.lt g hg).1
  have split : ∀ (i : Nat) (f : En), (es ++ [e])[i]? = some f → (i < es.length ∧ es[i]? = some f) ∨ (i = es.length ∧ f = e) := fun i f hf => by
    rcases Nat.lt_or_ge i es.length with hl | hl
    · rw [List.getElem?_append_left hl] at hf; exact .inl ⟨hl, hf⟩
    · rw [List.getElem?_append_right hl] at hf
      have h1 := (List.getElem?_eq_some_iff.1 hf).1
      have h2 : i - es.length = 0 := by simpa using h1
      rw [h2] at hf
      exact .inr ⟨by omega, by simpa using hf.symm⟩
  refine ⟨sa.append ow hg (fun p hp => by cases hp) (by decide), ?_, fun i f hf => ?_, fun i k f f' hne hf hf' => ?_⟩
  · unfold OwnE
    rw [List.flatMap_append, List.length_append]
    simpa using ho
  · have key : ∀ f, Items (R i) w W.heap.size f → Items (R i) w' W.heap.size f := fun f hf => by
      have h1 := hf.kept ha (fun g hg => by cases hg)
      refine h1.kept hg (fun g hg' => ?_)
      rcases ow.2 with ⟨rfl, _⟩ | ⟨g', cap, cur, rfl, _, hh, _⟩
      · simp [Value.ownBlock] at hg'
      · simp [Value.ownBlock] at hg'
        subst hg'
        exact ⟨cur, _, hh, by decide, by decide⟩
    rcases split i f hf with ⟨_, hf⟩ | ⟨rfl, rfl⟩
    · exact key f (h.items i f hf)
    · exact key f (hi.mono hC)
  · rcases split i f hf with ⟨h1, kf⟩ | ⟨rfl, rfl⟩ <;> rcases split k f' hf' with ⟨h2, kf'⟩ | ⟨rfl, rfl⟩
    · exact h.apart i k f f' hne kf kf'
    · cases hb : f.row.ownBlock with
      | none => exact .inl rfl
      | some g => exact .inr fun e' => by have := hlow i f kf g hb; have := new g e'.symm; omega
    · cases hb : f.row.ownBlock with
      | none => exact .inl rfl
      | some g => exact .inr fun e' => by have := hlow k f' kf' g e'.symm; have := new g hb; omega
    · exact absurd rfl hne
end Go.Proofs.YtkdpcnikgdbmaaaGreatDoor.Ac
