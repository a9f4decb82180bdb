/-
  Slices of entries of the call's own; Made: what it hands back.
-/
import Derived.Test.YtbpehdpcnnaidaaNd
import Derived.Test.YtbpehdpcnnaidaaAn
namespace Go.Proofs.Ytbpehdpcnnaidaa.Ac
open Go Go.RowKit

/-- The entry's items: m values at the head of a block, refs with numbers from 0 on. -/
def Items (w : World) (base : Nat) (e : En) : Prop := e.m ≤ 3 ∧ ∃ xs, VOk xs e.m ∧ w.ownsRow base 67 3 (.slice e.iA e.m e.ic) e.m xs
/-- A slice of entries of the call's own. -/
def OwnE (w : World) (base : Nat) (v : Value) (es : List En) : Prop := w.ownsRow base 54 7 v es.length (es.flatMap En.cells)
theorem flat_len (es : List En) : (es.flatMap En.cells).length = es.length * 7 := by
  induction es with
  | nil => rfl
  | cons e es ih => rw [List.flatMap_cons, List.length_append, ih]; simp [En.cells]; omega
theorem flat_get (es : List En) (j i : Nat) (e : En) (u : Value) (he : es[j]? = some e) (hu : e.cells[i]? = some u) : (es.flatMap En.cells)[j * 7 + i]? = some u := by
  induction es generalizing j with
  | nil => simp at he
  | cons d es ih =>
    have hd : d.cells.length = 7 := rfl
    rw [List.flatMap_cons]
    rcases j with _ | j
    · injection he with he
      subst he
      rw [List.getElem?_append_left (by rw [Nat.zero_mul, Nat.zero_add]; exact (List.getElem?_eq_some_iff.1 hu).1), Nat.zero_mul, Nat.zero_add]; exact hu
    · rw [List.getElem?_append_right (by omega), hd, show (j + 1) * 7 + i - 7 = j * 7 + i by omega]
      exact ih j (by simpa using he)
theorem OwnE.form {w : World} {base : Nat} {v : Value} {es : List En} (h : OwnE w base v es) : ∃ A c, v = .slice A es.length c ∧ Se w w.heap.size A es := by
  rcases h.2 with ⟨rfl, h0⟩ | ⟨g, cap, cur, rfl, hb, hg, hn, hm, hs, ht⟩
  · have : es = [] := List.eq_nil_of_length_eq_zero h0
    subst this
    exact ⟨none, 0, rfl, fun j e h => by simp at h⟩
  · refine ⟨_, _, rfl, fun j e he => ⟨g, rfl, h.lt g rfl |>.2, fun i u hu => ?_⟩⟩
    have hq : j < es.length := (List.getElem?_eq_some_iff.1 he).1
    have hi : i < 7 := (List.getElem?_eq_some_iff.1 hu).1
    rw [World.ownsRow.cellAt h _ (by omega)]
    exact flat_get es j i e u he hu
theorem OwnE.below {w w' : World} {base C : Nat} {v : Value} {es : List En} (h : OwnE w base v es) (hb : Below C w w') (hC : w.heap.size ≤ C) : OwnE w' base v es :=
  h.kept (row := none) ⟨hb.os, hb.tape, hb.output, hb.size, fun i hi _ => hb.block i (by omega)⟩ (by cases hv : v.ownBlock <;> simp)
theorem infoE : (Try.prog.info? 54).map (fun i => (i.zero, i.size, i.bytes)) = some (some (.agg #[.int .i64 0, .int .i64 0, .int .i64 0, .int .i64 0, .int .i64 0, .slice none 0 0, .slice none 0 0]), 7, 88) := by kernel_rfl
theorem own_apart {w : World} {b1 b2 : Nat} {e1 e2 : TypeId} {s1 s2 n1 n2 : Nat} {v1 v2 : Value} {x1 x2 : List Value} (h1 : w.ownsRow b1 e1 s1 v1 n1 x1) (h2 : w.ownsRow b2 e2 s2 v2 n2 x2) (hne : e1 ≠ e2) : v1.ownBlock = none ∨ v1.ownBlock ≠ v2.ownBlock := by
  rcases h2.2 with ⟨rfl, _⟩ | ⟨g, cap, cur, rfl, _, hh, _⟩
  · cases h : v1.ownBlock
    · exact .inl rfl
    · exact .inr (by simp [Value.ownBlock])
  · exact .inr (fun h => own_ne h1 (show Bk w g cur e2 from hh) hne h.symm)
theorem Items.kept {w w' : World} {base : Nat} {e : En} {row : Option Nat} (h : Items w base e) (hg : w.grownBy w' row) (hr : ∀ g, row = some g → ∃ cs T, Bk w g cs T ∧ 67 ≠ T) : Items w' base e := by
  obtain ⟨h1, xs, h2, h3⟩ := h
  refine ⟨h1, xs, h2, ?_⟩
  rcases row with _ | g
  · exact kept_none h3 hg
  · obtain ⟨cs, T, hb, hT⟩ := hr g rfl
    exact h3.kept hg (.inr (fun h => own_ne h3 hb hT h.symm))
theorem Items.mono {w : World} {base base' : Nat} {e : En} (h : Items w base e) (hb : base' ≤ base) : Items w base' e := by
  obtain ⟨h1, xs, h2, h3, h4⟩ := h
  refine ⟨h1, xs, h2, h3, ?_⟩
  rcases h4 with h | ⟨g, cap, cur, e, h1, h2⟩
  · exact .inl h
  · exact .inr ⟨g, cap, cur, e, by omega, h2⟩
/-- What Made's walk carries. -/
structure Md (W : World) (b : Nat) (A : Option Addr) (n c : Nat) (v : Value) (es : List En) (w : World) : Prop where
  st : Sn W b A n c [] w
  own : OwnE w W.heap.size v es
  items : ∀ e, e ∈ es → Items w W.heap.size e ∧ 0 ≤ e.id
theorem Md.next {W w w' : World} {b n c : Nat} {A : Option Addr} {v : Value} {es : List En} (h : Md W b A n c v es w) (hn : Nm w' b A n c ∧ w.grownBy w' (some b)) : Md W b A n c v es w' := by
  obtain ⟨K, hK, hb⟩ := h.st.nm
  exact ⟨h.st.next hn, h.own.kept hn.2 (.inr (fun e => own_ne h.own hb (show (54 : TypeId) ≠ 63 by decide) e.symm)),
    fun e he => ⟨(h.items e he).1.kept hn.2 (fun g hg => ⟨_, _, by injection hg with hg; subst hg; exact hb, by decide⟩), (h.items e he).2⟩⟩
/-- One entry more. -/
theorem Md.add {W w w' : World} {b n c : Nat} {A : Option Addr} {v v' : Value} {es : List En} (h : Md W b A n c v es w) (e : En) (hi : Items w W.heap.size e) (h0 : 0 ≤ e.id)
    (ho : w'.ownsRow W.heap.size 54 7 v' (es.length + 1) (es.flatMap En.cells ++ e.cells)) (hg : (w.alloc (.cells e.cells.toArray 54)).grownBy w' v.ownBlock) : Md W b A n c v' (es ++ [e]) w' := by
  have ha : w.grownBy (w.alloc (.cells e.cells.toArray 54)) none := World.grownBy_alloc w _ none
  have ow := World.ownsRow.alloc h.own (.cells e.cells.toArray 54)
  have sa := (h.st.alloc e.cells.toArray 54).drop (L' := []) (fun p hp => by cases hp)
  refine ⟨sa.append ow hg (fun p hp => by cases hp) (by decide), ?_, fun f hf => ?_⟩
  · unfold OwnE
    rw [List.flatMap_append, List.length_append]
    simpa using ho
  · have key : ∀ f, Items w W.heap.size f → Items w' W.heap.size f := fun f hf => by
      have h1 := hf.kept ha (fun g hg => by cases hg)
      refine h1.kept hg (fun g hg' => ?_)
      rcases ow.2 with ⟨rfl, _⟩ | ⟨g', cap, cur, rfl, _, hh, _⟩
      · simp [Value.ownBlock] at hg'
      · simp [Value.ownBlock] at hg'
        subst hg'
        exact ⟨cur, _, hh, by decide⟩
    rcases List.mem_append.1 hf with hf | hf
    · exact ⟨key f (h.items f hf).1, (h.items f hf).2⟩
    · obtain rfl : f = e := by simpa using hf
      exact ⟨key f hi, h0⟩
end Go.Proofs.Ytbpehdpcnnaidaa.Ac
