/-
  Five rows of the call's own that lie apart; append onto one of them; worlds as such rows.
-/
import Derived.Test.YtbpehdpcnnaidaaDoorWo
import Derived.Test.YtbpehdpcnnaidaaDoorRs
import Derived.Maps.AppendAt
import Derived.Deep.RegionLaw
import Derived.Deep.RegionHeld3
namespace Go.Proofs.YtbpehdpcnnaidaaDoor.Ac
open Go Go.RowKit Va

theorem infoV : (Tryd.prog.info? 52).map (fun i => (i.zero, i.size, i.bytes)) = some (some (.agg #[.int .i64 0, .int .i64 0, .string ⟨#[]⟩]), 3, 32) := by kernel_rfl
theorem own_ne {w : World} {base : Nat} {e : TypeId} {size n : Nat} {v : Value} {xs : List Value} {g : Nat} {cs : Array Value} {T : TypeId} (h : w.ownsRow base e size v n xs) (hg : Bk w g cs T) (hne : e ≠ T) : some g ≠ v.ownBlock := by
  rcases h.2 with ⟨rfl, _⟩ | ⟨g', cap, cur, rfl, _, hh, _⟩
  · simp [Value.ownBlock]
  · intro he
    have : g = g' := by simpa [Value.ownBlock] using he
    subst this
    unfold Bk at hg
    rw [hg] at hh
    injection hh with hh
    injection hh with _ ht
    exact hne ht.symm
/-- A row: its element type, cells an element, slice, length, cells. -/
structure Row where
  e : TypeId
  size : Nat
  v : Value
  n : Nat
  xs : List Value
def Row.ok (r : Row) (w : World) (base : Nat) : Prop := w.ownsRow base r.e r.size r.v r.n r.xs
theorem ownsRow_base {w : World} {base base' : Nat} {e : TypeId} {size n : Nat} {v : Value} {xs : List Value} (h : w.ownsRow base e size v n xs) (hb : base' ≤ base) : w.ownsRow base' e size v n xs := by
  refine ⟨h.1, ?_⟩
  rcases h.2 with h | ⟨g, cap, cur, e, h1, h2⟩
  · exact .inl h
  · exact .inr ⟨g, cap, cur, e, by omega, h2⟩
structure Rows5 (r : Nat → Row) (w : World) (base : Nat) : Prop where
  own : ∀ k, k < 5 → (r k).ok w base
  apart : ∀ j k, j < 5 → k < 5 → j ≠ k → ∀ b, (r j).v.ownBlock = some b → (r k).v.ownBlock ≠ some b
def upd (r : Nat → Row) (k : Nat) (x : Row) : Nat → Row := fun j => if j = k then x else r j
theorem Rows5.base {r : Nat → Row} {w : World} {base base' : Nat} (h : Rows5 r w base) (hb : base' ≤ base) : Rows5 r w base' := ⟨fun k hk => ownsRow_base (h.own k hk) hb, h.apart⟩
theorem kept_ne {w w' : World} {base : Nat} {e : TypeId} {size n : Nat} {v : Value} {xs : List Value} {row : Option Nat} (h : w.ownsRow base e size v n xs) (hg : w.grownBy w' row) (hne : ∀ b, row = some b → v.ownBlock ≠ some b) : w'.ownsRow base e size v n xs := by
  refine h.kept hg ?_
  cases hv : v.ownBlock with
  | none => exact .inl rfl
  | some g => exact .inr (fun e => hne g e.symm hv)
theorem Rows5.other {r : Nat → Row} {w w' : World} {base : Nat} {row : Option Nat} (h : Rows5 r w base) (hg : w.grownBy w' row) (hne : ∀ k, k < 5 → ∀ b, row = some b → (r k).v.ownBlock ≠ some b) : Rows5 r w' base :=
  ⟨fun k hk => kept_ne (h.own k hk) hg (hne k hk), h.apart⟩
theorem Rows5.quiet {r : Nat → Row} {w w' : World} {base : Nat} (h : Rows5 r w base) (hg : w.grownBy w' none) : Rows5 r w' base := h.other hg (fun _ _ _ e => by cases e)
theorem Rows5.below {r : Nat → Row} {w w' : World} {base : Nat} (h : Rows5 r w base) (hb : Below w.heap.size w w') : Rows5 r w' base :=
  h.quiet ⟨hb.os, hb.tape, hb.output, hb.size, fun i hi _ => hb.block i hi⟩
theorem Rows5.alloc {r : Nat → Row} {w : World} {base : Nat} (h : Rows5 r w base) (o : Obj) : Rows5 r (w.alloc o) base := h.quiet (World.grownBy_alloc w o none)
theorem Rows5.drewN {r : Nat → Row} {w : World} {base : Nat} (h : Rows5 r w base) (k : Nat) : Rows5 r (w.drewN k) base := ⟨fun j hj => h.own j hj, h.apart⟩
theorem Rows5.drew {r : Nat → Row} {w : World} {base : Nat} (h : Rows5 r w base) : Rows5 r w.drew base := h.drewN 1
/-- A block of another type is none of the rows. -/
theorem Rows5.bk {r : Nat → Row} {w w' : World} {base g : Nat} {cs : Array Value} {T : TypeId} (h : Rows5 r w base) (hg : Bk w g cs T) (hT : ∀ k, k < 5 → (r k).e ≠ T) (hgr : w.grownBy w' (some g)) : Rows5 r w' base :=
  h.other hgr (fun k hk b e => by cases e; exact fun e' => own_ne (h.own k hk) hg (hT k hk) e'.symm)
theorem grownBy_set (w : World) (g i : Nat) (u : Value) : w.grownBy (w.setCell ⟨g, i, none⟩ u) (some g) :=
  ⟨rfl, rfl, rfl, by simp [World.setCell], fun k _ h => Below.heap_setCell w _ u k (fun e => h (by rw [e]))⟩
theorem Rows5.lt {r : Nat → Row} {w : World} {base : Nat} (h : Rows5 r w base) (k : Nat) (hk : k < 5) (b : Nat) (hb : (r k).v.ownBlock = some b) : b < w.heap.size := ((h.own k hk).lt b hb).2
theorem Rows5.next {r : Nat → Row} {w w' : World} {base : Nat} (h : Rows5 r w base) (k : Nat) (hk : k < 5) (x : Row) (hg : w.grownBy w' (r k).v.ownBlock) (ho : x.ok w' base) (hx : x.v.ownBlock = (r k).v.ownBlock ∨ x.v.ownBlock = some w.heap.size) : Rows5 (upd r k x) w' base := by
  refine ⟨fun j hj => ?_, fun j i hj hi hne b hb => ?_⟩
  · unfold upd
    by_cases e : j = k
    · rw [if_pos e]; exact ho
    · rw [if_neg e]; exact kept_ne (h.own j hj) hg (fun b hb hb' => h.apart k j hk hj (fun e' => e e'.symm) b hb hb')
  · unfold upd at hb ⊢
    by_cases e : j = k
    · rw [if_pos e] at hb
      rw [if_neg (by omega)]
      subst e
      intro hi'
      rcases hx with hx | hx
      · exact h.apart j i hj hi hne b (hx.symm.trans hb) hi'
      · have := h.lt i hi b hi'
        rw [hx] at hb; injection hb with hb; omega
    · rw [if_neg e] at hb
      by_cases e2 : i = k
      · subst e2
        rw [if_pos rfl]
        intro hi'
        rcases hx with hx | hx
        · exact h.apart j i hj hi hne b hb (hx.symm.trans hi')
        · have := h.lt j hj b hb
          rw [hx] at hi'; injection hi' with hi'; omega
      · rw [if_neg e2]; exact h.apart j i hj hi hne b hb
theorem Rows5.congr {r r' : Nat → Row} {w : World} {base : Nat} (h : Rows5 r w base) (he : ∀ k, k < 5 → r k = r' k) : Rows5 r' w base :=
  ⟨fun k hk => by rw [← he k hk]; exact h.own k hk, fun j k hj hk hne b => by rw [← he j hj, ← he k hk]; exact h.apart j k hj hk hne b⟩
/-- The cells of a value. -/
def vcells (v : V3) : List Value := [.int .i64 v.1, .int .i64 v.2.1, .string v.2.2]
def valRow (v : Value) (vs : List V3) : Row := ⟨52, 3, v, vs.length, vs.flatMap vcells⟩
def intRow (v : Value) (zs : List Int) : Row := ⟨3, 1, v, zs.length, zs.map (Value.int .i64)⟩
def rowsOf (d : Wd) : Nat → Row
  | 0 => valRow (.slice d.iA d.vs.length d.ic) d.vs
  | 1 => intRow (.slice d.cA d.cs.length d.cc) d.cs
  | 2 => intRow (.slice d.hA d.hs.length d.hc) d.hs
  | 3 => intRow (.slice d.fA d.fs.length d.fc) d.fs
  | _ => intRow (.slice d.lA d.ls.length d.lc) d.ls
theorem rowsOf_ne (d : Wd) (k : Nat) : (rowsOf d k).e = 52 ∨ (rowsOf d k).e = 3 := by
  rcases k with _ | _ | _ | _ | k
  · exact .inl rfl
  · exact .inr rfl
  · exact .inr rfl
  · exact .inr rfl
  · exact .inr rfl
theorem rowsOf_T (d : Wd) (T : TypeId) (h1 : (52 : TypeId) ≠ T) (h2 : (3 : TypeId) ≠ T) (k : Nat) : (rowsOf d k).e ≠ T := by
  rcases rowsOf_ne d k with h | h
  · rw [h]; exact h1
  · rw [h]; exact h2
theorem vcells_len (vs : List V3) : (vs.flatMap vcells).length = vs.length * 3 := by
  induction vs with
  | nil => rfl
  | cons v vs ih => rw [List.flatMap_cons, List.length_append, ih, List.length_cons]; show 3 + _ = _; omega
theorem vcells_get (vs : List V3) (j i : Nat) (v : V3) (u : Value) (hv : vs[j]? = some v) (hu : (vcells v)[i]? = some u) : (vs.flatMap vcells)[j * 3 + i]? = some u := by
  induction vs generalizing j with
  | nil => simp at hv
  | cons x xs ih =>
    have hi : i < 3 := (List.getElem?_eq_some_iff.1 hu).1
    rw [List.flatMap_cons]
    rcases j with _ | j
    · injection hv with hv
      subst hv
      rw [Nat.zero_mul, Nat.zero_add, List.getElem?_append_left (show i < 3 from hi)]; exact hu
    · rw [List.getElem?_append_right (show 3 ≤ (j + 1) * 3 + i by omega)]
      have := ih j (by simpa using hv)
      rw [show (j + 1) * 3 + i - (vcells x).length = j * 3 + i by show (j + 1) * 3 + i - 3 = _; omega]
      exact this
theorem add_lit (g j : Nat) : (⟨g, 0, none⟩ : Addr).add j = ⟨g, j, none⟩ := by unfold Addr.add; split <;> simp_all
theorem ownV_sv {w : World} {base : Nat} {A : Option Addr} {c : Nat} {vs : List V3} (h : w.ownsRow base 52 3 (.slice A vs.length c) vs.length (vs.flatMap vcells)) (hs : ∀ v ∈ vs, v.2.2.size ≤ 1000) : Sv w w.heap.size A vs := fun j v hv => by
  refine ⟨hs v (List.mem_of_getElem? hv), ?_⟩
  rcases h.2 with ⟨h', h0⟩ | ⟨g, cap, cur, h', _, hg, _⟩
  · have : vs = [] := List.eq_nil_of_length_eq_zero h0
    subst this; simp at hv
  · injection h' with h1 h2 h3
    subst h1 h3
    have hj : j < vs.length := (List.getElem?_eq_some_iff.1 hv).1
    refine ⟨g, rfl, (Array.getElem?_eq_some_iff.1 hg).1, ?_, ?_, ?_⟩
    · rw [World.ownsRow.cellAt h (j * 3) (by omega)]; exact vcells_get vs j 0 v _ hv rfl
    · rw [World.ownsRow.cellAt h (j * 3 + 1) (by omega)]; exact vcells_get vs j 1 v _ hv rfl
    · rw [World.ownsRow.cellAt h (j * 3 + 2) (by omega)]; exact vcells_get vs j 2 v _ hv rfl
theorem ownI_sl {w : World} {base : Nat} {A : Option Addr} {c : Nat} {zs : List Int} (h : w.ownsRow base 3 1 (.slice A zs.length c) zs.length (zs.map (Value.int .i64))) : Sl w w.heap.size A zs := by
  obtain ⟨A', c', e, hs⟩ := OwnI.form (v := .slice A zs.length c) h
  injection e with e1 e2 e3
  subst e1; exact hs
/-- What a world of rows is. -/
structure Wd.Ok (d : Wd) (w : World) (base K : Nat) : Prop where
  rows : Rows5 (rowsOf d) w base
  small : ∀ v ∈ d.vs, v.2.2.size ≤ 1000
  n : d.vs.length ≤ K ∧ d.cs.length ≤ K ∧ d.hs.length ≤ K ∧ d.fs.length ≤ K ∧ d.ls.length ≤ K
  one : 1 ≤ d.fs.length ∧ 1 ≤ d.ls.length
theorem Wd.Ok.reads {d : Wd} {w : World} {base K : Nat} (h : d.Ok w base K) (hK : K ≤ 100000) : d.Reads w w.heap.size :=
  ⟨ownV_sv (h.rows.own 0 (by omega)) h.small, ownI_sl (h.rows.own 1 (by omega)), ownI_sl (h.rows.own 2 (by omega)), ownI_sl (h.rows.own 3 (by omega)), ownI_sl (h.rows.own 4 (by omega)), by have := h.n; omega⟩
theorem Wd.Ok.below {d : Wd} {w w' : World} {base K : Nat} (h : d.Ok w base K) (hb : Below w.heap.size w w') : d.Ok w' base K := ⟨h.rows.below hb, h.small, h.n, h.one⟩
/-- append onto a row of the call's own: where the new row lies. -/
theorem wp_append_at {P : Program} {w : World} {o : Oper} {a : Act} {K : Act → World → Prop} {Q : Exit → Act → World → Prop} (s x : Operand) (t : TypeId)
    (ho : o.op = .call { callee := .builtin .append, args := #[s, x], argTypes := #[t, t] })
    (base : Nat) (e : TypeId) (i : TypeInfo) (z : Value) (size bytes : Nat) (ht : P.underlying t = some (.slice e)) (hi : P.info? e = some i) (hz : i.zero = some z)
    (hsize : i.size = size) (hby : i.bytes = bytes) (hzs : z.cells.size = size) (hsz : 0 < size)
    (v : Value) (n : Nat) (xs : List Value) (hs : a.eval s = v) (hown : w.ownsRow base e size v n xs)
    (ad : Addr) (m c : Nat) (news : List Value) (hx : a.eval x = .slice (some ad) m c) (hl : news.length = m * size) (hnews : ∀ j u, news[j]? = some u → w.cell? (ad.add j) = some u) (h1 : ∀ u ∈ news, u.oneCell' = true)
    (h63 : n + m ≤ maxLen) (hbytes : (n + m) * bytes ≤ 140737488355328) (hbase : base ≤ w.heap.size)
    (h : ∀ A' c' w', w'.ownsRow base e size (.slice A' (n + m) c') (n + m) (xs ++ news) → w.grownBy w' v.ownBlock → ((Value.slice A' (n + m) c').ownBlock = v.ownBlock ∨ (Value.slice A' (n + m) c').ownBlock = some w.heap.size) → K (a.put o.dst (.slice A' (n + m) c')) w') : o.wp P a w K Q := by
  obtain ⟨v', w', hr, h2, h3, _, h5⟩ := run_append_own_at (P := P) w base t o.type e i z size bytes ht hi hz hsize hby hzs hsz v n xs hown ad m c news hl hnews h1 h63 hbytes hbase
  have hf : ∃ A' c', v' = .slice A' (n + m) c' := by
    rcases h2.2 with ⟨rfl, h0⟩ | ⟨g, cap, cur, rfl, _⟩
    · exact ⟨none, 0, by rw [h0]⟩
    · exact ⟨_, _, rfl⟩
  obtain ⟨A', c', rfl⟩ := hf
  have hk := h A' c' w' h2 h3 h5
  unfold Oper.wp execOp
  simp only [ho, resolve, invoke, builtin, Sem.run_bind, Sem.run_pure, Result.andThen_ok, List.map_toArray, List.map_cons, List.map_nil, hs, hx, hr]
  exact hk
theorem step_append_at {P : Program} {w : World} {ops : Array Oper} {o : Oper} {a : Act} {K : Act → World → Prop} {Q : Exit → Act → World → Prop} {E : Prop} (hgd : o.guard = none) (s x : Operand) (t : TypeId)
    (ho : o.op = .call { callee := .builtin .append, args := #[s, x], argTypes := #[t, t] })
    (base : Nat) (e : TypeId) (i : TypeInfo) (z : Value) (size bytes : Nat) (ht : P.underlying t = some (.slice e)) (hi : P.info? e = some i) (hz : i.zero = some z)
    (hsize : i.size = size) (hby : i.bytes = bytes) (hzs : z.cells.size = size) (hsz : 0 < size)
    (v : Value) (n : Nat) (xs : List Value) (hs : a.eval s = v) (hown : w.ownsRow base e size v n xs)
    (ad : Addr) (m c : Nat) (news : List Value) (hx : a.eval x = .slice (some ad) m c) (hl : news.length = m * size) (hnews : ∀ j u, news[j]? = some u → w.cell? (ad.add j) = some u) (h1 : ∀ u ∈ news, u.oneCell' = true)
    (h63 : n + m ≤ maxLen) (hbytes : (n + m) * bytes ≤ 140737488355328) (hbase : base ≤ w.heap.size)
    (h : ∀ A' c' w', w'.ownsRow base e size (.slice A' (n + m) c') (n + m) (xs ++ news) → w.grownBy w' v.ownBlock → ((Value.slice A' (n + m) c').ownBlock = v.ownBlock ∨ (Value.slice A' (n + m) c').ownBlock = some w.heap.size) → K (a.put o.dst (.slice A' (n + m) c')) w') :
    if Region.wanted o (yielded ops a.tmps) = true then Oper.wp P o a w K Q else E := by
  have hw : Region.wanted o (yielded ops a.tmps) = true := by simp [Region.wanted, hgd]
  rw [if_pos hw]
  exact wp_append_at s x t ho base e i z size bytes ht hi hz hsize hby hzs hsz v n xs hs hown ad m c news hx hl hnews h1 h63 hbytes hbase h
theorem list_append_at {P : Program} {w : World} {ops : Array Oper} {rest : List Oper} {o : Oper} {a : Act} {Q : Exit → Act → World → Prop} (hgd : o.guard = none) (s x : Operand) (t : TypeId)
    (ho : o.op = .call { callee := .builtin .append, args := #[s, x], argTypes := #[t, t] })
    (base : Nat) (e : TypeId) (i : TypeInfo) (z : Value) (size bytes : Nat) (ht : P.underlying t = some (.slice e)) (hi : P.info? e = some i) (hz : i.zero = some z)
    (hsize : i.size = size) (hby : i.bytes = bytes) (hzs : z.cells.size = size) (hsz : 0 < size)
    (v : Value) (n : Nat) (xs : List Value) (hs : a.eval s = v) (hown : w.ownsRow base e size v n xs)
    (ad : Addr) (m c : Nat) (news : List Value) (hx : a.eval x = .slice (some ad) m c) (hl : news.length = m * size) (hnews : ∀ j u, news[j]? = some u → w.cell? (ad.add j) = some u) (h1 : ∀ u ∈ news, u.oneCell' = true)
    (h63 : n + m ≤ maxLen) (hbytes : (n + m) * bytes ≤ 140737488355328) (hbase : base ≤ w.heap.size)
    (h : ∀ A' c' w', w'.ownsRow base e size (.slice A' (n + m) c') (n + m) (xs ++ news) → w.grownBy w' v.ownBlock → ((Value.slice A' (n + m) c').ownBlock = v.ownBlock ∨ (Value.slice A' (n + m) c').ownBlock = some w.heap.size) → wpList P ops Q rest (a.put o.dst (.slice A' (n + m) c')) w') : wpList P ops Q (o :: rest) a w :=
  wpList_plain hgd fun _ hK => wp_append_at s x t ho base e i z size bytes ht hi hz hsize hby hzs hsz v n xs hs hown ad m c news hx hl hnews h1 h63 hbytes hbase fun A' c' w' h2 h3 h4 => hK _ _ (h A' c' w' h2 h3 h4)
end Go.Proofs.YtbpehdpcnnaidaaDoor.Ac
