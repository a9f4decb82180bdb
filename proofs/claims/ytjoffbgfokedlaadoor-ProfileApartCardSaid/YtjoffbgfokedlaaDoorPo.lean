/-
  Acts and bytes that are read; the arguments of the laws of layer 14, opened.
-/
import Derived.Test.YtjoffbgfokedlaaDoorPs
import Derived.ChangeSlices
import Derived.ChangeSame
import Derived.WideShapes
import Derived.ProofKit
import Derived.SizedLaws
import Derived.Carry
import Derived.Lib.SmallJoins
import Derived.Deep.Slices
import Derived.Deep.Strs
import Derived.OpenShut
namespace Go.Proofs.YtjoffbgfokedlaaDoor.Pf
open Go Go.RowKit Go.ChangeShapes Go.WideShapes Go.ChangeAt Go.Deep Go.Joins

/-- A call by numbers. -/
structure Act where
  what : Int
  a : Int
  b : Int
def Act.OK (x : Act) : Prop := I64 x.what ∧ I64 x.a ∧ I64 x.b
/-- A slice of acts that is read. -/
def ActS (w : World) (B : Nat) (A : Option Addr) (l : List Act) : Prop :=
  ∀ j x, l[j]? = some x → ∃ b o, A = some ⟨b, o, none⟩ ∧ b < B ∧ w.cell? ⟨b, o + j * 3, none⟩ = some (.int .i64 x.what) ∧ w.cell? ⟨b, o + j * 3 + 1, none⟩ = some (.int .i64 x.a) ∧
    w.cell? ⟨b, o + j * 3 + 2, none⟩ = some (.int .i64 x.b)
theorem ActS.below {w w' : World} {B C : Nat} {A : Option Addr} {l : List Act} (h : ActS w B A l) (hb : Below C w w') (hB : B ≤ C) : ActS w' B A l := fun j x hx => by
  obtain ⟨b, o, rfl, hlt, h0, h1, h2⟩ := h j x hx
  refine ⟨b, o, rfl, hlt, ?_, ?_, ?_⟩
  · rw [hb.cell (by show b < C; omega)]; exact h0
  · rw [hb.cell (by show b < C; omega)]; exact h1
  · rw [hb.cell (by show b < C; omega)]; exact h2
/-- A slice of bytes that is read. -/
def ByS (w : World) (B : Nat) (A : Option Addr) (l : List Int) : Prop :=
  ∀ j x, l[j]? = some x → ∃ b o, A = some ⟨b, o, none⟩ ∧ b < B ∧ w.cell? ⟨b, o + j, none⟩ = some (.int .u8 x)
theorem ByS.below {w w' : World} {B C : Nat} {A : Option Addr} {l : List Int} (h : ByS w B A l) (hb : Below C w w') (hB : B ≤ C) : ByS w' B A l := fun j x hx => by
  obtain ⟨b, o, rfl, hlt, h0⟩ := h j x hx
  exact ⟨b, o, rfl, hlt, by rw [hb.cell (by show b < C; omega)]; exact h0⟩
theorem blkAdd (a : Addr) (j : Nat) : (a.add j).block = a.block := by unfold Addr.add; split <;> rfl
theorem wf_u8 {n : Int} (h : (Lit.int .u8 n).wf = true) : 0 ≤ n ∧ n ≤ 255 := by
  simp [Lit.wf] at h; have h1 : IntKind.u8.min = 0 := rfl; rw [h1] at h; exact h
theorem wf_i64 {n : Int} (h : (Lit.int .i64 n).wf = true) : I64 n := by
  simp [Lit.wf] at h; have h1 : IntKind.i64.min = -9223372036854775808 := rfl; rw [h1] at h; exact h
theorem block_lt {w : World} {a : Addr} {v : Value} (h : w.cell? a = some v) : a.block < w.heap.size := by
  rcases Nat.lt_or_ge a.block w.heap.size with h1 | h1
  · exact h1
  · unfold World.cell? at h; rw [Array.getElem?_eq_none h1] at h; simp at h
theorem spot_none {w : World} {a : Addr} {v : Value} (h : w.cell? a = some v) : a = ⟨a.block, a.off, none⟩ := by
  obtain ⟨b, o, s⟩ := a
  cases s with
  | none => rfl
  | some x =>
    exfalso
    unfold World.cell? at h
    split at h <;> simp at h
theorem add_flat0 {a : Addr} (h : a = ⟨a.block, a.off, none⟩) (q : Nat) : a.add q = ⟨a.block, a.off + q, none⟩ := by
  unfold Addr.add
  split
  · rename_i e; rw [e, Nat.add_zero]; exact h
  · rfl
theorem laidOut : laidOutB Tryd.prog = true := by kernel_rfl
theorem cellsI : Tryd.prog.cellsOf 3 = 1 := by kernel_rfl
theorem cellsA : Tryd.prog.cellsOf 32 = 3 := by kernel_rfl
theorem bytesA : Tryd.prog.bytesOf 32 = 24 := by kernel_rfl
section
variable {H : Type} {enc : TypeId × Value → H} {W : World}
set_option maxRecDepth 100000 in
/-- A slice of acts that came in, nil or not. -/
theorem open_acts {r : Reach} {b0 : Nat} {v : Value} {d : DataW H} {p : List MemPlace} {ts : List TypeId} {ds : List (DataW H)} (hv : Value.okWide Tryd.prog W r b0 24 v)
    (h0 : DataW.Trod enc Tryd.prog W 0 (fun _ => true) true 24 v d p) (hs : (DataW.weightsEach Tryd.prog ts ds).all (· ≤ reachBytes) = true) {j : Nat} (ht : ts[j]? = some 24) (hd : ds[j]? = some d) :
    ∃ (A : Option Addr) (acts : List Act) (c : Nat), v = .slice A acts.length c ∧ ActS W W.heap.size A acts ∧ acts.length ≤ 5864062014634 ∧ ∀ x ∈ acts, x.OK := by
  obtain ⟨A, len, cap, rfl⟩ := okWide_slice Tryd.underlying24 hv
  obtain ⟨fuel, hf⟩ := h0
  rcases open_slice Tryd.underlying24 hf with ⟨hcs, hx⟩ | ⟨a, len', cap', m, n, D, Pl, hcs, _, hl, hm, hmm, hx, hi⟩
  · simp [Value.cells] at hcs
    obtain ⟨rfl, rfl, rfl⟩ := hcs
    exact ⟨none, [], 0, rfl, fun j x h => by simp at h, by simp, fun x hx => by cases hx⟩
  · simp [Value.cells] at hcs
    obtain ⟨rfl, rfl, rfl⟩ := hcs
    simp only [Prod.mk.injEq] at hx
    obtain ⟨rfl, rfl⟩ := hx
    simp only [if_true] at hmm
    have hb := sized_slice hs ht hd Tryd.underlying24
    rw [bytesA] at hb
    simp only [List.length_map, List.length_range] at hb
    have hr : reachBytes = 140737488351232 := rfl
    have sp : 0 < m → a = ⟨a.block, a.off, none⟩ := fun h0 => by
      obtain ⟨cs', hc, _⟩ := hi 0 h0
      rw [cellsA] at hc
      obtain ⟨_, hcl, hat⟩ := World.cells?_some hc
      have c0 := hat 0 (by omega)
      rw [Nat.zero_mul, Go.Deep.add_add, Nat.add_zero] at c0
      have e : a.add 0 = a := by unfold Addr.add; rw [if_pos rfl]
      rw [e, List.getElem?_eq_getElem (by omega)] at c0
      exact spot_none c0
    have key : ∀ i, i < m → ∃ x : Act, x.OK ∧ a = ⟨a.block, a.off, none⟩ ∧ a.block < W.heap.size ∧ W.cell? ⟨a.block, a.off + i * 3, none⟩ = some (.int .i64 x.what) ∧ W.cell? ⟨a.block, a.off + i * 3 + 1, none⟩ = some (.int .i64 x.a) ∧
        W.cell? ⟨a.block, a.off + i * 3 + 2, none⟩ = some (.int .i64 x.b) := fun i him => by
      obtain ⟨cs', hc, ht'⟩ := hi i him
      rw [cellsA] at hc
      obtain ⟨_, hcl, hat⟩ := World.cells?_some hc
      obtain ⟨y0, y1, y2, n', _, _, t0, t1, t2⟩ := trod_struct3 Tryd.underlying32 ht'
      match cs', hcl with
      | [v0, v1, v2], _ =>
        simp [cellsI] at t0 t1 t2
        obtain ⟨k0, e0, _, w0⟩ := DataW.trod_int Tryd.underlying3 t0
        obtain ⟨k1, e1, _, w1⟩ := DataW.trod_int Tryd.underlying3 t1
        obtain ⟨k2, e2, _, w2⟩ := DataW.trod_int Tryd.underlying3 t2
        simp at e0 e1 e2
        subst e0 e1 e2
        have c0 := hat 0 (by omega)
        have c1 := hat 1 (by omega)
        have c2 := hat 2 (by omega)
        simp only [List.getElem?_cons_zero, List.getElem?_cons_succ, Go.Deep.add_add] at c0 c1 c2
        have sp := sp (by omega)
        have bl := block_lt c0
        rw [blkAdd] at bl
        rw [add_flat0 sp] at c0 c1 c2
        exact ⟨⟨k0, k1, k2⟩, ⟨wf_i64 w0, wf_i64 w1, wf_i64 w2⟩, sp, bl, c0, c1, c2⟩
    have hlen : ((List.range len).map fun i => if h : i < m then (key i h).choose else ⟨0, 0, 0⟩).length = len := by rw [List.length_map, List.length_range]
    refine ⟨some a, (List.range len).map fun i => if h : i < m then (key i h).choose else ⟨0, 0, 0⟩, cap, by rw [hlen], fun i z hz => ?_, by rw [hlen]; rw [hr] at hb; omega, fun x hx => ?_⟩
    · have hil : i < len := by have := (List.getElem?_eq_some_iff.1 hz).1; omega
      have him : i < m := by omega
      rw [List.getElem?_map, List.getElem?_range hil] at hz
      simp only [Option.map_some, dif_pos him, Option.some.injEq] at hz
      obtain ⟨_, h2, h3, h4, h5, h6⟩ := (key i him).choose_spec
      rw [hz] at h4 h5 h6
      exact ⟨a.block, a.off, congrArg some h2, h3, h4, h5, h6⟩
    · obtain ⟨i, hi', rfl⟩ := List.mem_map.1 hx
      rw [List.mem_range] at hi'
      have him : i < m := by omega
      rw [dif_pos him]
      exact (key i him).choose_spec.1
end
theorem cellsB : Tryd.prog.cellsOf 5 = 1 := by kernel_rfl
theorem bytesB : Tryd.prog.bytesOf 5 = 1 := by kernel_rfl
section
variable {H : Type} {enc : TypeId × Value → H} {W : World}
set_option maxRecDepth 100000 in
/-- A slice of bytes that came in, nil or not. -/
theorem open_bytes {r : Reach} {b0 : Nat} {v : Value} {d : DataW H} {p : List MemPlace} {ts : List TypeId} {ds : List (DataW H)} (hv : Value.okWide Tryd.prog W r b0 58 v)
    (h0 : DataW.Trod enc Tryd.prog W 0 (fun _ => true) true 58 v d p) (hs : (DataW.weightsEach Tryd.prog ts ds).all (· ≤ reachBytes) = true) {j : Nat} (ht : ts[j]? = some 58) (hd : ds[j]? = some d) :
    ∃ (A : Option Addr) (bs : List Int) (c : Nat), v = .slice A bs.length c ∧ ByS W W.heap.size A bs ∧ bs.length ≤ 140737488351232 ∧ bs.length ≤ c ∧ (A = none → c = 0) ∧ ∀ x ∈ bs, 0 ≤ x ∧ x ≤ 255 := by
  obtain ⟨A, len, cap, rfl⟩ := okWide_slice Tryd.underlying58 hv
  obtain ⟨fuel, hf⟩ := h0
  rcases open_slice Tryd.underlying58 hf with ⟨hcs, hx⟩ | ⟨a, len', cap', m, n, D, Pl, hcs, _, hl, hm, hmm, hx, hi⟩
  · simp [Value.cells] at hcs
    obtain ⟨rfl, rfl, rfl⟩ := hcs
    exact ⟨none, [], 0, rfl, fun j x h => by simp at h, by simp, by simp, fun _ => rfl, fun x hx => by cases hx⟩
  · simp [Value.cells] at hcs
    obtain ⟨rfl, rfl, rfl⟩ := hcs
    simp only [Prod.mk.injEq] at hx
    obtain ⟨rfl, rfl⟩ := hx
    simp only [if_true] at hmm
    have hb := sized_slice hs ht hd Tryd.underlying58
    rw [bytesB] at hb
    simp only [List.length_map, List.length_range] at hb
    have hr : reachBytes = 140737488351232 := rfl
    have sp : 0 < m → a = ⟨a.block, a.off, none⟩ := fun h0 => by
      obtain ⟨cs', hc, _⟩ := hi 0 h0
      rw [cellsB] at hc
      obtain ⟨_, hcl, hat⟩ := World.cells?_some hc
      have c0 := hat 0 (by omega)
      rw [Nat.zero_mul, Go.Deep.add_add, Nat.add_zero] at c0
      have e : a.add 0 = a := by unfold Addr.add; rw [if_pos rfl]
      rw [e, List.getElem?_eq_getElem (by omega)] at c0
      exact spot_none c0
    have key : ∀ i, i < m → ∃ x : Int, (0 ≤ x ∧ x ≤ 255) ∧ a = ⟨a.block, a.off, none⟩ ∧ a.block < W.heap.size ∧ W.cell? ⟨a.block, a.off + i, none⟩ = some (.int .u8 x) := fun i him => by
      obtain ⟨cs', hc, ht'⟩ := hi i him
      rw [cellsB] at hc
      obtain ⟨_, hcl, hat⟩ := World.cells?_some hc
      match cs', hcl with
      | [v0], _ =>
        obtain ⟨k0, e0, _, w0⟩ := DataW.trod_int Tryd.underlying5 ht'
        simp at e0
        subst e0
        have c0 := hat 0 (by omega)
        simp only [List.getElem?_cons_zero, Go.Deep.add_add, Nat.mul_one, Nat.add_zero] at c0
        have sp := sp (by omega)
        have bl := block_lt c0
        rw [blkAdd] at bl
        rw [add_flat0 sp] at c0
        exact ⟨k0, wf_u8 w0, sp, bl, c0⟩
    have hlen : ((List.range len).map fun i => if h : i < m then (key i h).choose else 0).length = len := by rw [List.length_map, List.length_range]
    refine ⟨some a, (List.range len).map fun i => if h : i < m then (key i h).choose else 0, cap, by rw [hlen], fun i z hz => ?_, by rw [hlen]; rw [hr] at hb; omega, by rw [hlen]; exact hl, (fun e => by cases e), fun x hx => ?_⟩
    · have hil : i < len := by have := (List.getElem?_eq_some_iff.1 hz).1; omega
      have him : i < m := by omega
      rw [List.getElem?_map, List.getElem?_range hil] at hz
      simp only [Option.map_some, dif_pos him, Option.some.injEq] at hz
      obtain ⟨_, h2, h3, h4⟩ := (key i him).choose_spec
      rw [hz] at h4
      exact ⟨a.block, a.off, congrArg some h2, h3, h4⟩
    · obtain ⟨i, hi', rfl⟩ := List.mem_map.1 hx
      rw [List.mem_range] at hi'
      have him : i < m := by omega
      rw [dif_pos him]
      exact (key i him).choose_spec.1
end
theorem wf_u16 {n : Int} (h : (Lit.int .u16 n).wf = true) : 0 ≤ n ∧ n ≤ 65535 := by
  simp [Lit.wf] at h; have h1 : IntKind.u16.min = 0 := rfl; rw [h1] at h; exact h
section
variable {H : Type} {enc : TypeId × Value → H} {P : Program} {w : World} {base : Nat} {spare : Nat → Bool} {held : Bool}
theorem okWide_arr {r : Reach} {b0 : Nat} {t e : TypeId} {n : Nat} {v : Value} (ht : P.underlying t = some (.array n e)) (h : Value.okWide P w r b0 t v) : ∃ cs, v = .agg cs ∧ cs.size = P.cellsOf t := by
  simp only [Value.okWide, ht] at h
  obtain ⟨cs, h1, h2, _⟩ := h
  exact ⟨cs, h1, h2⟩
theorem open_arr2 {r : Reach} {b0 : Nat} {t e : TypeId} {k : IntKind} {v : Value} {d : DataW H} {ps : List MemPlace} (ht : P.underlying t = some (.array 2 e)) (he : P.underlying e = some (.int k)) (hc : P.cellsOf e = 1) (hC : P.cellsOf t = 2)
    (hv : Value.okWide P w r b0 t v) (hd : DataW.Trod enc P w base spare held t v d ps) :
    ∃ x y, v = .agg #[.int k x, .int k y] ∧ d = .agg [.lit (.int k x), .lit (.int k y)] ∧ ps = [] ∧ (Lit.int k x).wf = true ∧ (Lit.int k y).wf = true := by
  obtain ⟨cs, rfl, hsz⟩ := okWide_arr ht hv
  obtain ⟨c0, c1, rfl⟩ := array2 (hsz.trans hC)
  obtain ⟨fuel, hf⟩ := hd
  obtain ⟨xs, m, _, hx, _, hn, hel⟩ := DataW.trod_array ht hf
  obtain ⟨y0, y1, rfl⟩ : ∃ y0 y1, xs = [y0, y1] := by
    match xs, hn with
    | [y0, y1], _ => exact ⟨y0, y1, rfl⟩
  have h0 := hel 0 (by decide)
  have h1 := hel 1 (by decide)
  simp [Value.cells, hc] at h0 h1
  obtain ⟨a, ea, ha, wa⟩ := DataW.trod_int he h0
  obtain ⟨b, eb, hb, wb⟩ := DataW.trod_int he h1
  simp at ea eb
  subst ea eb ha hb
  simp at hx
  exact ⟨a, b, rfl, hx.1, hx.2, wa, wb⟩
theorem open_arr3 {r : Reach} {b0 : Nat} {t e : TypeId} {k : IntKind} {v : Value} {d : DataW H} {ps : List MemPlace} (ht : P.underlying t = some (.array 3 e)) (he : P.underlying e = some (.int k)) (hc : P.cellsOf e = 1) (hC : P.cellsOf t = 3)
    (hv : Value.okWide P w r b0 t v) (hd : DataW.Trod enc P w base spare held t v d ps) :
    ∃ x y z, v = .agg #[.int k x, .int k y, .int k z] ∧ d = .agg [.lit (.int k x), .lit (.int k y), .lit (.int k z)] ∧ ps = [] ∧ (Lit.int k x).wf = true ∧ (Lit.int k y).wf = true ∧ (Lit.int k z).wf = true := by
  obtain ⟨cs, rfl, hsz⟩ := okWide_arr ht hv
  obtain ⟨c0, c1, c2, rfl⟩ := array3 (hsz.trans hC)
  obtain ⟨fuel, hf⟩ := hd
  obtain ⟨xs, m, _, hx, _, hn, hel⟩ := DataW.trod_array ht hf
  obtain ⟨y0, y1, y2, rfl⟩ : ∃ y0 y1 y2, xs = [y0, y1, y2] := by
    match xs, hn with
    | [y0, y1, y2], _ => exact ⟨y0, y1, y2, rfl⟩
  have h0 := hel 0 (by decide)
  have h1 := hel 1 (by decide)
  have h2 := hel 2 (by decide)
  simp [Value.cells, hc] at h0 h1 h2
  obtain ⟨a, ea, ha, wa⟩ := DataW.trod_int he h0
  obtain ⟨b, eb, hb, wb⟩ := DataW.trod_int he h1
  obtain ⟨c, ec, hc', wc⟩ := DataW.trod_int he h2
  simp at ea eb ec
  subst ea eb ec ha hb hc'
  simp at hx
  exact ⟨a, b, c, rfl, hx.1, hx.2, wa, wb, wc⟩
theorem open_arr4 {r : Reach} {b0 : Nat} {t e : TypeId} {k : IntKind} {v : Value} {d : DataW H} {ps : List MemPlace} (ht : P.underlying t = some (.array 4 e)) (he : P.underlying e = some (.int k)) (hc : P.cellsOf e = 1) (hC : P.cellsOf t = 4)
    (hv : Value.okWide P w r b0 t v) (hd : DataW.Trod enc P w base spare held t v d ps) :
    ∃ x y z u, v = .agg #[.int k x, .int k y, .int k z, .int k u] ∧ d = .agg [.lit (.int k x), .lit (.int k y), .lit (.int k z), .lit (.int k u)] ∧ ps = [] ∧ (Lit.int k x).wf = true ∧ (Lit.int k y).wf = true ∧ (Lit.int k z).wf = true ∧ (Lit.int k u).wf = true := by
  obtain ⟨cs, rfl, hsz⟩ := okWide_arr ht hv
  obtain ⟨c0, c1, c2, c3, rfl⟩ := array4 (hsz.trans hC)
  obtain ⟨fuel, hf⟩ := hd
  obtain ⟨xs, m, _, hx, _, hn, hel⟩ := DataW.trod_array ht hf
  obtain ⟨y0, y1, y2, y3, rfl⟩ : ∃ y0 y1 y2 y3, xs = [y0, y1, y2, y3] := by
    match xs, hn with
    | [y0, y1, y2, y3], _ => exact ⟨y0, y1, y2, y3, rfl⟩
  have h0 := hel 0 (by decide)
  have h1 := hel 1 (by decide)
  have h2 := hel 2 (by decide)
  have h3 := hel 3 (by decide)
  simp [Value.cells, hc] at h0 h1 h2 h3
  obtain ⟨a, ea, ha, wa⟩ := DataW.trod_int he h0
  obtain ⟨b, eb, hb, wb⟩ := DataW.trod_int he h1
  obtain ⟨c, ec, hc', wc⟩ := DataW.trod_int he h2
  obtain ⟨g, eg, hg, wg⟩ := DataW.trod_int he h3
  simp at ea eb ec eg
  subst ea eb ec eg ha hb hc' hg
  simp at hx
  exact ⟨a, b, c, g, rfl, hx.1, hx.2, wa, wb, wc, wg⟩
end
end Go.Proofs.YtjoffbgfokedlaaDoor.Pf
