/-
  Arguments of the laws of layer 8, opened.
-/
import Derived.Test.YtjodmjadpooipaaGreatDoorSu
import Derived.ChangeSlices
import Derived.ChangeSame
import Derived.WideShapes
import Derived.ProofKit
import Derived.SizedLaws
import Derived.Carry
import Derived.Lib.SmallJoins
import Derived.Deep.Slices
import Derived.Deep.Strs
namespace Go.Proofs.YtjodmjadpooipaaGreatDoor.Sh
open Go Go.RowKit Go.ChangeShapes Go.WideShapes Go.Deep Go.Joins

theorem wf_i64 {n : Int} (h : (Lit.int .i64 n).wf = true) : I64 n := by
  simp [Lit.wf] at h; have h1 : IntKind.i64.min = -9223372036854775808 := rfl; rw [h1] at h; exact h
theorem block_lt {w : World} {a : Addr} {v : Value} (h : w.cell? a = some v) : a.block < w.heap.size := by
  rcases Nat.lt_or_ge a.block w.heap.size with h1 | h1
  · exact h1
  · unfold World.cell? at h; rw [Array.getElem?_eq_none h1] at h; simp at h
theorem spot_none {w : World} {a : Addr} {v : Value} (h : w.cell? a = some v) : a = ⟨a.block, a.off, none⟩ := by
  obtain ⟨b, o, s⟩ := a
  cases s with
  | none => rfl
  | some x =>
    exfalso
    unfold World.cell? at h
    split at h <;> simp at h
theorem add_flat0 {a : Addr} (h : a = ⟨a.block, a.off, none⟩) (q : Nat) : a.add q = ⟨a.block, a.off + q, none⟩ := by
  unfold Addr.add
  split
  · rename_i e; rw [e, Nat.add_zero]; exact h
  · rfl
theorem laidOut : laidOutB Tryz.prog = true := by kernel_rfl
theorem bytesS : Tryz.prog.bytesOf 9 = 16 := by kernel_rfl
theorem cellsS : Tryz.prog.cellsOf 9 = 1 := by kernel_rfl
theorem cellsI : Tryz.prog.cellsOf 3 = 1 := by kernel_rfl
theorem cellsA : Tryz.prog.cellsOf 35 = 4 := by kernel_rfl
theorem bytesA : Tryz.prog.bytesOf 35 = 32 := by kernel_rfl
section
variable {H : Type} {enc : TypeId × Value → H} {W : World}
set_option maxRecDepth 100000 in
/-- A slice of strings that came in, nil or not. -/
theorem open_names {r : Reach} {b0 : Nat} {v : Value} {d : DataW H} {p : List MemPlace} {ts : List TypeId} {ds : List (DataW H)} (hv : Value.okWide Tryz.prog W r b0 41 v)
    (h0 : DataW.Trod enc Tryz.prog W 0 (fun _ => true) true 41 v d p) (hs : (DataW.weightsEach Tryz.prog ts ds).all (· ≤ reachBytes) = true) {j : Nat} (ht : ts[j]? = some 41) (hd : ds[j]? = some d) :
    ∃ (A : Option Addr) (ns : List ByteArray) (c : Nat), v = .slice A ns.length c ∧ SlS W (· < W.heap.size) A ns ∧ ns.length ≤ 8796093022208 ∧ ns.length ≤ c ∧ (A = none → c = 0) ∧ ∀ x ∈ ns, x.size ≤ maxLen := by
  obtain ⟨A, len, cap, rfl⟩ := okWide_slice Tryz.underlying41 hv
  obtain ⟨fuel, hf⟩ := h0
  rcases open_strs Tryz.underlying41 Tryz.underlying9 cellsS hf with ⟨hcs, hx⟩ | ⟨a, len', cap', m, Sx, hcs, _, hl, hm, hmm, hx, hi⟩
  · simp [Value.cells] at hcs
    obtain ⟨rfl, rfl, rfl⟩ := hcs
    exact ⟨none, [], 0, rfl, SlS.nil _ _ _, by simp, by simp, fun _ => rfl, fun x hx => by cases hx⟩
  · simp [Value.cells] at hcs
    obtain ⟨rfl, rfl, rfl⟩ := hcs
    simp only [Prod.mk.injEq] at hx
    obtain ⟨rfl, rfl⟩ := hx
    simp only [if_true] at hmm
    have hb := sized_slice hs ht hd Tryz.underlying41
    rw [bytesS] at hb
    simp only [List.length_map, List.length_range] at hb
    have hr : reachBytes = 140737488351232 := rfl
    have hlen : ((List.range len).map Sx).length = len := by rw [List.length_map, List.length_range]
    refine ⟨some a, (List.range len).map Sx, cap, by rw [hlen], fun i z hz => ?_, by rw [hlen]; rw [hr] at hb; omega, by rw [hlen]; exact hl, (fun e => by cases e), fun x hx => ?_⟩
    · have hil : i < len := by have := (List.getElem?_eq_some_iff.1 hz).1; omega
      rw [List.getElem?_map, List.getElem?_range hil] at hz
      injection hz with hz
      subst hz
      have hc := (hi i (by omega)).1
      exact ⟨a, rfl, by have := block_lt hc; rw [blk_add] at this; exact this, hc⟩
    · obtain ⟨i, hi', rfl⟩ := List.mem_map.1 hx
      rw [List.mem_range] at hi'
      exact (hi i (by omega)).2
set_option maxRecDepth 100000 in
/-- A slice of acts that came in, nil or not. -/
theorem open_acts {r : Reach} {b0 : Nat} {v : Value} {d : DataW H} {p : List MemPlace} {ts : List TypeId} {ds : List (DataW H)} (hv : Value.okWide Tryz.prog W r b0 22 v)
    (h0 : DataW.Trod enc Tryz.prog W 0 (fun _ => true) true 22 v d p) (hs : (DataW.weightsEach Tryz.prog ts ds).all (· ≤ reachBytes) = true) {j : Nat} (ht : ts[j]? = some 22) (hd : ds[j]? = some d) :
    ∃ (A : Option Addr) (acts : List Act) (c : Nat), v = .slice A acts.length c ∧ ActS W W.heap.size A acts ∧ acts.length ≤ 4398046511104 ∧ ∀ x ∈ acts, x.OK := by
  obtain ⟨A, len, cap, rfl⟩ := okWide_slice Tryz.underlying22 hv
  obtain ⟨fuel, hf⟩ := h0
  rcases open_slice Tryz.underlying22 hf with ⟨hcs, hx⟩ | ⟨a, len', cap', m, n, D, Pl, hcs, _, hl, hm, hmm, hx, hi⟩
  · simp [Value.cells] at hcs
    obtain ⟨rfl, rfl, rfl⟩ := hcs
    exact ⟨none, [], 0, rfl, fun j x h => by simp at h, by simp, fun x hx => by cases hx⟩
  · simp [Value.cells] at hcs
    obtain ⟨rfl, rfl, rfl⟩ := hcs
    simp only [Prod.mk.injEq] at hx
    obtain ⟨rfl, rfl⟩ := hx
    simp only [if_true] at hmm
    have hb := sized_slice hs ht hd Tryz.underlying22
    rw [bytesA] at hb
    simp only [List.length_map, List.length_range] at hb
    have hr : reachBytes = 140737488351232 := rfl
    have sp : 0 < m → a = ⟨a.block, a.off, none⟩ := fun h0 => by
      obtain ⟨cs', hc, _⟩ := hi 0 h0
      rw [cellsA] at hc
      obtain ⟨_, hcl, hat⟩ := World.cells?_some hc
      have c0 := hat 0 (by omega)
      rw [Nat.zero_mul, Go.Deep.add_add, Nat.add_zero] at c0
      have e : a.add 0 = a := by unfold Addr.add; rw [if_pos rfl]
      rw [e, List.getElem?_eq_getElem (by omega)] at c0
      exact spot_none c0
    have key : ∀ i, i < m → ∃ x : Act, x.OK ∧ a = ⟨a.block, a.off, none⟩ ∧ a.block < W.heap.size ∧ W.cell? ⟨a.block, a.off + i * 4, none⟩ = some (.int .i64 x.what) ∧ W.cell? ⟨a.block, a.off + i * 4 + 1, none⟩ = some (.int .i64 x.a) ∧
        W.cell? ⟨a.block, a.off + i * 4 + 2, none⟩ = some (.int .i64 x.b) ∧ W.cell? ⟨a.block, a.off + i * 4 + 3, none⟩ = some (.int .i64 x.nm) := fun i him => by
      obtain ⟨cs', hc, ht'⟩ := hi i him
      rw [cellsA] at hc
      obtain ⟨_, hcl, hat⟩ := World.cells?_some hc
      obtain ⟨y0, y1, y2, y3, n', _, _, t0, t1, t2, t3⟩ := trod_struct4 Tryz.underlying35 ht'
      match cs', hcl with
      | [v0, v1, v2, v3], _ =>
        simp [cellsI] at t0 t1 t2 t3
        obtain ⟨k0, e0, _, w0⟩ := DataW.trod_int Tryz.underlying3 t0
        obtain ⟨k1, e1, _, w1⟩ := DataW.trod_int Tryz.underlying3 t1
        obtain ⟨k2, e2, _, w2⟩ := DataW.trod_int Tryz.underlying3 t2
        obtain ⟨k3, e3, _, w3⟩ := DataW.trod_int Tryz.underlying3 t3
        simp at e0 e1 e2 e3
        subst e0 e1 e2 e3
        have c0 := hat 0 (by omega)
        have c1 := hat 1 (by omega)
        have c2 := hat 2 (by omega)
        have c3 := hat 3 (by omega)
        simp only [List.getElem?_cons_zero, List.getElem?_cons_succ, Go.Deep.add_add] at c0 c1 c2 c3
        have sp := sp (by omega)
        have bl := block_lt c0
        rw [blk_add] at bl
        rw [add_flat0 sp] at c0 c1 c2 c3
        exact ⟨⟨k0, k1, k2, k3⟩, ⟨wf_i64 w0, wf_i64 w1, wf_i64 w2, wf_i64 w3⟩, sp, bl, c0, c1, c2, c3⟩
    have hlen : ((List.range len).map fun i => if h : i < m then (key i h).choose else ⟨0, 0, 0, 0⟩).length = len := by rw [List.length_map, List.length_range]
    refine ⟨some a, (List.range len).map fun i => if h : i < m then (key i h).choose else ⟨0, 0, 0, 0⟩, cap, by rw [hlen], fun i z hz => ?_, by rw [hlen]; rw [hr] at hb; omega, fun x hx => ?_⟩
    · have hil : i < len := by have := (List.getElem?_eq_some_iff.1 hz).1; omega
      have him : i < m := by omega
      rw [List.getElem?_map, List.getElem?_range hil] at hz
      simp only [Option.map_some, dif_pos him, Option.some.injEq] at hz
      obtain ⟨_, h2, h3, h4, h5, h6, h7⟩ := (key i him).choose_spec
      rw [hz] at h4 h5 h6 h7
      exact ⟨a.block, a.off, congrArg some h2, h3, h4, h5, h6, h7⟩
    · obtain ⟨i, hi', rfl⟩ := List.mem_map.1 hx
      rw [List.mem_range] at hi'
      have him : i < m := by omega
      rw [dif_pos him]
      exact (key i him).choose_spec.1
theorem arr_cs {P : Program} {r : Reach} {b0 : Nat} {t e : TypeId} {n : Nat} {v : Value} (ht : P.underlying t = some (.array n e)) (h : Value.okWide P W r b0 t v) : ∃ cs, v = .agg cs ∧ cs.size = P.cellsOf t := by
  simp only [Value.okWide, ht] at h
  obtain ⟨cs, h1, h2, _⟩ := h
  exact ⟨cs, h1, h2⟩
end
end Go.Proofs.YtjodmjadpooipaaGreatDoor.Sh
