/-
  An array of two slices of ints, given by value, opened.
-/
import Derived.Test.YtbpehdpcnnaidaaAo
namespace Go.Proofs.Ytbpehdpcnnaidaa.Ac
open Go Go.RowKit Go.ChangeShapes Go.WideShapes

section
variable {H : Type} {enc : TypeId × Value → H} {W : World}
theorem sl_core {fuel : Nat} {c0 : Value} {x : DataW H × List MemPlace} (hf : DataW.trod enc Try.prog W 0 (fun _ => true) true fuel 22 [c0] = some x)
    (hb : ∀ elems spare, x.1 = .slice elems spare → (elems.length + spare.length) * 8 ≤ reachBytes) :
    ∃ (A : Option Addr) (zs : List Int) (c : Nat), c0 = .slice A zs.length c ∧ Sl W W.heap.size A zs ∧ zs.length ≤ 17592186044404 ∧ ∀ z ∈ zs, I64 z := by
  rcases open_ints Try.underlying22 Try.underlying3 cellsI hf with ⟨hcs, _⟩ | ⟨a, len, cap, zs, hcs, _, hl, hm, hz, hx, hcell, hwz⟩
  · simp at hcs
    subst hcs
    exact ⟨none, [], 0, rfl, Sl.nil _ _ _, by simp, by simp⟩
  · simp at hcs
    subst hcs
    subst hx
    simp only [if_true] at hz
    have hlen : (zs.take len).length = len := by rw [List.length_take]; omega
    have hb := hb _ _ rfl
    simp only [lits, List.length_map] at hb
    have hr : reachBytes = 140737488351232 := rfl
    refine ⟨some a, zs.take len, cap, by rw [hlen], fun i z hi => ?_, by rw [hr] at hb; omega, fun z hz => wf_i64 (hwz z (List.mem_of_mem_take hz))⟩
    rw [List.getElem?_take] at hi
    split at hi
    · have hc := hcell i (by omega)
      have hg : zs.getD i 0 = z := by rw [List.getD_eq_getElem?_getD, hi]; rfl
      rw [hg] at hc
      exact ⟨a, rfl, by have := block_lt hc; rw [blk_add] at this; exact this, hc⟩
    · cases hi
theorem open_two_sl {r : Reach} {b0 : Nat} {v : Value} {d : DataW H} {p : List MemPlace} {ts : List TypeId} {ds : List (DataW H)} (hC : Try.prog.cellsOf 44 = 2) (hc : Try.prog.cellsOf 22 = 1) (hv : Value.okWide Try.prog W r b0 44 v)
    (h0 : DataW.Trod enc Try.prog W 0 (fun _ => true) true 44 v d p) (hs : (DataW.weightsEach Try.prog ts ds).all (· ≤ reachBytes) = true) {j : Nat} (ht : ts[j]? = some 44) (hd : ds[j]? = some d) :
    ∃ (A1 A2 : Option Addr) (z1 z2 : List Int) (c1 c2 : Nat), v = .agg #[.slice A1 z1.length c1, .slice A2 z2.length c2] ∧ Sl W W.heap.size A1 z1 ∧ Sl W W.heap.size A2 z2 ∧ z1.length ≤ 17592186044404 ∧ z2.length ≤ 17592186044404 ∧ (∀ z ∈ z1, I64 z) ∧ ∀ z ∈ z2, I64 z := by
  obtain ⟨cs, rfl, hsz⟩ := arr_cs Try.underlying44 hv
  obtain ⟨c0, c1, rfl⟩ := Go.Joins.array2 (hsz.trans hC)
  obtain ⟨fuel, hf⟩ := h0
  obtain ⟨xs, m, _, hx, _, hn, hel⟩ := DataW.trod_array Try.underlying44 hf
  obtain ⟨y0, y1, rfl⟩ : ∃ y0 y1, xs = [y0, y1] := by
    match xs, hn with
    | [y0, y1], _ => exact ⟨y0, y1, rfl⟩
  have e0 := hel 0 (by decide)
  have e1 := hel 1 (by decide)
  simp [Value.cells, hc] at e0 e1
  simp only [Prod.mk.injEq] at hx
  obtain ⟨hd', _⟩ := hx
  have hw : ∀ y, y ∈ [y0.1, y1.1] → ∀ elems spare, y = DataW.slice elems spare → (elems.length + spare.length) * 8 ≤ reachBytes := fun y hy elems spare he => by
    refine of_decide_eq_true (List.all_eq_true.1 hs _ (DataW.weights_mem_each ht hd _ ?_))
    subst hd'
    subst he
    simp only [List.map_cons, List.map_nil, DataW.weights, Try.underlying44, DataW.weightsAll]
    simp only [List.mem_cons, List.not_mem_nil, or_false] at hy
    rcases hy with hy | hy
    · rw [← hy]; simp [DataW.weights, Try.underlying22, bytesI]
    · rw [← hy]; simp [DataW.weights, Try.underlying22, bytesI]
  obtain ⟨A1, z1, k1, rfl, a1, a2, a3⟩ := sl_core e0 (hw _ (.head _))
  obtain ⟨A2, z2, k2, rfl, b1, b2, b3⟩ := sl_core e1 (hw _ (.tail _ (.head _)))
  exact ⟨A1, A2, z1, z2, k1, k2, rfl, a1, b1, a2, b2, a3, b3⟩
end
end Go.Proofs.Ytbpehdpcnnaidaa.Ac
