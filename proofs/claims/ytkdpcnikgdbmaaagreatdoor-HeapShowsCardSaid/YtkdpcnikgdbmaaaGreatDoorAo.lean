/-
  Arguments of the heap laws, opened: a slice of ints.
  An argument of type Act (a number, and a slice of ints), opened.
-/
import Derived.Test.YtkdpcnikgdbmaaaGreatDoorAw
import Derived.ChangeSlices
import Derived.ChangeSame
import Derived.WideShapes
import Derived.ProofKit
import Derived.SizedLaws
import Derived.Carry
import Derived.Deep.Slices
import Derived.Deep.Strs
import Derived.Lib.SmallJoins
namespace Go.Proofs.YtkdpcnikgdbmaaaGreatDoor.Ac
open Go Go.RowKit Go.ChangeShapes Go.WideShapes

theorem wf_i64 {n : Int} (h : (Lit.int .i64 n).wf = true) : I64 n := by
  simp [Lit.wf] at h; have h1 : IntKind.i64.min = -9223372036854775808 := rfl; rw [h1] at h; exact h
theorem wf_u8 {n : Int} (h : (Lit.int .u8 n).wf = true) : 0 ≤ n ∧ n ≤ 255 := by
  simp [Lit.wf] at h; have h1 : IntKind.u8.min = 0 := rfl; have h2 : IntKind.u8.max = 255 := rfl; rw [h1, h2] at h; exact h
theorem wf_u16 {n : Int} (h : (Lit.int .u16 n).wf = true) : 0 ≤ n ∧ n ≤ 65535 := by
  simp [Lit.wf] at h; have h1 : IntKind.u16.min = 0 := rfl; have h2 : IntKind.u16.max = 65535 := rfl; rw [h1, h2] at h; exact h
theorem wf_u32 {n : Int} (h : (Lit.int .u32 n).wf = true) : 0 ≤ n ∧ n ≤ 4294967295 := by
  simp [Lit.wf] at h; have h1 : IntKind.u32.min = 0 := rfl; have h2 : IntKind.u32.max = 4294967295 := rfl; rw [h1, h2] at h; exact h
theorem block_lt {w : World} {a : Addr} {v : Value} (h : w.cell? a = some v) : a.block < w.heap.size := by
  rcases Nat.lt_or_ge a.block w.heap.size with h1 | h1
  · exact h1
  · unfold World.cell? at h; rw [Array.getElem?_eq_none h1] at h; simp at h
theorem laidOut : laidOutB Tryz.prog = true := by kernel_rfl
theorem bytesI : Tryz.prog.bytesOf 3 = 8 := by kernel_rfl
theorem cellsI : Tryz.prog.cellsOf 3 = 1 := by kernel_rfl
section
variable {H : Type} {enc : TypeId × Value → H} {W : World}
set_option maxRecDepth 100000 in
/-- A slice of ints that came in, nil or not. -/
theorem open_sl {r : Reach} {b0 : Nat} {v : Value} {d : DataW H} {p : List MemPlace} {ts : List TypeId} {ds : List (DataW H)} (hv : Value.okWide Tryz.prog W r b0 22 v)
    (h0 : DataW.Trod enc Tryz.prog W 0 (fun _ => true) true 22 v d p) (hs : (DataW.weightsEach Tryz.prog ts ds).all (· ≤ reachBytes) = true) {j : Nat} (ht : ts[j]? = some 22) (hd : ds[j]? = some d) :
    ∃ (A : Option Addr) (zs : List Int) (c : Nat), v = .slice A zs.length c ∧ Sl W W.heap.size A zs ∧ zs.length ≤ c ∧ zs.length ≤ 17592186044404 ∧ ∀ z ∈ zs, I64 z := by
  obtain ⟨A, len, cap, rfl⟩ := okWide_slice Tryz.underlying22 hv
  obtain ⟨fuel, hf⟩ := h0
  rcases open_ints Tryz.underlying22 Tryz.underlying3 cellsI hf with ⟨hcs, hx⟩ | ⟨a, len', cap', zs, hcs, _, hl, hm, hz, hx, hcell, hwz⟩
  · simp [Value.cells] at hcs
    obtain ⟨rfl, rfl, rfl⟩ := hcs
    exact ⟨none, [], 0, rfl, Sl.nil _ _ _, Nat.le_refl _, by simp, by simp⟩
  · simp [Value.cells] at hcs
    obtain ⟨rfl, rfl, rfl⟩ := hcs
    simp only [Prod.mk.injEq] at hx
    obtain ⟨rfl, rfl⟩ := hx
    simp only [if_true] at hz
    have hlen : (zs.take len).length = len := by rw [List.length_take]; omega
    have hb := sized_slice hs ht hd Tryz.underlying22
    rw [bytesI] at hb
    simp only [lits, List.length_map] at hb
    have hr : reachBytes = 140737488351232 := rfl
    refine ⟨some a, zs.take len, cap, by rw [hlen], fun i z hi => ?_, by omega, by rw [hr] at hb; omega, fun z hz => wf_i64 (hwz z (List.mem_of_mem_take hz))⟩
    rw [List.getElem?_take] at hi
    split at hi
    · have hc := hcell i (by omega)
      have hg : zs.getD i 0 = z := by rw [List.getD_eq_getElem?_getD, hi]; rfl
      rw [hg] at hc
      exact ⟨a, rfl, by have := block_lt hc; rw [blk_add] at this; exact this, hc⟩
    · cases hi
end
end Go.Proofs.YtkdpcnikgdbmaaaGreatDoor.Ac
namespace Go.Proofs.YtkdpcnikgdbmaaaGreatDoor.Ac
open Go Go.RowKit Go.ChangeShapes Go.WideShapes Go.Deep Go.Joins

section
variable {H : Type} {enc : TypeId × Value → H} {W : World}
theorem cellsAct : Tryz.prog.cellsOf 31 = 2 := by kernel_rfl
set_option maxRecDepth 100000 in
/-- A slice of ints within a struct that came in, nil or not. -/
theorem open_sl_in {n : Nat} {v : Value} {y : DataW H × List MemPlace} (hf : DataW.trod enc Tryz.prog W 0 (fun _ => true) true n 22 [v] = some y) {ts : List TypeId} {ds : List (DataW H)} (hs : (DataW.weightsEach Tryz.prog ts ds).all (· ≤ reachBytes) = true) {j : Nat} (ht : ts[j]? = some 22) (hd : ds[j]? = some y.1) :
    ∃ (A : Option Addr) (zs : List Int) (c : Nat), v = .slice A zs.length c ∧ Sl W W.heap.size A zs ∧ zs.length ≤ 17592186044404 ∧ ∀ z ∈ zs, I64 z := by
  obtain ⟨A, len, cap, hv⟩ := slice_form Tryz.underlying22 hf
  obtain rfl := (List.cons.inj hv).1
  rcases open_ints Tryz.underlying22 Tryz.underlying3 cellsI hf with ⟨hcs, hx⟩ | ⟨a, len', cap', zs, hcs, _, hl, hm, hz, hx, hcell, hwz⟩
  · simp at hcs
    obtain ⟨rfl, rfl, rfl⟩ := hcs
    exact ⟨none, [], 0, rfl, Sl.nil _ _ _, by simp, by simp⟩
  · simp at hcs
    obtain ⟨rfl, rfl, rfl⟩ := hcs
    subst hx
    simp only [if_true] at hz
    have hlen : (zs.take len).length = len := by rw [List.length_take]; omega
    have hb := sized_slice hs ht hd Tryz.underlying22
    rw [bytesI] at hb
    simp only [lits, List.length_map] at hb
    have hr : reachBytes = 140737488351232 := rfl
    refine ⟨some a, zs.take len, cap, by rw [hlen], fun i z hi => ?_, by rw [hr] at hb; omega, fun z hz => wf_i64 (hwz z (List.mem_of_mem_take hz))⟩
    rw [List.getElem?_take] at hi
    split at hi
    · have hc := hcell i (by omega)
      have hg : zs.getD i 0 = z := by rw [List.getD_eq_getElem?_getD, hi]; rfl
      rw [hg] at hc
      exact ⟨a, rfl, by have := block_lt hc; rw [blk_add] at this; exact this, hc⟩
    · cases hi
set_option maxRecDepth 100000 in
theorem open_act {r : Reach} {b0 : Nat} {v : Value} {d : DataW H} {p : List MemPlace} {ts : List TypeId} {ds : List (DataW H)} (hv : Value.okWide Tryz.prog W r b0 31 v)
    (h0 : DataW.Trod enc Tryz.prog W 0 (fun _ => true) true 31 v d p) (hs : (DataW.weightsEach Tryz.prog ts ds).all (· ≤ reachBytes) = true) {j : Nat} (ht : ts[j]? = some 31) (hd : ds[j]? = some d) :
    ∃ (wh : Int) (A : Option Addr) (zs : List Int) (c : Nat), v = .agg #[.int .i64 wh, .slice A zs.length c] ∧ Sl W W.heap.size A zs ∧ zs.length ≤ 17592186044404 ∧ (∀ z ∈ zs, I64 z) ∧ I64 wh := by
  obtain ⟨c0, c1, y0, y1, m, rfl, rfl, rfl, hy0, hy1⟩ := open_agg2 Tryz.underlying31 (by kernel_rfl) cellsAct hv h0
  obtain ⟨wh, e0, rfl, w0⟩ := DataW.trod_int Tryz.underlying3 hy0
  simp at e0
  subst e0
  have hs' : (DataW.weightsEach Tryz.prog [3, 22] [.lit (.int .i64 wh), y1.1]).all (· ≤ reachBytes) = true := by
    refine List.all_eq_true.2 fun n hn => List.all_eq_true.1 hs n (DataW.weights_mem_each ht hd n ?_)
    simp only [DataW.weights, Tryz.underlying31]
    exact hn
  obtain ⟨A, zs, c, rfl, h1, h2, h3⟩ := open_sl_in hy1 hs' (j := 1) rfl rfl
  exact ⟨wh, A, zs, c, rfl, h1, h2, h3, wf_i64 w0⟩
end
section
variable {H : Type} {enc : TypeId × Value → H} {W : World}
theorem weights_in {P : Program} {e : TypeId} : ∀ {l : List (DataW H)} {d : DataW H}, d ∈ l → ∀ n ∈ d.weights P e, n ∈ DataW.weightsAll P e l
  | d' :: r, d, hd, n, hn => by
    simp only [DataW.weightsAll, List.mem_append]
    rcases List.mem_cons.1 hd with rfl | h
    · exact Or.inl hn
    · exact Or.inr (weights_in h n hn)
theorem cellsS : Tryz.prog.cellsOf 9 = 1 := by kernel_rfl
theorem bytesS : Tryz.prog.bytesOf 9 = 16 := by kernel_rfl
theorem spot_none {w : World} {a : Addr} {v : Value} (h : w.cell? a = some v) : a = ⟨a.block, a.off, none⟩ := by
  obtain ⟨b, o, s⟩ := a
  cases s with
  | none => rfl
  | some x =>
    exfalso
    unfold World.cell? at h
    split at h <;> simp at h
theorem add_flat0 {a : Addr} (h : a = ⟨a.block, a.off, none⟩) (q : Nat) : a.add q = ⟨a.block, a.off + q, none⟩ := by
  unfold Addr.add
  split
  · rename_i e; rw [e, Nat.add_zero]; exact h
  · rfl
set_option maxRecDepth 100000 in
/-- A slice of strings that came in, nil or not; each string is within the reach. -/
theorem open_names {r : Reach} {b0 : Nat} {v : Value} {d : DataW H} {p : List MemPlace} {ts : List TypeId} {ds : List (DataW H)} (hv : Value.okWide Tryz.prog W r b0 43 v)
    (h0 : DataW.Trod enc Tryz.prog W 0 (fun _ => true) true 43 v d p) (hs : (DataW.weightsEach Tryz.prog ts ds).all (· ≤ reachBytes) = true) {j : Nat} (ht : ts[j]? = some 43) (hd : ds[j]? = some d) :
    ∃ (A : Option Addr) (ns : List ByteArray) (c : Nat), v = .slice A ns.length c ∧ (∀ j x, ns[j]? = some x → ∃ b o, A = some ⟨b, o, none⟩ ∧ b < W.heap.size ∧ W.cell? ⟨b, o + j, none⟩ = some (.string x)) ∧ ns.length ≤ 17592186044404 ∧ ns.length ≤ c ∧ ∀ x ∈ ns, x.size ≤ 140737488351232 := by
  obtain ⟨A, len, cap, rfl⟩ := okWide_slice Tryz.underlying43 hv
  obtain ⟨fuel, hf⟩ := h0
  rcases open_strs Tryz.underlying43 Tryz.underlying9 cellsS hf with ⟨hcs, hx⟩ | ⟨a, len', cap', m, Sx, hcs, _, hl, hm, hmm, hx, hi⟩
  · simp [Value.cells] at hcs
    obtain ⟨rfl, rfl, rfl⟩ := hcs
    exact ⟨none, [], 0, rfl, (fun j x h => by simp at h), by simp, by simp, fun x hx => by cases hx⟩
  · simp [Value.cells] at hcs
    obtain ⟨rfl, rfl, rfl⟩ := hcs
    simp only [Prod.mk.injEq] at hx
    obtain ⟨rfl, rfl⟩ := hx
    simp only [if_true] at hmm
    have hb := sized_slice hs ht hd Tryz.underlying43
    rw [bytesS] at hb
    simp only [List.length_map, List.length_range] at hb
    have hr : reachBytes = 140737488351232 := rfl
    have hlen : ((List.range len).map Sx).length = len := by rw [List.length_map, List.length_range]
    refine ⟨some a, (List.range len).map Sx, cap, by rw [hlen], fun i z hz => ?_, by rw [hlen]; rw [hr] at hb; omega, by rw [hlen]; exact hl, fun x hx => ?_⟩
    · have hil : i < len := by have := (List.getElem?_eq_some_iff.1 hz).1; omega
      rw [List.getElem?_map, List.getElem?_range hil] at hz
      injection hz with hz
      subst hz
      have hc := (hi i (by omega)).1
      have h0 := (hi 0 (by omega)).1
      have e0 : a.add 0 = a := by unfold Addr.add; rw [if_pos rfl]
      rw [e0] at h0
      have sp := spot_none h0
      rw [add_flat0 sp] at hc
      exact ⟨a.block, a.off, by rw [← sp], block_lt h0, hc⟩
    · obtain ⟨i, hi', rfl⟩ := List.mem_map.1 hx
      have hm : (DataW.lit (.string (Sx i).data.toList) : DataW H) ∈ (List.range len).map fun i => (DataW.lit (.string (Sx i).data.toList) : DataW H) := List.mem_map.2 ⟨i, hi', rfl⟩
      have hw := of_decide_eq_true (List.all_eq_true.1 hs _ (DataW.weights_mem_each ht hd (Sx i).data.toList.length (by
        simp only [DataW.weights, Tryz.underlying43, List.mem_cons, List.mem_append]
        exact Or.inr (Or.inl (weights_in hm _ (by simp [DataW.weights]))))))
      rw [hr] at hw
      have : (Sx i).size = (Sx i).data.toList.length := by rw [Array.length_toList]; rfl
      omega
end
end Go.Proofs.YtkdpcnikgdbmaaaGreatDoor.Ac
