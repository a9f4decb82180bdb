/-
  From the row's list of package-level variables to what the walk asks of them; an array of two arrays of three ints, given by value, opened.
-/
import Derived.Test.YtbpehdpcnnaidaaDoorWk
import Derived.Test.YtbpehdpcnnaidaaDoorAo
import Derived.Test.YtbpehdpcnnaidaaDoorRows
import Derived.OpenShut
import Derived.Lib.LaidTab
import Derived.Lib.LaidU8
import Derived.Stop.LaidErr
import Derived.LaidLaws
import Derived.JoinedOf
import Derived.MakeChecks
namespace Go.Proofs.YtbpehdpcnnaidaaDoor.Ac
open Go Go.RowKit Va Go.ChangeShapes Go.WideShapes Go.ChangeAt Go.Joins Go.Deep

theorem gBnd : Tryd.prog.globalNamed "facsimile/value.bounds" = some 0 := by kernel_rfl
theorem tBnd : (Tryd.prog.globals[0]?).map (·.type) = some 72 := by kernel_rfl
theorem cBnd : Tryd.prog.cellsOf 71 = 2 := by kernel_rfl
theorem cInt : Tryd.prog.cellsOf 3 = 1 := by kernel_rfl
def pairs : List (Int × Int) := [(0, 0), (0, 0), (0, 1), (-1000000000000000, 1000000000000000), (0, 0), (0, 1000000000), (0, 23)]
theorem bounds_is : (Rows.laid_facsimile_value_bounds : DataW Unit) = .agg (pairs.map fun p => .agg [.lit (.int .i64 p.1), .lit (.int .i64 p.2)]) := rfl
theorem bnds_of {W : World} {l : List (String × DataW Unit)} (h : laidMet Tryd.prog l W) (hm : ("facsimile/value.bounds", Rows.laid_facsimile_value_bounds) ∈ l) : Bnds W := by
  obtain ⟨g, t, cs, fuel, p, hg, ht, hv, hd⟩ := Lib.laidMet.reads h hm
  obtain rfl := Option.some.inj (gBnd.symm.trans hg)
  obtain rfl := Option.some.inj (tBnd.symm.trans ht)
  obtain ⟨xs, m, _, hx, _, hn, hel⟩ := DataW.trod_array Tryd.underlying72 hd
  have hxs : xs.map (·.1) = pairs.map fun p => (.agg [.lit (.int .i64 p.1), .lit (.int .i64 p.2)] : DataW Unit) := by
    have := congrArg Prod.fst hx
    rw [bounds_is] at this
    simpa using this.symm
  have key : ∀ i, i < 7 → cs.toList[2 * i]? = some (.int .i64 (pairs.getD i (0, 0)).1) ∧ cs.toList[2 * i + 1]? = some (.int .i64 (pairs.getD i (0, 0)).2) := by
    intro i hi
    have h1 := hel i hi
    have h2 : (xs[i]?).map (·.1) = (pairs[i]?).map fun p => (.agg [.lit (.int .i64 p.1), .lit (.int .i64 p.2)] : DataW Unit) := by
      have := congrArg (·[i]?) hxs
      simpa using this
    have hp : pairs[i]? = some (pairs.getD i (0, 0)) := by
      have : i < pairs.length := hi
      simp [List.getD, List.getElem?_eq_getElem this]
    rw [hp] at h2
    obtain ⟨x, hx1, hx2⟩ := Option.map_eq_some_iff.1 h2
    rw [hx1, cBnd] at h1
    obtain ⟨y0, y1, n, hy, _, hy0, hy1⟩ := trod_struct2 Tryd.underlying71 h1
    rw [hy] at hx2
    obtain ⟨a, ea, ha, _⟩ := DataW.trod_int Tryd.underlying3 hy0
    obtain ⟨b, eb, hb, _⟩ := DataW.trod_int Tryd.underlying3 hy1
    rw [ha, hb] at hx2
    simp only [DataW.agg.injEq, List.cons.injEq, DataW.lit.injEq, Lit.int.injEq, true_and, and_true] at hx2
    obtain ⟨rfl, rfl⟩ := hx2
    have e0 := congrArg (fun l : List Value => l[0]?) ea
    have e1 := congrArg (fun l : List Value => l[0]?) eb
    simp only [cInt, List.getElem?_take, List.getElem?_drop] at e0 e1
    rw [Nat.mul_comm 2 i]
    exact ⟨by simpa using e0, by simpa using e1⟩
  intro j hj
  rw [World.var?_cell gBnd hv j, ← Array.getElem?_toList]
  have hj' : j = 2 * (j / 2) ∨ j = 2 * (j / 2) + 1 := by omega
  have hk : j / 2 = 0 ∨ j / 2 = 1 ∨ j / 2 = 2 ∨ j / 2 = 3 ∨ j / 2 = 4 ∨ j / 2 = 5 ∨ j / 2 = 6 := by omega
  have hkey := key (j / 2) (by omega)
  rcases hj' with e | e <;> rcases hk with k | k | k | k | k | k | k <;> rw [k] at e hkey <;> subst e
  all_goals first | exact hkey.1 | exact hkey.2

def laid1 : List (String × DataW Unit) := [("facsimile/value.bounds", Rows.laid_facsimile_value_bounds)]
theorem array6 {α : Type} {cs : Array α} (h : cs.size = 6) : ∃ c0 c1 c2 c3 c4 c5, cs = #[c0, c1, c2, c3, c4, c5] := by
  obtain ⟨l⟩ := cs
  match l, h with
  | [c0, c1, c2, c3, c4, c5], _ => exact ⟨c0, c1, c2, c3, c4, c5, rfl⟩
section
variable {H : Type} {enc : TypeId × Value → H} {W : World}
theorem c23 : Tryd.prog.cellsOf 24 = 6 := by kernel_rfl
theorem c3 : Tryd.prog.cellsOf 23 = 3 := by kernel_rfl
theorem trod_three {n : Nat} {c0 c1 c2 : Value} {x : DataW H × List MemPlace} (h : DataW.trod enc Tryd.prog W 0 (fun _ => true) true n 23 [c0, c1, c2] = some x) :
    ∃ a b c, c0 = .int .i64 a ∧ c1 = .int .i64 b ∧ c2 = .int .i64 c ∧ I64 a ∧ I64 b ∧ I64 c := by
  obtain ⟨xs, m, _, _, _, hn, hel⟩ := DataW.trod_array Tryd.underlying23 h
  obtain ⟨y0, y1, y2, rfl⟩ : ∃ y0 y1 y2, xs = [y0, y1, y2] := by
    match xs, hn with
    | [y0, y1, y2], _ => exact ⟨y0, y1, y2, rfl⟩
  have h0 := hel 0 (by decide)
  have h1 := hel 1 (by decide)
  have h2 := hel 2 (by decide)
  simp [cellsI] at h0 h1 h2
  obtain ⟨a, ea, _, wa⟩ := DataW.trod_int Tryd.underlying3 h0
  obtain ⟨b, eb, _, wb⟩ := DataW.trod_int Tryd.underlying3 h1
  obtain ⟨c, ec, _, wc⟩ := DataW.trod_int Tryd.underlying3 h2
  simp at ea eb ec
  exact ⟨a, b, c, ea, eb, ec, wf_i64 wa, wf_i64 wb, wf_i64 wc⟩
theorem open_two_three {r : Reach} {b0 : Nat} {v : Value} {d : DataW H} {ps : List MemPlace} (hv : Value.okWide Tryd.prog W r b0 24 v) (hd : DataW.Trod enc Tryd.prog W 0 (fun _ => true) true 24 v d ps) :
    ∃ a0 a1 a2 b0 b1 b2, v = .agg #[.int .i64 a0, .int .i64 a1, .int .i64 a2, .int .i64 b0, .int .i64 b1, .int .i64 b2] ∧ I64 a0 ∧ I64 a1 ∧ I64 b0 ∧ I64 b1 := by
  obtain ⟨cs, rfl, hsz⟩ := arr_cs Tryd.underlying24 hv
  obtain ⟨k0, k1, k2, k3, k4, k5, rfl⟩ := array6 (hsz.trans c23)
  obtain ⟨fuel, hf⟩ := hd
  obtain ⟨xs, m, _, _, _, hn, hel⟩ := DataW.trod_array Tryd.underlying24 hf
  obtain ⟨y0, y1, rfl⟩ : ∃ y0 y1, xs = [y0, y1] := by
    match xs, hn with
    | [y0, y1], _ => exact ⟨y0, y1, rfl⟩
  have h0 := hel 0 (by decide)
  have h1 := hel 1 (by decide)
  simp [Value.cells, c3] at h0 h1
  obtain ⟨a0, a1, a2, rfl, rfl, rfl, i0, i1, _⟩ := trod_three h0
  obtain ⟨b0, b1, b2, rfl, rfl, rfl, j0, j1, _⟩ := trod_three h1
  exact ⟨a0, a1, a2, b0, b1, b2, rfl, i0, i1, j0, j1⟩
end
end Go.Proofs.YtbpehdpcnnaidaaDoor.Ac
