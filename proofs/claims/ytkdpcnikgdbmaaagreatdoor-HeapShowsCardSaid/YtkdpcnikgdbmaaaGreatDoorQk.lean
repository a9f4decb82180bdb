/-
  From the row's list of package-level variables to what the walks ask of them.
-/
import Derived.Test.YtkdpcnikgdbmaaaGreatDoorIi
import Derived.Test.YtkdpcnikgdbmaaaGreatDoorRows
import Derived.ChangeSame
import Derived.ProofKit
import Derived.OpenShut
import Derived.Lib.LaidTab
import Derived.Lib.LaidU8
import Derived.Stop.LaidErr
import Derived.LaidLaws
import Derived.JoinedOf
import Derived.MakeChecks
namespace Go.Proofs.YtkdpcnikgdbmaaaGreatDoor.Hp
open Go Go.RowKit Va Go.ChangeShapes Go.WideShapes Go.ChangeAt

theorem gBnd : Tryz.prog.globalNamed "facsimile/value.bounds" = some 0 := by kernel_rfl
theorem tBnd : (Tryz.prog.globals[0]?).map (·.type) = some 162 := by kernel_rfl
theorem cBnd : Tryz.prog.cellsOf 161 = 2 := by kernel_rfl
theorem cInt : Tryz.prog.cellsOf 3 = 1 := by kernel_rfl
def pairs : List (Int × Int) := [(0, 0), (0, 0), (0, 1), (-1000000000000000, 1000000000000000), (0, 0), (0, 1000000000), (0, 23)]
theorem bounds_is : (Rows.laid_facsimile_value_bounds : DataW Unit) = .agg (pairs.map fun p => .agg [.lit (.int .i64 p.1), .lit (.int .i64 p.2)]) := rfl
theorem bnds_of {W : World} {l : List (String × DataW Unit)} (h : laidMet Tryz.prog l W) (hm : ("facsimile/value.bounds", Rows.laid_facsimile_value_bounds) ∈ l) : Bnds W := by
  obtain ⟨g, t, cs, fuel, p, hg, ht, hv, hd⟩ := Lib.laidMet.reads h hm
  obtain rfl := Option.some.inj (gBnd.symm.trans hg)
  obtain rfl := Option.some.inj (tBnd.symm.trans ht)
  obtain ⟨xs, m, _, hx, _, hn, hel⟩ := DataW.trod_array Tryz.underlying162 hd
  have hxs : xs.map (·.1) = pairs.map fun p => (.agg [.lit (.int .i64 p.1), .lit (.int .i64 p.2)] : DataW Unit) := by
    have := congrArg Prod.fst hx
    rw [bounds_is] at this
    simpa using this.symm
  have key : ∀ i, i < 7 → cs.toList[2 * i]? = some (.int .i64 (pairs.getD i (0, 0)).1) ∧ cs.toList[2 * i + 1]? = some (.int .i64 (pairs.getD i (0, 0)).2) := by
    intro i hi
    have h1 := hel i hi
    have h2 : (xs[i]?).map (·.1) = (pairs[i]?).map fun p => (.agg [.lit (.int .i64 p.1), .lit (.int .i64 p.2)] : DataW Unit) := by
      have := congrArg (·[i]?) hxs
      simpa using this
    have hp : pairs[i]? = some (pairs.getD i (0, 0)) := by
      have : i < pairs.length := hi
      simp [List.getD, List.getElem?_eq_getElem this]
    rw [hp] at h2
    obtain ⟨x, hx1, hx2⟩ := Option.map_eq_some_iff.1 h2
    rw [hx1, cBnd] at h1
    obtain ⟨y0, y1, n, hy, _, hy0, hy1⟩ := trod_struct2 Tryz.underlying161 h1
    rw [hy] at hx2
    obtain ⟨a, ea, ha, _⟩ := DataW.trod_int Tryz.underlying3 hy0
    obtain ⟨b, eb, hb, _⟩ := DataW.trod_int Tryz.underlying3 hy1
    rw [ha, hb] at hx2
    simp only [DataW.agg.injEq, List.cons.injEq, DataW.lit.injEq, Lit.int.injEq, true_and, and_true] at hx2
    obtain ⟨rfl, rfl⟩ := hx2
    have e0 := congrArg (fun l : List Value => l[0]?) ea
    have e1 := congrArg (fun l : List Value => l[0]?) eb
    simp only [cInt, List.getElem?_take, List.getElem?_drop] at e0 e1
    rw [Nat.mul_comm 2 i]
    exact ⟨by simpa using e0, by simpa using e1⟩
  intro j hj
  rw [World.var?_cell gBnd hv j, ← Array.getElem?_toList]
  have hj' : j = 2 * (j / 2) ∨ j = 2 * (j / 2) + 1 := by omega
  have hk : j / 2 = 0 ∨ j / 2 = 1 ∨ j / 2 = 2 ∨ j / 2 = 3 ∨ j / 2 = 4 ∨ j / 2 = 5 ∨ j / 2 = 6 := by omega
  have hkey := key (j / 2) (by omega)
  rcases hj' with e | e <;> rcases hk with k | k | k | k | k | k | k <;> rw [k] at e hkey <;> subst e
  all_goals first | exact hkey.1 | exact hkey.2
theorem u8_bounds {n : Int} (h : (Lit.int .u8 n).wf = true) : 0 ≤ n ∧ n ≤ 255 := by
  have h3 : IntKind.u8.min = 0 := rfl
  have h4 : IntKind.u8.max = 255 := rfl
  simp [Lit.wf, h3, h4] at h
  exact h
def laid4 : List (String × DataW Unit) := [("math/bits.deBruijn32tab", Rows.laid_math_bits_deBruijn32tab), ("math/bits.deBruijn64tab", Rows.laid_math_bits_deBruijn64tab), ("internal/strconv.uint64pow10", Rows.laid_internal_strconv_uint64pow10), ("facsimile/value.bounds", Rows.laid_facsimile_value_bounds)]
theorem bnds4 {W : World} (h : laidMet Tryz.prog laid4 W) : Bnds W := bnds_of h (.tail _ (.tail _ (.tail _ (.head _))))
end Go.Proofs.YtkdpcnikgdbmaaaGreatDoor.Hp
