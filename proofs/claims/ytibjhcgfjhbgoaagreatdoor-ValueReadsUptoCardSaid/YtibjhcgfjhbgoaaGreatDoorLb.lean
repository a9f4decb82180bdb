/-
  From the row's list of package-level variables to what the walks ask of them.
-/
import Derived.Test.YtibjhcgfjhbgoaaGreatDoorVk
import Derived.Test.YtibjhcgfjhbgoaaGreatDoorRows
import Derived.ProofKit
import Derived.OpenShut
import Derived.Lib.LaidTab
import Derived.Lib.LaidU8
import Derived.Stop.LaidErr
import Derived.LaidLaws
import Derived.JoinedOf
import Derived.MakeChecks
namespace Go.Proofs.YtibjhcgfjhbgoaaGreatDoor.Va
open Go Go.RowKit Mp Go.ChangeShapes Go.WideShapes Go.ChangeAt

theorem gBnd : Tryz.prog.globalNamed "facsimile/value.bounds" = some 0 := by kernel_rfl
theorem tBnd : (Tryz.prog.globals[0]?).map (·.type) = some 54 := by kernel_rfl
theorem cBnd : Tryz.prog.cellsOf 53 = 2 := by kernel_rfl
theorem cInt : Tryz.prog.cellsOf 3 = 1 := by kernel_rfl
def pairs : List (Int × Int) := [(0, 0), (0, 0), (0, 1), (-1000000000000000, 1000000000000000), (0, 0), (0, 1000000000), (0, 23)]
theorem bounds_is : (Rows.laid_facsimile_value_bounds : DataW Unit) = .agg (pairs.map fun p => .agg [.lit (.int .i64 p.1), .lit (.int .i64 p.2)]) := rfl
theorem bnds_of {W : World} {l : List (String × DataW Unit)} (h : laidMet Tryz.prog l W) (hm : ("facsimile/value.bounds", Rows.laid_facsimile_value_bounds) ∈ l) : Bnds W := by
  obtain ⟨g, t, cs, fuel, p, hg, ht, hv, hd⟩ := Lib.laidMet.reads h hm
  obtain rfl := Option.some.inj (gBnd.symm.trans hg)
  obtain rfl := Option.some.inj (tBnd.symm.trans ht)
  obtain ⟨xs, m, _, hx, _, hn, hel⟩ := DataW.trod_array Tryz.underlying54 hd
  have hxs : xs.map (·.1) = pairs.map fun p => (.agg [.lit (.int .i64 p.1), .lit (.int .i64 p.2)] : DataW Unit) := by
    have := congrArg Prod.fst hx
    rw [bounds_is] at this
    simpa using this.symm
  have key : ∀ i, i < 7 → cs.toList[2 * i]? = some (.int .i64 (pairs.getD i (0, 0)).1) ∧ cs.toList[2 * i + 1]? = some (.int .i64 (pairs.getD i (0, 0)).2) := by
    intro i hi
    have h1 := hel i hi
    have h2 : (xs[i]?).map (·.1) = (pairs[i]?).map fun p => (.agg [.lit (.int .i64 p.1), .lit (.int .i64 p.2)] : DataW Unit) := by
      have := congrArg (·[i]?) hxs
      simpa using this
    have hp : pairs[i]? = some (pairs.getD i (0, 0)) := by
      have : i < pairs.length := hi
      simp [List.getD, List.getElem?_eq_getElem this]
    rw [hp] at h2
    obtain ⟨x, hx1, hx2⟩ := Option.map_eq_some_iff.1 h2
    rw [hx1, cBnd] at h1
    obtain ⟨y0, y1, n, hy, _, hy0, hy1⟩ := trod_struct2 Tryz.underlying53 h1
    rw [hy] at hx2
    obtain ⟨a, ea, ha, _⟩ := DataW.trod_int Tryz.underlying3 hy0
    obtain ⟨b, eb, hb, _⟩ := DataW.trod_int Tryz.underlying3 hy1
    rw [ha, hb] at hx2
    simp only [DataW.agg.injEq, List.cons.injEq, DataW.lit.injEq, Lit.int.injEq, true_and, and_true] at hx2
    obtain ⟨rfl, rfl⟩ := hx2
    have e0 := congrArg (fun l : List Value => l[0]?) ea
    have e1 := congrArg (fun l : List Value => l[0]?) eb
    simp only [cInt, List.getElem?_take, List.getElem?_drop] at e0 e1
    rw [Nat.mul_comm 2 i]
    exact ⟨by simpa using e0, by simpa using e1⟩
  intro j hj
  rw [World.var?_cell gBnd hv j, ← Array.getElem?_toList]
  have hj' : j = 2 * (j / 2) ∨ j = 2 * (j / 2) + 1 := by omega
  have hk : j / 2 = 0 ∨ j / 2 = 1 ∨ j / 2 = 2 ∨ j / 2 = 3 ∨ j / 2 = 4 ∨ j / 2 = 5 ∨ j / 2 = 6 := by omega
  have hkey := key (j / 2) (by omega)
  rcases hj' with e | e <;> rcases hk with k | k | k | k | k | k | k <;> rw [k] at e hkey <;> subst e
  all_goals first | exact hkey.1 | exact hkey.2
theorem tErr (g : Nat) (h : g = 5 ∨ g = 6) : (Tryz.prog.globals[g]?).map (·.type) = some 83 := by
  rcases h with rfl | rfl
  · kernel_rfl
  · kernel_rfl
theorem err_of {W : World} {l : List (String × DataW Unit)} (h : laidMet Tryz.prog l W) {nm : String} {s : String} {d : DataW Unit} (hm : (nm, .iface s d) ∈ l) {g : Nat} (hg : Tryz.prog.globalNamed nm = some g) (hG : g = 5 ∨ g = 6) :
    ∃ tp p, W.var? Tryz.prog nm = some #[.iface tp p] := by
  obtain ⟨g', t, cs, fuel, p, hg', ht, hv, hd⟩ := Lib.laidMet.reads h hm
  obtain rfl := Option.some.inj (hg.symm.trans hg')
  obtain rfl := Option.some.inj ((tErr g hG).symm.trans ht)
  obtain ⟨_, u, v, hcs, _⟩ := iface_of_trod Tryz.underlying83 hd
  exact ⟨u, v, by rw [hv]; congr 1; exact Array.toList_inj.1 (by simpa using hcs)⟩
theorem tPow : (Tryz.prog.globals[1]?).map (·.type) = some 107 := by kernel_rfl
theorem cPow : Tryz.prog.cellsOf 107 = 20 := by kernel_rfl
theorem cU64 : Tryz.prog.cellsOf 97 = 1 := by kernel_rfl
theorem pow_is : (Rows.laid_internal_strconv_uint64pow10 : DataW Unit) = Lib.tabData .u64 Lib.pow10Tab := by kernel_rfl
theorem pow_of {W : World} {l : List (String × DataW Unit)} (h : laidMet Tryz.prog l W) (hm : ("internal/strconv.uint64pow10", Rows.laid_internal_strconv_uint64pow10) ∈ l) : Lib.TabIs Tryz.prog W "internal/strconv.uint64pow10" .u64 Lib.pow10Tab := by
  obtain ⟨g', t, cs, fuel, p, hg', ht, hv, hd⟩ := Lib.laidMet.reads h hm
  obtain rfl := Option.some.inj (gPow.symm.trans hg')
  obtain rfl := Option.some.inj (tPow.symm.trans ht)
  rw [pow_is] at hd
  unfold Lib.TabIs
  rw [hv, ← Lib.cells_of_tab Tryz.underlying107 Tryz.underlying97 cU64 cPow hd]
def laid8 : List (String × DataW Unit) := [("math/bits.deBruijn32tab", Rows.laid_math_bits_deBruijn32tab), ("math/bits.deBruijn64tab", Rows.laid_math_bits_deBruijn64tab), ("internal/strconv.uint64pow10", Rows.laid_internal_strconv_uint64pow10), ("unicode/utf8.acceptRanges", Rows.laid_unicode_utf8_acceptRanges), ("strconv.ErrRange", Rows.laid_strconv_ErrRange), ("strconv.ErrSyntax", Rows.laid_strconv_ErrSyntax), ("facsimile/value.bounds", Rows.laid_facsimile_value_bounds), ("unicode/utf8.first", Rows.laid_unicode_utf8_first)]
theorem gl_of {W : World} (h : laidMet Tryz.prog laid8 W) (hsh : W.ShapedOpen Tryz.prog) : Gl W := by
  refine ⟨bnds_of h (by simp [laid8]), pow_of h (by simp [laid8]), Tryz.laysM155.s1_3 W hsh, err_of h (d := .ptr (.agg [.lit (.string [105, 110, 118, 97, 108, 105, 100, 32, 115, 121, 110, 116, 97, 120])])) (s := "*errors.errorString") ?_ gSyn (.inl rfl), err_of h (d := .ptr (.agg [.lit (.string [118, 97, 108, 117, 101, 32, 111, 117, 116, 32, 111, 102, 32, 114, 97, 110, 103, 101])])) (s := "*errors.errorString") ?_ gRan (.inr rfl)⟩
  · exact .tail _ (.tail _ (.tail _ (.tail _ (.tail _ (.head _)))))
  · exact .tail _ (.tail _ (.tail _ (.tail _ (.head _))))
end Go.Proofs.YtibjhcgfjhbgoaaGreatDoor.Va
