/-
  What package cache does, of the landed code: the kit of all walks; nil sites; from the row's list of package-level variables to what the kit asks of them.
-/
import Derived.Test.YtpgjmmlgaanelaaDoorSe
import Derived.Test.YtpgjmmlgaanelaaDoorSg
import Derived.Test.YtpgjmmlgaanelaaDoorCn
import Derived.Test.YtpgjmmlgaanelaaDoorRows
import Derived.ProofKit
import Derived.OpenShut
import Derived.Lib.LaidTab
import Derived.Lib.LaidU8
import Derived.LaidLaws
import Derived.MakeChecks
namespace Go.Proofs.YtpgjmmlgaanelaaDoor.Ch
open Go Go.RowKit Go.ChangeShapes Go.WideShapes Go.ChangeAt

def theKit : Kit where
  V := Pw
  vkeep := fun h hb => h.below hb
  H := SiteAt
  lt := fun h => h.lt
  keep := fun h hk => h.keep hk
  new := code_new
  find := fun w p t F n s h hk hn _ => code_find w p t F n s h hk hn
  learn := fun w p t F n s v h hk hs hv => code_learn w p t F n s v h hk hs hv
  forget := fun w p t F n s h hk _ => code_forget w p t F n s h hk
  state := fun w _ _ _ _ h hk => code_state w h hk
  shapes := fun w _ _ _ _ h hk => code_shapes w h hk.len
  counts := fun w _ _ _ _ h hk => code_counts w h hk.len
  text := fun w _ _ _ _ h hv hk => code_text w h hv hk
theorem nil_known (w : World) : Calls Tryd.prog 33 #[.pointer none] w fun e w' => e = .returned (.slice none 0 0) ∧ w = w' := by
  go_enter Tryd.func33, Tryd.ntmps33
  go_wp2_with fail
  go_ret
  exact ⟨rfl, rfl⟩
theorem nil_index (w : World) (s : Int) : Calls Tryd.prog 32 #[.pointer none, .int .i64 s] w fun e w' => e = .returned (.int .i64 (-1)) ∧ w = w' := by
  go_enter Tryd.func32, Tryd.ntmps32
  go_wp2_with fail
  refine (nil_known w).mono ?_
  rintro e w1 ⟨rfl, rfl⟩
  go_wp2_with fail
  go_loopw [10] (fun i wr => i = .int .i64 0 ∧ w = wr) (fun _ _ => 0)
  case atStart => exact ⟨rfl, rfl⟩
  case round =>
    obtain ⟨rfl, rfl⟩ := hrel
    go_wp2_with fail
    go_ret
    exact ⟨rfl, rfl⟩
theorem nil_state (w : World) : Calls Tryd.prog 17 #[.pointer none] w fun e w' => e = .returned (.int .i64 0) ∧ w = w' := by
  go_enter Tryd.func17, Tryd.ntmps17
  go_wp2_with fail
  refine (nil_known w).mono ?_
  rintro e w1 ⟨rfl, rfl⟩
  go_wp2_with fail
  go_ret
  exact ⟨rfl, rfl⟩
theorem theNil : NilKit theKit where
  zero := fun w z h => ⟨h, fun _ => Iff.rfl⟩
  find := fun w s _ => by
    go_enter Tryd.func18, Tryd.ntmps18
    go_wp2_with fail
    go_ret2
    exact ⟨rfl, Below.refl _ _⟩
  learn := fun w s v _ _ => by
    go_enter Tryd.func15, Tryd.ntmps15
    go_wp2_with fail
    go_ret
    exact ⟨rfl, Below.refl _ _⟩
  forget := fun w s _ => by
    go_enter Tryd.func16, Tryd.ntmps16
    go_wp2_with fail
    refine (nil_index w s).mono ?_
    rintro e w1 ⟨rfl, rfl⟩
    go_wp2_with fail
    go_ret
    exact ⟨rfl, Below.refl _ _⟩
  state := fun w => (nil_state w).mono fun _ _ ⟨h, hw⟩ => ⟨h, by rw [← hw]; exact Below.refl _ _⟩
  shapes := fun w => by
    go_enter Tryd.func19, Tryd.ntmps19
    go_wp2_with fail
    refine (nil_known w).mono ?_
    rintro e w1 ⟨rfl, rfl⟩
    go_wp2_with fail
    go_loopw [3, 9] (fun o i wr => o = .slice none 0 0 ∧ i = .int .i64 0 ∧ w = wr) (fun _ _ _ => 0)
    case atStart => exact ⟨rfl, rfl, rfl⟩
    case round =>
      obtain ⟨rfl, rfl, rfl⟩ := hrel
      go_wp2_with fail
      go_ret
      exact ⟨_, _, rfl, Below.refl _ _⟩
  counts := fun w => by
    go_enter Tryd.func25, Tryd.ntmps25
    go_wp2_with fail
    go_ret2
    exact ⟨rfl, Below.refl _ _⟩
  text := fun w => by
    go_enter Tryd.func20, Tryd.ntmps20
    go_wp2_with fail
    refine (nil_state w).mono ?_
    rintro e w1 ⟨rfl, rfl⟩
    go_wp2_with fail
    refine (nil_known w).mono ?_
    rintro e w1 ⟨rfl, rfl⟩
    go_wp2_with fail
    go_loopw [3, 12] (fun o i wr => o = .slice none 0 0 ∧ i = .int .i64 0 ∧ w = wr) (fun _ _ _ => 0)
    case atStart => exact ⟨rfl, rfl, rfl⟩
    case round =>
      obtain ⟨rfl, rfl, rfl⟩ := hrel
      go_wp2_with fail
      refine (Tryd.strings_Join_none none 0 ⟨#[32]⟩ w).mono ?_
      rintro e w7 ⟨rfl, rfl⟩
      go_wp2_with fail
      go_ret
      exact ⟨rfl, Below.refl _ _⟩
theorem gPow : Tryd.prog.globalNamed "internal/strconv.uint64pow10" = some 0 := by kernel_rfl
theorem tPow : (Tryd.prog.globals[0]?).map (·.type) = some 90 := by kernel_rfl
theorem cPow : Tryd.prog.cellsOf 90 = 20 := by kernel_rfl
theorem cU64 : Tryd.prog.cellsOf 81 = 1 := by kernel_rfl
theorem pow_is : (Rows.laid_internal_strconv_uint64pow10 : DataW Unit) = Lib.tabData .u64 Lib.pow10Tab := by kernel_rfl
theorem pow_of {W : World} {l : List (String × DataW Unit)} (h : laidMet Tryd.prog l W) (hm : ("internal/strconv.uint64pow10", Rows.laid_internal_strconv_uint64pow10) ∈ l) : Pw W := by
  obtain ⟨g', t, cs, fuel, p, hg', ht, hv, hd⟩ := Lib.laidMet.reads h hm
  obtain rfl := Option.some.inj (gPow.symm.trans hg')
  obtain rfl := Option.some.inj (tPow.symm.trans ht)
  rw [pow_is] at hd
  unfold Pw Lib.TabIs
  rw [hv, ← Lib.cells_of_tab Tryd.underlying90 Tryd.underlying81 cU64 cPow hd]
def laidK : List (String × DataW Unit) := [("math/bits.deBruijn32tab", Rows.laid_math_bits_deBruijn32tab), ("math/bits.deBruijn64tab", Rows.laid_math_bits_deBruijn64tab), ("internal/strconv.uint64pow10", Rows.laid_internal_strconv_uint64pow10)]
theorem kit_v {W : World} (h : laidMet Tryd.prog laidK W) : theKit.V W := pow_of h (by simp [laidK])
end Go.Proofs.YtpgjmmlgaanelaaDoor.Ch
