/-
  What package profile does, of the landed code: the kit of all walks; from the row's list of package-level variables to what the kit asks of them.
-/
import Derived.Test.YtjoffbgfokedlaaDoorSv
import Derived.Test.YtjoffbgfokedlaaDoorSy
import Derived.Test.YtjoffbgfokedlaaDoorTt
import Derived.Test.YtjoffbgfokedlaaDoorPz
import Derived.Test.YtjoffbgfokedlaaDoorRows
import Derived.ProofKit
import Derived.OpenShut
import Derived.Lib.LaidTab
import Derived.Lib.LaidU8
import Derived.LaidLaws
import Derived.MakeChecks
namespace Go.Proofs.YtjoffbgfokedlaaDoor.Pf
open Go Go.RowKit Go.ChangeShapes Go.WideShapes Go.ChangeAt

theorem ProfH.lt {w : World} {p : Nat} {t : Pst} {F : Nat → Prop} (h : ProfH w p t F) : ∀ b, F b → b < w.heap.size := by
  obtain ⟨mb, v, f, h⟩ := h
  exact h.lt
theorem ProfH.keep {w w' : World} {p : Nat} {t : Pst} {F : Nat → Prop} (h : ProfH w p t F) (hk : ∀ b, F b → w'.heap[b]? = w.heap[b]?) : ProfH w' p t F := by
  obtain ⟨mb, v, f, h⟩ := h
  exact ⟨mb, v, f, h.keep hk⟩
def theKit : Kit where
  V := Pw
  vkeep := fun h hb => h.below hb
  H := ProfH
  lt := fun h => h.lt
  keep := fun h hk => h.keep hk
  new := fun w s m h c hG _ _ _ _ hl => code_new w s m h c hG hl
  bad := fun w s m h c _ _ _ _ hl => code_bad w s m h c hl
  back := code_back
  left := code_left
  failed := code_failed
  tier := code_tier
  decs := code_decs
  text := code_text
theorem tPow : (Tryd.prog.globals[0]?).map (·.type) = some 149 := by kernel_rfl
theorem cPow : Tryd.prog.cellsOf 149 = 20 := by kernel_rfl
theorem cU64 : Tryd.prog.cellsOf 135 = 1 := by kernel_rfl
theorem pow_is : (Rows.laid_internal_strconv_uint64pow10 : DataW Unit) = Lib.tabData .u64 Lib.pow10Tab := by kernel_rfl
theorem pow_of {W : World} {l : List (String × DataW Unit)} (h : laidMet Tryd.prog l W) (hm : ("internal/strconv.uint64pow10", Rows.laid_internal_strconv_uint64pow10) ∈ l) : Pw W := by
  obtain ⟨g', t, cs, fuel, p, hg', ht, hv, hd⟩ := Lib.laidMet.reads h hm
  obtain rfl := Option.some.inj (gPow.symm.trans hg')
  obtain rfl := Option.some.inj (tPow.symm.trans ht)
  rw [pow_is] at hd
  unfold Pw Lib.TabIs
  rw [hv, ← Lib.cells_of_tab Tryd.underlying149 Tryd.underlying135 cU64 cPow hd]
def laidK : List (String × DataW Unit) := [("math/bits.deBruijn32tab", Rows.laid_math_bits_deBruijn32tab), ("math/bits.deBruijn64tab", Rows.laid_math_bits_deBruijn64tab), ("internal/strconv.uint64pow10", Rows.laid_internal_strconv_uint64pow10)]
theorem kit_v {W : World} (h : laidMet Tryd.prog laidK W) : theKit.V W := pow_of h (by simp [laidK])
end Go.Proofs.YtjoffbgfokedlaaDoor.Pf
