/-
  What package shape does, of the landed code: the kit of all walks.
  From the row's list of package-level variables to what the kit asks of them.
-/
import Derived.Test.YtnapfhnmccpffaaDoorMg
import Derived.Test.YtnapfhnmccpffaaDoorKi
import Derived.Test.YtnapfhnmccpffaaDoorRows
import Derived.ProofKit
import Derived.OpenShut
import Derived.Lib.LaidTab
import Derived.Lib.LaidU8
import Derived.LaidLaws
import Derived.MakeChecks
namespace Go.Proofs.YtnapfhnmccpffaaDoor.Sh
open Go Go.RowKit

/-- Bounds that all calls keep. -/
def Bd (t : Tre) : Prop := (∀ s, (t.sh s).names.length ≤ 64) ∧ ∀ s q, q ∈ (t.sh s).links → q.1.size ≤ maxLen
theorem Bd.n200 {t : Tre} (h : Bd t) (s : Nat) : (t.sh s).names.length ≤ 200 := Nat.le_trans (h.1 s) (by omega)
theorem Bd.nI {t : Tre} (h : Bd t) (s : Int) : (t.namesI s).length ≤ 200 := by
  unfold Tre.namesI
  split
  · exact h.n200 _
  · exact Nat.zero_le _
theorem Bd.new (fl : List (List ByteArray)) (h64 : ∀ ns ∈ fl, ns.length ≤ 64) : Bd (newT fl) := by
  have key : ∀ s, (((newT fl).sh s).names ∈ fl ∨ ((newT fl).sh s).names = []) ∧ ((newT fl).sh s).links = [] := fun s => by
    unfold Tre.sh newT
    rw [List.getD_eq_getElem?_getD, List.getElem?_mapIdx]
    cases h : fl[s]? with
    | none => exact ⟨.inr rfl, rfl⟩
    | some ns => exact ⟨.inl (List.mem_of_getElem? h), rfl⟩
  refine ⟨fun s => (key s).1.elim (h64 _) (fun e => by rw [e]; exact Nat.zero_le _), fun s q hq => ?_⟩
  rw [(key s).2] at hq
  simp at hq
theorem Bd.push {t : Tre} (h : Bd t) (k : Nat) {ns : List ByteArray} (hn : ns.length ≤ 64) : Bd (t.push k ns) := by
  refine ⟨fun s => ?_, fun s q hq => ?_⟩
  · rw [show (t.push k ns).sh s = if s = t.L.length then ⟨k, none, ns, []⟩ else t.sh s from sh_push t _ _ s]
    split
    · exact hn
    · exact h.1 s
  · rw [show (t.push k ns).sh s = if s = t.L.length then ⟨k, none, ns, []⟩ else t.sh s from sh_push t _ _ s] at hq
    split at hq
    · simp at hq
    · exact h.2 s q hq
theorem Bd.grow {t : Tre} (h : Bd t) {c : Nat} {nm : ByteArray} (hc : c < t.L.length) (hn : (t.sh c).names.length < 64) (hm : nm.size ≤ maxLen) : Bd (t.grow c nm) := by
  refine ⟨fun s => ?_, fun s q hq => ?_⟩
  · rw [grow_sh hc]
    split
    · rw [List.length_append]; exact hn
    · split
      · rename_i _ e
        exact h.1 _
      · exact h.1 s
  · rw [grow_sh hc] at hq
    split at hq
    · simp at hq
    · split at hq
      · rcases mem_ins hq with rfl | hq
        · exact hm
        · exact h.2 _ q hq
      · exact h.2 s q hq
theorem Bd.add {t : Tre} {m : Nat} (h : Bd t) (hw : t.WF m) (s : Int) {nm : ByteArray} (hm : nm.size ≤ maxLen) : Bd (t.add s nm).2 := by
  unfold Tre.add
  split
  · exact h
  · split
    · exact h
    · split
      · exact h
      · split
        · exact h
        · rename_i h1 _ _ _ h2
          have ht : t.there s = true := by simpa using h1
          have hc : t.canon s.toNat < t.L.length := canon_lt hw (by have := there_iff.1 ht; omega)
          refine h.grow hc ?_ hm
          have h3 : (t.namesI s).length < 64 := by omega
          unfold Tre.namesI at h3
          rw [if_pos ht] at h3
          rw [canon_names hw]
          exact h3
theorem Bd.merge {t : Tre} {m : Nat} (h : Bd t) (hw : t.WF m) (a b : Int) : Bd (t.merge a b).2 := by
  unfold Tre.merge
  split
  · exact h
  · rename_i h1
    dsimp only
    split
    · exact h
    · have ht : t.there b = true := by
        have h2 : t.alike a b = true := by simpa using h1
        unfold Tre.alike at h2
        simp only [Bool.and_eq_true] at h2
        exact h2.1.1.2
      have hy : t.canon b.toNat < t.L.length := canon_lt hw (by have := there_iff.1 ht; omega)
      have e : ∀ s, ((t.tie (t.canon a.toNat) (t.canon b.toNat)).sh s).names = (t.sh s).names ∧ ((t.tie (t.canon a.toNat) (t.canon b.toNat)).sh s).links = (t.sh s).links := fun s => by
        rw [tie_sh t _ hy]
        split
        · rename_i e; rw [e]; exact ⟨rfl, rfl⟩
        · exact ⟨rfl, rfl⟩
      exact ⟨fun s => by rw [(e s).1]; exact h.1 s, fun s q hq => by rw [(e s).2] at hq; exact h.2 s q hq⟩
theorem Bd.split {t : Tre} (h : Bd t) (a : Int) : Bd (t.split a).2 := by
  unfold Tre.split
  split
  · exact h
  · split
    · exact h
    · refine ⟨fun s => ?_, fun s q hq => ?_⟩
      · dsimp only
        rw [cut_sh]
        split
        · exact h.1 _
        · exact h.1 s
      · dsimp only at hq
        rw [cut_sh] at hq
        split at hq
        · simp at hq
        · obtain ⟨y, hy, rfl⟩ := List.mem_map.1 hq
          exact h.2 s y hy
theorem Bd.make {t : Tre} (h : Bd t) (k : Int) (ns : List ByteArray) : Bd (t.make k ns).2 := by
  unfold Tre.make
  split
  · exact h
  · rename_i h1
    split
    · exact h
    · split
      · exact h
      · split
        · exact h
        · refine h.push _ ?_
          have h2 : okNames ns = true := (Classical.not_not.1 h1).2.2
          exact (of_decide_eq_true h2).1
def CodeB (w : World) (p : Nat) (t : Tre) (F : Nat → Prop) : Prop := CodeH w p t F ∧ Bd t
theorem to_kit {w : World} {p : Nat} {F : Nat → Prop} {t' : Tre} {v : Value} (hb : Bd t') {e : Ending} {w' : World} (h : CodeTo w p F t' v e w') : ∃ F', e = .returned v ∧ CodeB w' p t' F' ∧ Chg F w w' ∧ Sub F F' w := by
  obtain ⟨F', h1, h2, h3, h4⟩ := h
  exact ⟨F', h1, ⟨h2, hb⟩, h3, h4⟩
def theKit : Kit where
  V := Pw
  vkeep := fun h hb => h.below hb
  H := CodeB
  lt := fun h => h.1.lt
  keep := fun h hk => ⟨h.1.keep hk, h.2⟩
  new := fun w A fl c hc h12 h64 => (code_new w A fl c hc h12 h64).mono fun _ _ ⟨p, F, h1, h2, h3, h4⟩ => ⟨p, F, h1, ⟨h2, Bd.new fl h64⟩, h3, h4⟩
  add := fun w p t F m s nm h hw hs hm => (code_add w p t F m s nm h.1 hw h.2.n200 hs hm).mono fun _ _ hh => to_kit (h.2.add hw s hm) hh
  merge := fun w p t F m a b h hw ha hb => (code_merge w p t F m a b h.1 hw h.2.n200 ha hb).mono fun _ _ hh => to_kit (h.2.merge hw a b) hh
  split := fun w p t F m a h hw ha => (code_split w p t F m a h.1 hw h.2.n200 h.2.2 ha).mono fun _ _ hh => to_kit (h.2.split a) hh
  make := fun w p t F m k A ns c h hw hk hs hl _ hc hz => (code_make w p t F m k A ns c h.1 hw h.2.n200 hk (hs.imp fun b hb => hb.1) hl hc hz).mono fun _ _ hh => to_kit (h.2.make k ns) hh
  find := fun w p t F m k A ns c h hw hk hs hl _ => code_find w p t F m k A ns c h.1 hw h.2.n200 hk hs hl
  names := fun w p t F m s h hw hs => code_names w p t F m s h.1 hw hs (h.2.nI s)
  slot := fun w p t F m s nm h hw hs _ => code_slot w p t F m s nm h.1 hw hs (h.2.nI s)
  cls := fun w p t F m s h hw hs => code_class w p t F m s h.1 hw hs
  canon := fun w p t F m s h hw hs => (code_canon w p t F m s h.1 hw hs).mono fun _ _ ⟨he, hw⟩ => ⟨he, by rw [← hw]; exact Below.refl _ _⟩
  root := fun w p t F m k h hw hk => (code_root w p t F m k h.1 hw hk).mono fun _ _ ⟨he, hw⟩ => ⟨he, by rw [← hw]; exact Below.refl _ _⟩
  count := fun w p t F m h _ => (code_count w p t F h.1).mono fun _ _ ⟨he, hw⟩ => ⟨he, by rw [← hw]; exact Below.refl _ _⟩
  text := fun w p t F m h hv hw h0 hsz => code_text w p t F m h.1 hw hv (List.length_pos_iff.2 h0) h.2.n200 hsz
end Go.Proofs.YtnapfhnmccpffaaDoor.Sh
namespace Go.Proofs.YtnapfhnmccpffaaDoor.Sh
open Go Go.RowKit Go.ChangeShapes Go.WideShapes Go.ChangeAt

theorem gPow : Tryd.prog.globalNamed "internal/strconv.uint64pow10" = some 0 := by kernel_rfl
theorem tPow : (Tryd.prog.globals[0]?).map (·.type) = some 136 := by kernel_rfl
theorem cPow : Tryd.prog.cellsOf 136 = 20 := by kernel_rfl
theorem cU64 : Tryd.prog.cellsOf 124 = 1 := by kernel_rfl
theorem pow_is : (Rows.laid_internal_strconv_uint64pow10 : DataW Unit) = Lib.tabData .u64 Lib.pow10Tab := by kernel_rfl
theorem pow_of {W : World} {l : List (String × DataW Unit)} (h : laidMet Tryd.prog l W) (hm : ("internal/strconv.uint64pow10", Rows.laid_internal_strconv_uint64pow10) ∈ l) : Pw W := by
  obtain ⟨g', t, cs, fuel, p, hg', ht, hv, hd⟩ := Lib.laidMet.reads h hm
  obtain rfl := Option.some.inj (gPow.symm.trans hg')
  obtain rfl := Option.some.inj (tPow.symm.trans ht)
  rw [pow_is] at hd
  unfold Pw Lib.TabIs
  rw [hv, ← Lib.cells_of_tab Tryd.underlying136 Tryd.underlying124 cU64 cPow hd]
def laidK : List (String × DataW Unit) := [("math/bits.deBruijn32tab", Rows.laid_math_bits_deBruijn32tab), ("math/bits.deBruijn64tab", Rows.laid_math_bits_deBruijn64tab), ("internal/strconv.uint64pow10", Rows.laid_internal_strconv_uint64pow10)]
theorem kit_v {W : World} (h : laidMet Tryd.prog laidK W) : theKit.V W := pow_of h (by simp [laidK])
end Go.Proofs.YtnapfhnmccpffaaDoor.Sh
