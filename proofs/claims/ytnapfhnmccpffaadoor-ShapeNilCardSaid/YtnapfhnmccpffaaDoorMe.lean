/-
  A region that draws its order, whose last operation alone turns what the others read.
-/
import Derived.Test.YtnapfhnmccpffaaDoorMb
import Derived.Test.YtnapfhnmccpffaaDoorKx
namespace Go.Proofs.YtnapfhnmccpffaaDoor.Sh
open Go Go.RowKit

section
variable {P : Program} {ops : Array Oper} {Q : Exit → Go.Act → World → Prop} {md : Region.Mode} {S : World → Prop} {e : Nat}
/-- S stands behind each operation that comes up, but for number e. -/
def anyBut (P : Program) (md : Region.Mode) (ops : Array Oper) (Q : Exit → Go.Act → World → Prop) (e : Nat) (S : World → Prop) : Nat → Array Bool → Go.Act → World → Prop
  | 0 => fun l a w => Region.ready md ops l = [] ∧ Q .normal a w
  | n + 1 => fun l a w => (Region.ready md ops l = [] → Q .normal a w) ∧ ∀ i, i ∈ Region.ready md ops l → wpOp P ops Q i (fun b v => (i = e ∨ S v) ∧ anyBut P md ops Q e S n (l.setIfInBounds i true) b v) a w
theorem anyBut_plain (n : Nat) : ∀ (l : Array Bool) (a : Go.Act) (w : World), anyBut P md ops Q e S n l a w → wpAny P md ops Q n l a w := by
  induction n with
  | zero => exact fun _ _ _ h => h
  | succ n ih => exact fun l a w h => ⟨h.1, fun i hi => wpOp_mono (fun b v hb => ih _ b v hb.2) (h.2 i hi)⟩
/-- Number e waits for number i. -/
def waitsFor (md : Region.Mode) (ops : Array Oper) (e i : Nat) : Bool := match ops[e]? with
  | some o => o.after.any (fun x => Region.binds md x && x.on == i)
  | none => true
theorem anyBut_first {i : Nat} {o : Oper} {u : Value} (hi : ops[i]? = some o) (hsel : ∀ (j : Nat) (o : Oper) cs b, ops[j]? = some o → o.op ≠ .select cs b) (hQ : ∀ c a w, Q (.panic c) (a.put o.dst u) w → Q (.panic c) a w) (hw : waitsFor md ops e i = true) (n : Nat) :
    ∀ (l : Array Bool) (a : Go.Act) (w : World), (∀ j oj, ops[j]? = some oj → j ≠ i → l.getD j true = false → (∀ x ∈ oj.after, Region.binds md x = true → x.on ≠ i) → o.apart ops oj = true) →
      i ∈ Region.ready md ops l → YieldsIf P ops S o u a → S w → anyBut P md ops Q e S n (l.setIfInBounds i true) (a.put o.dst u) w → anyBut P md ops Q e S (n + 1) l a w := by
  induction n with
  | zero =>
    intro l a w _ hr hy hS h
    refine ⟨fun h0 => by simp [h0] at hr, fun j hj => ?_⟩
    rcases Nat.decEq j i with hne | rfl
    · have h2 := ready_mono hj hne
      rw [h.1] at h2
      simp at h2
    · exact hy.wpOp hi hS ⟨.inr hS, h⟩
  | succ n ih =>
    intro l a w hfree hr hy hS h
    refine ⟨fun h0 => by simp [h0] at hr, fun j hj => ?_⟩
    rcases Nat.decEq j i with hne | rfl
    · obtain ⟨hun, oj, hoj, hall⟩ := mem_ready.1 hj
      have iun := (mem_ready.1 hr).1
      have hno : ∀ x ∈ oj.after, Region.binds md x = true → x.on ≠ i := fun x hx hb ex => by
        have h1 := hall x hx hb
        rw [ex] at h1
        by_cases hl : i < l.size
        · simp only [Array.getD_eq_getD_getElem?, Array.getElem?_eq_getElem hl, Option.getD_some] at h1 iun
          rw [h1] at iun; cases iun
        · simp [Array.getElem?_eq_none (by omega : l.size ≤ i)] at h1
      have je : j ≠ e := fun ej => by
        subst ej
        unfold waitsFor at hw
        rw [hoj] at hw
        obtain ⟨x, hx, hxx⟩ := Array.any_eq_true'.1 hw
        rw [Bool.and_eq_true, beq_iff_eq] at hxx
        exact hno x hx hxx.1 hxx.2
      have h3 := wpOp_putIf hoj (hfree j oj hoj hne hun hno) (fun cs b => hsel i o cs b hi) (fun cs b => hsel j oj cs b hoj) hQ hy (h.2 j (ready_mono hj hne))
      refine wpOp_mono (fun b v hb => ?_) h3
      have hSv := hb.2.1.resolve_left je
      refine ⟨.inr hSv, ih _ b v (fun k ok hok hki hkun hkno => hfree k ok hok hki ?_ hkno) (ready_mono hr (Ne.symm hne)) hb.1 hSv ?_⟩
      · by_cases ejk : j = k
        · rw [← ejk]; exact hun
        · rw [getD_set_ne true ejk] at hkun; exact hkun
      · rw [Array.setIfInBounds_comm _ _ hne]
        exact hb.2.2
    · exact hy.wpOp hi hS ⟨.inr hS, h⟩
theorem anyBut_take {i : Nat} {o : Oper} {u : Value} {n : Nat} {l : Array Bool} {a : Go.Act} {w : World} (hi : ops[i]? = some o) (hs : Region.noSelect ops = true) (hf : Region.free md ops l i = true) (hr : (Region.ready md ops l).contains i = true) (hw : waitsFor md ops e i = true)
    (hQ : ∀ c a w, Q (.panic c) (a.put o.dst u) w → Q (.panic c) a w) (hy : YieldsIf P ops S o u a) (hS : S w) (h : anyBut P md ops Q e S n (l.setIfInBounds i true) (a.put o.dst u) w) : anyBut P md ops Q e S (n + 1) l a w :=
  anyBut_first hi (Region.noSelect_spec hs) hQ hw n l a w (Region.free_spec hi hf) (by simpa using hr) hy hS h
theorem anyBut_one {n : Nat} {l : Array Bool} {a : Go.Act} {w : World} (i : Nat) {o : Oper} (ho : ops[i]? = some o) (hr : Region.ready md ops l = [i]) (hw : Region.wanted o (yielded ops a.tmps) = true)
    (h : o.wp P a w (fun a' w' => (i = e ∨ S w') ∧ anyBut P md ops Q e S n (l.setIfInBounds i true) a' w') Q) : anyBut P md ops Q e S (n + 1) l a w := by
  refine ⟨fun h0 => (by rw [hr] at h0; cases h0), fun j hj => ?_⟩
  rw [hr] at hj
  obtain rfl : j = i := by simpa using hj
  unfold wpOp
  simp only [ho, hw, if_true]
  exact .inl h
theorem region_roundE (S : World → Prop) (e : Nat) {l n id : Nat} {a : Go.Act} {w : World} (hm : P.follows .mixedOrders = true) (hd : ∀ (i : Nat) (o : Oper), ops[i]? = some o → ∀ c, o.op ≠ .defer c) (hQ : ¬ LetsOut Q)
    (h : anyBut P .any ops Q e S ops.size (Array.replicate ops.size false) a w.drew) : (Code.region id ops true).wpIn (Fence.wide.inRound l) n P Q a w :=
  wpIn_region_any hm (any_round l n hd hQ _ _ _ _ (anyBut_plain _ _ _ _ h))
end
end Go.Proofs.YtnapfhnmccpffaaDoor.Sh
