/-
  A region that draws its order, some of whose operations turn what the others read, and wait for them.
-/
import Derived.Test.YtkdpcnikgdbmaaaGreatDoorHa
import Derived.OrdersHeld
namespace Go.Proofs.YtkdpcnikgdbmaaaGreatDoor.Hp
open Go Go.RowKit

section
variable {P : Program} {ops : Array Oper} {Q : Exit → Go.Act → World → Prop} {md : Region.Mode} {S : World → Prop} {es : List Nat}
/-- S stands behind each operation that comes up, but for those of es. -/
def anyEx (P : Program) (md : Region.Mode) (ops : Array Oper) (Q : Exit → Go.Act → World → Prop) (es : List Nat) (S : World → Prop) : Nat → Array Bool → Go.Act → World → Prop
  | 0 => fun l a w => Region.ready md ops l = [] ∧ Q .normal a w
  | n + 1 => fun l a w => (Region.ready md ops l = [] → Q .normal a w) ∧ ∀ i, i ∈ Region.ready md ops l → wpOp P ops Q i (fun b v => (i ∈ es ∨ S v) ∧ anyEx P md ops Q es S n (l.setIfInBounds i true) b v) a w
theorem anyEx_plain (n : Nat) : ∀ (l : Array Bool) (a : Go.Act) (w : World), anyEx P md ops Q es S n l a w → wpAny P md ops Q n l a w := by
  induction n with
  | zero => exact fun _ _ _ h => h
  | succ n ih => exact fun l a w h => ⟨h.1, fun i hi => wpOp_mono (fun b v hb => ih _ b v hb.2) (h.2 i hi)⟩
/-- Number e waits for number i, by way of others too. -/
def reachB (md : Region.Mode) (ops : Array Oper) : Nat → Nat → Nat → Bool
  | 0, _, _ => false
  | f + 1, e, i => match ops[e]? with
    | some o => o.after.any fun x => Region.binds md x && (x.on == i || reachB md ops f x.on i)
    | none => false
/-- What has come up has come up behind all that it waits for. -/
def closedB (md : Region.Mode) (ops : Array Oper) (l : Array Bool) : Bool := (List.range ops.size).all fun d => !l.getD d false || match ops[d]? with
  | some o => o.after.all fun x => !Region.binds md x || l.getD x.on false
  | none => true
def Closed (md : Region.Mode) (ops : Array Oper) (l : Array Bool) : Prop := ∀ d o, l.getD d false = true → ops[d]? = some o → ∀ x ∈ o.after, Region.binds md x = true → l.getD x.on false = true
theorem closed_of {l : Array Bool} (h : closedB md ops l = true) : Closed md ops l := fun d o hd ho x hx hb => by
  have h1 := List.all_eq_true.1 h d (List.mem_range.2 (Array.getElem?_eq_some_iff.1 ho).1)
  simp only [hd, ho, Bool.not_true, Bool.false_or] at h1
  have h2 := Array.all_eq_true'.1 h1 x hx
  simpa [hb] using h2
theorem Closed.set {l : Array Bool} {j : Nat} {oj : Oper} (h : Closed md ops l) (hj : ops[j]? = some oj) (hall : ∀ x ∈ oj.after, Region.binds md x = true → l.getD x.on false = true) : Closed md ops (l.setIfInBounds j true) := fun d o hd ho x hx hb => by
  refine getD_set_true ?_
  by_cases e : d = j
  · subst e
    rw [hj] at ho
    injection ho with ho
    subst ho
    exact hall x hx hb
  · refine h d o ?_ ho x hx hb
    rwa [getD_set_ne false (fun e' => e e'.symm)] at hd
theorem reach_listed {l : Array Bool} (h : Closed md ops l) (f : Nat) : ∀ (d i : Nat) (o : Oper), ops[d]? = some o → (∀ x ∈ o.after, Region.binds md x = true → l.getD x.on false = true) → reachB md ops f d i = true → l.getD i false = true := by
  induction f with
  | zero => intro d i o _ _ hr; cases hr
  | succ f ih =>
    intro d i o ho hall hr
    unfold reachB at hr
    rw [ho] at hr
    obtain ⟨x, hx, hxx⟩ := Array.any_eq_true'.1 hr
    rw [Bool.and_eq_true, Bool.or_eq_true, beq_iff_eq] at hxx
    have hl := hall x hx hxx.1
    rcases hxx.2 with e | e
    · rw [← e]; exact hl
    · cases hox : ops[x.on]? with
      | none =>
        cases f with
        | zero => cases e
        | succ f => unfold reachB at e; rw [hox] at e; cases e
      | some ox => exact ih x.on i ox hox (fun y hy hb => h x.on ox hl hox y hy hb) e
theorem anyEx_first {i : Nat} {o : Oper} {u : Value} (hi : ops[i]? = some o) (hsel : ∀ (j : Nat) (o : Oper) cs b, ops[j]? = some o → o.op ≠ .select cs b) (hQ : ∀ c a w, Q (.panic c) (a.put o.dst u) w → Q (.panic c) a w) (hw : ∀ e ∈ es, reachB md ops ops.size e i = true) (n : Nat) :
    ∀ (l : Array Bool) (a : Go.Act) (w : World), Closed md ops l → (∀ j oj, ops[j]? = some oj → j ≠ i → l.getD j true = false → (∀ x ∈ oj.after, Region.binds md x = true → x.on ≠ i) → o.apart ops oj = true) →
      i ∈ Region.ready md ops l → YieldsIf P ops S o u a → S w → anyEx P md ops Q es S n (l.setIfInBounds i true) (a.put o.dst u) w → anyEx P md ops Q es S (n + 1) l a w := by
  induction n with
  | zero =>
    intro l a w _ _ hr hy hS h
    refine ⟨fun h0 => by simp [h0] at hr, fun j hj => ?_⟩
    rcases Nat.decEq j i with hne | rfl
    · have h2 := ready_mono hj hne
      rw [h.1] at h2
      simp at h2
    · exact hy.wpOp hi hS ⟨.inr hS, h⟩
  | succ n ih =>
    intro l a w hcl hfree hr hy hS h
    refine ⟨fun h0 => by simp [h0] at hr, fun j hj => ?_⟩
    rcases Nat.decEq j i with hne | rfl
    · obtain ⟨hun, oj, hoj, hall⟩ := mem_ready.1 hj
      have iun := (mem_ready.1 hr).1
      have inl : l.getD i false ≠ true := fun e => by
        by_cases hl : i < l.size
        · simp only [Array.getD_eq_getD_getElem?, Array.getElem?_eq_getElem hl, Option.getD_some] at e iun
          rw [e] at iun; cases iun
        · simp [Array.getElem?_eq_none (by omega : l.size ≤ i)] at e
      have hno : ∀ x ∈ oj.after, Region.binds md x = true → x.on ≠ i := fun x hx hb ex => inl (by rw [← ex]; exact hall x hx hb)
      have je : j ∉ es := fun ej => inl (reach_listed hcl ops.size j i oj hoj hall (hw j ej))
      have h3 := wpOp_putIf hoj (hfree j oj hoj hne hun hno) (fun cs b => hsel i o cs b hi) (fun cs b => hsel j oj cs b hoj) hQ hy (h.2 j (ready_mono hj hne))
      refine wpOp_mono (fun b v hb => ?_) h3
      have hSv := hb.2.1.resolve_left je
      refine ⟨.inr hSv, ih _ b v (hcl.set hoj hall) (fun k ok hok hki hkun hkno => hfree k ok hok hki ?_ hkno) (ready_mono hr (Ne.symm hne)) hb.1 hSv ?_⟩
      · by_cases ejk : j = k
        · rw [← ejk]; exact hun
        · rw [getD_set_ne true ejk] at hkun; exact hkun
      · rw [Array.setIfInBounds_comm _ _ hne]
        exact hb.2.2
    · exact hy.wpOp hi hS ⟨.inr hS, h⟩
theorem anyEx_take {i : Nat} {o : Oper} {u : Value} {n : Nat} {l : Array Bool} {a : Go.Act} {w : World} (hi : ops[i]? = some o) (hs : Region.noSelect ops = true) (hf : Region.free md ops l i = true) (hr : (Region.ready md ops l).contains i = true) (hc : closedB md ops l = true) (hw : es.all (fun e => reachB md ops ops.size e i) = true)
    (hQ : ∀ c a w, Q (.panic c) (a.put o.dst u) w → Q (.panic c) a w) (hy : YieldsIf P ops S o u a) (hS : S w) (h : anyEx P md ops Q es S n (l.setIfInBounds i true) (a.put o.dst u) w) : anyEx P md ops Q es S (n + 1) l a w :=
  anyEx_first hi (Region.noSelect_spec hs) hQ (fun e he => List.all_eq_true.1 hw e he) n l a w (closed_of hc) (Region.free_spec hi hf) (by simpa using hr) hy hS h
theorem anyEx_one {n : Nat} {l : Array Bool} {a : Go.Act} {w : World} (i : Nat) {o : Oper} (ho : ops[i]? = some o) (hr : Region.ready md ops l = [i]) (hw : Region.wanted o (yielded ops a.tmps) = true)
    (h : o.wp P a w (fun a' w' => (i ∈ es ∨ S w') ∧ anyEx P md ops Q es S n (l.setIfInBounds i true) a' w') Q) : anyEx P md ops Q es S (n + 1) l a w := by
  refine ⟨fun h0 => (by rw [hr] at h0; cases h0), fun j hj => ?_⟩
  rw [hr] at hj
  obtain rfl : j = i := by simpa using hj
  unfold wpOp
  simp only [ho, hw, if_true]
  exact .inl h
theorem anyEx_two {n : Nat} {l : Array Bool} {a : Go.Act} {w : World} (i j : Nat) {o r : Oper} (ho : ops[i]? = some o) (hj : ops[j]? = some r) (hr : Region.ready md ops l = [i, j]) (hw : Region.wanted o (yielded ops a.tmps) = true) (hv : Region.wanted r (yielded ops a.tmps) = true)
    (h : o.wp P a w (fun a' w' => (i ∈ es ∨ S w') ∧ anyEx P md ops Q es S n (l.setIfInBounds i true) a' w') Q) (k : r.wp P a w (fun a' w' => (j ∈ es ∨ S w') ∧ anyEx P md ops Q es S n (l.setIfInBounds j true) a' w') Q) : anyEx P md ops Q es S (n + 1) l a w := by
  refine ⟨fun h0 => (by rw [hr] at h0; cases h0), fun x hx => ?_⟩
  rw [hr] at hx
  have : x = i ∨ x = j := by simpa using hx
  rcases this with rfl | rfl
  · unfold wpOp
    simp only [ho, hw, if_true]
    exact .inl h
  · unfold wpOp
    simp only [hj, hv, if_true]
    exact .inl k
theorem region_plainX (S : World → Prop) (es : List Nat) {id : Nat} {a : Go.Act} {w : World} (hm : P.follows .mixedOrders = true)
    (h : anyEx P .any ops Q es S ops.size (Array.replicate ops.size false) a w.drew) : (Code.region id ops true).wp P Q a w :=
  wp_region_any hm (anyEx_plain _ _ _ _ h)
end
end Go.Proofs.YtkdpcnikgdbmaaaGreatDoor.Hp
