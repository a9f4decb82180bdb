/-
  The reference's Split: links that are turned, one after another.
  A region that draws its order, some of whose operations turn what the others have read by then.
  The reference's Split: the walk.
-/
import Derived.Test.YtjodmjadpooipaaGreatDoorUd
import Derived.Test.YtjodmjadpooipaaGreatDoorTh
namespace Go.Proofs.YtjodmjadpooipaaGreatDoor.Sh
open Go Go.RowKit

theorem tre_ext {t u : Tre} (hl : t.L.length = u.L.length) (hs : ∀ s, s < t.L.length → t.sh s = u.sh s) (hr : t.roots = u.roots) : t = u := by
  obtain ⟨L, r⟩ := t
  obtain ⟨M, q⟩ := u
  dsimp only at hl hr
  subst hr
  congr 1
  apply List.ext_getElem hl
  intro i h1 h2
  have := hs i h1
  rw [sh_lt h1, sh_lt (t := ⟨M, r⟩) h2] at this
  exact this
def fC (t : Tre) (c : Nat) (q : ByteArray × Nat) : ByteArray × Nat := (q.1, if t.canon q.2 = c then t.L.length else q.2)
def turnL (t : Tre) (c k j s : Nat) (l : List (ByteArray × Nat)) : List (ByteArray × Nat) := if s < k then l.map (fC t c) else if s = k then (l.take j).map (fC t c) ++ l.drop j else l
def Tre.turn (t : Tre) (c k j : Nat) : Tre := ⟨t.L.mapIdx fun s x => { x with links := turnL t c k j s x.links }, t.roots⟩
theorem turn_len (t : Tre) (c k j : Nat) : (t.turn c k j).L.length = t.L.length := by simp [Tre.turn]
theorem turn_sh (t : Tre) (c k j : Nat) {s : Nat} (hs : s < t.L.length) : (t.turn c k j).sh s = { t.sh s with links := turnL t c k j s (t.sh s).links } := by
  rw [sh_lt (by rw [turn_len]; exact hs), sh_lt hs]
  simp [Tre.turn]
theorem turn_zero (t : Tre) (c : Nat) : t.turn c 0 0 = t := tre_ext (turn_len t c 0 0) (fun s hs => by
  rw [turn_len] at hs
  rw [turn_sh t c 0 0 hs]
  unfold turnL
  rw [if_neg (by omega)]
  split <;> simp) rfl
theorem turn_row (t : Tre) (c k : Nat) : t.turn c k (t.sh k).links.length = t.turn c (k + 1) 0 := tre_ext (by rw [turn_len, turn_len]) (fun s hs => by
  rw [turn_len] at hs
  rw [turn_sh t c _ _ hs, turn_sh t c _ _ hs]
  congr 1
  unfold turnL
  by_cases h1 : s < k
  · rw [if_pos h1, if_pos (by omega)]
  · rw [if_neg h1]
    by_cases h2 : s = k
    · subst h2
      rw [if_pos rfl, if_pos (by omega), List.take_length, List.drop_length, List.append_nil]
    · rw [if_neg h2, if_neg (by omega)]
      split <;> simp) rfl
theorem turn_links (t : Tre) (c k j : Nat) (hk : k < t.L.length) : ((t.turn c k j).sh k).links = ((t.sh k).links.take j).map (fC t c) ++ (t.sh k).links.drop j := by
  rw [turn_sh t c k j hk]
  show turnL t c k j k (t.sh k).links = _
  unfold turnL
  rw [if_neg (by omega), if_pos rfl]
theorem turn_llen (t : Tre) (c k j : Nat) (hk : k < t.L.length) (hj : j ≤ (t.sh k).links.length) : ((t.turn c k j).sh k).links.length = (t.sh k).links.length := by
  rw [turn_links t c k j hk, List.length_append, List.length_map, List.length_take, List.length_drop]
  omega
theorem turn_get (t : Tre) (c k j : Nat) (hk : k < t.L.length) {q : ByteArray × Nat} (hq : (t.sh k).links[j]? = some q) : ((t.turn c k j).sh k).links[j]? = some q := by
  have hj := (List.getElem?_eq_some_iff.1 hq).1
  rw [turn_links t c k j hk, List.getElem?_append_right (by simp; omega), List.getElem?_drop, List.length_map, List.length_take, Nat.min_eq_left (by omega), Nat.sub_self, Nat.add_zero]
  exact hq
theorem turn_next (t : Tre) (c k j : Nat) (hk : k < t.L.length) {q : ByteArray × Nat} (hq : (t.sh k).links[j]? = some q) : t.turn c k (j + 1) = (t.turn c k j).relinked k (((t.turn c k j).sh k).links.set j (fC t c q)) := by
  have hkl : k < (t.turn c k j).L.length := by rw [turn_len]; exact hk
  refine tre_ext (by rw [turn_len, Tre.relinked, List.length_set, turn_len]) (fun s hs => ?_) rfl
  rw [turn_len] at hs
  rw [turn_sh t c k (j + 1) hs, relinked_sh _ _ hkl]
  by_cases e : s = k
  · subst e
    rw [if_pos rfl, turn_links t c s j hs, turn_sh t c s j hs]
    congr 1
    obtain ⟨hj, ej⟩ := List.getElem?_eq_some_iff.1 hq
    unfold turnL
    rw [if_neg (by omega), if_pos rfl, List.take_succ_eq_append_getElem hj, List.map_append, List.map_singleton, ej, List.append_assoc, List.set_append_right _ _ (by simp; omega)]
    congr 1
    rw [List.length_map, List.length_take, Nat.min_eq_left (by omega), Nat.sub_self]
    rw [show (t.sh s).links.drop j = q :: (t.sh s).links.drop (j + 1) by rw [← ej]; exact List.drop_eq_getElem_cons hj]
    rfl
  · rw [if_neg e, turn_sh t c k j hs]
    congr 1
    unfold turnL
    by_cases h1 : s < k
    · rw [if_pos h1, if_pos h1]
    · rw [if_neg h1, if_neg h1, if_neg e, if_neg e]
theorem turn_keep (t : Tre) (c k j : Nat) (hk : k < t.L.length) {q : ByteArray × Nat} (hq : (t.sh k).links[j]? = some q) (hc : t.canon q.2 ≠ c) : t.turn c k (j + 1) = t.turn c k j := by
  rw [turn_next t c k j hk hq]
  have hg := turn_get t c k j hk hq
  have e : fC t c q = q := by unfold fC; rw [if_neg hc]
  rw [e]
  have hkl : k < (t.turn c k j).L.length := by rw [turn_len]; exact hk
  obtain ⟨hj, ej⟩ := List.getElem?_eq_some_iff.1 hg
  refine tre_ext (by rw [Tre.relinked, List.length_set]) (fun s _ => ?_) rfl
  rw [relinked_sh _ _ hkl]
  by_cases es : s = k
  · subst es
    rw [if_pos rfl, ← ej, List.set_getElem_self]
  · rw [if_neg es]
theorem turn_all (t : Tre) (c : Nat) : (t.turn c t.L.length 0).L = t.L.map fun x => { x with links := x.links.map fun p => (p.1, if t.canon p.2 = c then t.L.length else p.2) } := by
  apply List.ext_getElem (by rw [turn_len, List.length_map])
  intro i h1 h2
  rw [turn_len] at h1
  simp only [Tre.turn, List.getElem_mapIdx, List.getElem_map]
  congr 1
  unfold turnL
  rw [if_pos h1]
  rfl
theorem cut_is (t : Tre) (c : Nat) : t.cut c = (⟨(t.turn c t.L.length 0).L, if t.root (t.sh c).cls = c then t.roots.set (t.sh c).cls t.L.length else t.roots⟩ : Tre).push (t.sh c).cls (t.sh c).names := by
  unfold Tre.cut Tre.push
  rw [turn_all]
/-- One transition turned, in place. -/
theorem link_set {w : World} {p : Nat} {t : Tre} {F : Nat → Prop} {gL cL : Nat} {vR : Value} {hd : Nat → Hd} (h : RefAt w p t F gL cL vR hd) {s g kc j n : Nat} {q : ByteArray × Nat} (hs : s < t.L.length) (hv : (hd s).lv = .slice (some ⟨g, 0, none⟩) (t.sh s).links.length kc) (hq : (t.sh s).links[j]? = some q) :
    RefAt (w.setCell ⟨g, j * 2 + 1, none⟩ (.int .i64 (n : Int))) p (t.relinked s ((t.sh s).links.set j (q.1, n))) F gL cL vR hd := by
  have far : ∀ b, b ≠ g → (w.setCell ⟨g, j * 2 + 1, none⟩ (.int .i64 (n : Int))).heap[b]? = w.heap[b]? := fun b hb => Below.heap_setCell w _ _ b (fun e => hb e)
  have hz : (w.setCell ⟨g, j * 2 + 1, none⟩ (.int .i64 (n : Int))).heap.size = w.heap.size := by simp [World.setCell]
  have hL : (t.relinked s ((t.sh s).links.set j (q.1, n))).L.length = t.L.length := by simp [Tre.relinked]
  have S := relinked_sh t ((t.sh s).links.set j (q.1, n)) hs
  have SN : ∀ r, ((t.relinked s ((t.sh s).links.set j (q.1, n))).sh r).names = (t.sh r).names := fun r => by
    rw [S]; by_cases e : r = s
    · subst e; rw [if_pos rfl]
    · rw [if_neg e]
  obtain ⟨xs, o, hx⟩ := h.rows
  obtain ⟨ys, o2, hy⟩ := h.links s hs
  rw [hv] at o2
  have hg := o2.lt g rfl
  obtain ⟨hj, ej⟩ := List.getElem?_eq_some_iff.1 hq
  refine ⟨fun b hb => by rw [hz]; exact h.lt b hb, ?_, h.fp, ⟨xs, ?_, fun r hr i u hu => ?_⟩, h.fL, ?_, h.fR, fun r hr => ?_, fun r hr => ?_, fun r hr => h.fK r (by omega), fun r r' hr hr' => h.apart r r' (by omega) (by omega)⟩
  · unfold Bk
    rw [far p (fun e => bk_ne o2 h.hp (by decide) (by rw [e]; rfl)), hL]
    exact h.hp
  · rw [hL]
    exact own_keep o fun b hb => far b fun e => by subst e; exact own_ne o o2 (by decide) _ hb rfl
  · rw [hL] at hr
    have e : rowOf ((t.relinked s ((t.sh s).links.set j (q.1, n))).sh r) (hd r) = rowOf (t.sh r) (hd r) := by
      rw [S]
      by_cases e : r = s
      · subst e; rw [if_pos rfl]; rfl
      · rw [if_neg e]
    rw [e] at hu
    exact hx r hr i u hu
  · exact own_keep h.roots fun b hb => far b fun e => by subst e; exact own_ne h.roots o2 (by decide) _ hb rfl
  · rw [hL] at hr
    rw [SN r]
    exact (h.names r hr).keep fun b hb => by
      have hb2 : b ≠ g := fun e => by subst e; exact str_ne o2 hb.2 (by decide) rfl
      obtain ⟨cs, hc⟩ := hb.2
      exact ⟨⟨hb.1, cs, by rw [far b hb2]; exact hc⟩, far b hb2⟩
  · rw [hL] at hr
    rw [S]
    by_cases e : r = s
    · subst e
      rw [if_pos rfl, hv]
      refine ⟨ys.set (j * 2 + 1) (.int .i64 (n : Int)), ?_, fun i q' hq' => ?_⟩
      · rw [show ((t.sh r).links.set j (q.1, n)).length = (t.sh r).links.length from List.length_set ..]
        exact (World.ownsRow.stored o2 _ _).1
      · have hlen : ys.length = (t.sh r).links.length * 2 := o2.1
        by_cases ei : i = j
        · subst ei
          rw [show ((t.sh r).links.set i (q.1, n))[i]? = some (q.1, n) from List.getElem?_set_self hj] at hq'
          injection hq' with hq'
          subst hq'
          exact ⟨by rw [List.getElem?_set_ne (by omega)]; exact (hy i q hq).1, List.getElem?_set_self (by omega)⟩
        · rw [show ((t.sh r).links.set j (q.1, n))[i]? = (t.sh r).links[i]? from List.getElem?_set_ne (Ne.symm ei)] at hq'
          exact ⟨by rw [List.getElem?_set_ne (by omega)]; exact (hy i q' hq').1, by rw [List.getElem?_set_ne (by omega)]; exact (hy i q' hq').2⟩
    · rw [if_neg e]
      obtain ⟨zs, o3, hz3⟩ := h.links r hr
      refine ⟨zs, own_keep o3 fun b hb => far b fun e2 => ?_, hz3⟩
      subst e2
      exact h.apart r s hr hs e b hb (by rw [hv]; rfl)
/-- A root turned. -/
theorem root_set {w : World} {p : Nat} {t : Tre} {F : Nat → Prop} {gL cL g c : Nat} {hd : Nat → Hd} (h : RefAt w p t F gL cL (.slice (some ⟨g, 0, none⟩) t.roots.length c) hd) (k n : Nat) :
    RefAt (w.setCell ⟨g, k, none⟩ (.int .i64 (n : Int))) p ⟨t.L, t.roots.set k n⟩ F gL cL (.slice (some ⟨g, 0, none⟩) t.roots.length c) hd := by
  have far : ∀ b, b ≠ g → (w.setCell ⟨g, k, none⟩ (.int .i64 (n : Int))).heap[b]? = w.heap[b]? := fun b hb => Below.heap_setCell w _ _ b (fun e => hb e)
  have hz : (w.setCell ⟨g, k, none⟩ (.int .i64 (n : Int))).heap.size = w.heap.size := by simp [World.setCell]
  obtain ⟨xs, o, hx⟩ := h.rows
  have o2 := h.roots
  refine ⟨fun b hb => by rw [hz]; exact h.lt b hb, ?_, h.fp, ⟨xs, ?_, hx⟩, h.fL, ?_, h.fR, fun r hr => ?_, fun r hr => ?_, h.fK, h.apart⟩
  · unfold Bk
    rw [far p (fun e => bk_ne o2 h.hp (by decide) (by rw [e]; rfl))]
    exact h.hp
  · exact own_keep o fun b hb => far b fun e => by subst e; exact own_ne o o2 (by decide) _ hb rfl
  · have := (World.ownsRow.stored o2 k (.int .i64 (n : Int))).1
    show World.ownsRow _ 0 _ 1 _ (t.roots.set k n).length ((t.roots.set k n).map fun (k : Nat) => Value.int .i64 (k : Int))
    rw [List.length_set, List.map_set]
    exact this
  · exact (h.names r hr).keep fun b hb => by
      have hb2 : b ≠ g := fun e => by subst e; exact str_ne o2 hb.2 (by decide) rfl
      obtain ⟨cs, hc⟩ := hb.2
      exact ⟨⟨hb.1, cs, by rw [far b hb2]; exact hc⟩, far b hb2⟩
  · obtain ⟨zs, o3, hz3⟩ := h.links r hr
    exact ⟨zs, own_keep o3 fun b hb => far b fun e2 => by subst e2; exact own_ne o3 o2 (by decide) _ hb rfl, hz3⟩
end Go.Proofs.YtjodmjadpooipaaGreatDoor.Sh
namespace Go.Proofs.YtjodmjadpooipaaGreatDoor.Sh
open Go Go.RowKit

section
variable {P : Program} {ops : Array Oper} {Q : Exit → Go.Act → World → Prop} {md : Region.Mode} {S : World → Prop} {es : List Nat}
/-- S stands behind each operation that comes up, but for those of es. -/
def anyEx (P : Program) (md : Region.Mode) (ops : Array Oper) (Q : Exit → Go.Act → World → Prop) (es : List Nat) (S : World → Prop) : Nat → Array Bool → Go.Act → World → Prop
  | 0 => fun l a w => Region.ready md ops l = [] ∧ Q .normal a w
  | n + 1 => fun l a w => (Region.ready md ops l = [] → Q .normal a w) ∧ ∀ i, i ∈ Region.ready md ops l → wpOp P ops Q i (fun b v => (i ∈ es ∨ S v) ∧ anyEx P md ops Q es S n (l.setIfInBounds i true) b v) a w
theorem anyEx_plain (n : Nat) : ∀ (l : Array Bool) (a : Go.Act) (w : World), anyEx P md ops Q es S n l a w → wpAny P md ops Q n l a w := by
  induction n with
  | zero => exact fun _ _ _ h => h
  | succ n ih => exact fun l a w h => ⟨h.1, fun i hi => wpOp_mono (fun b v hb => ih _ b v hb.2) (h.2 i hi)⟩
/-- Number e waits for number i, by way of others too. -/
def reachB (md : Region.Mode) (ops : Array Oper) : Nat → Nat → Nat → Bool
  | 0, _, _ => false
  | f + 1, e, i => match ops[e]? with
    | some o => o.after.any fun x => Region.binds md x && (x.on == i || reachB md ops f x.on i)
    | none => false
/-- What has come up has come up behind all that it waits for. -/
def closedB (md : Region.Mode) (ops : Array Oper) (l : Array Bool) : Bool := (List.range ops.size).all fun d => !l.getD d false || match ops[d]? with
  | some o => o.after.all fun x => !Region.binds md x || l.getD x.on false
  | none => true
def Closed (md : Region.Mode) (ops : Array Oper) (l : Array Bool) : Prop := ∀ d o, l.getD d false = true → ops[d]? = some o → ∀ x ∈ o.after, Region.binds md x = true → l.getD x.on false = true
theorem closed_of {l : Array Bool} (h : closedB md ops l = true) : Closed md ops l := fun d o hd ho x hx hb => by
  have h1 := List.all_eq_true.1 h d (List.mem_range.2 (Array.getElem?_eq_some_iff.1 ho).1)
  simp only [hd, ho, Bool.not_true, Bool.false_or] at h1
  have h2 := Array.all_eq_true'.1 h1 x hx
  simpa [hb] using h2
theorem Closed.set {l : Array Bool} {j : Nat} {oj : Oper} (h : Closed md ops l) (hj : ops[j]? = some oj) (hall : ∀ x ∈ oj.after, Region.binds md x = true → l.getD x.on false = true) : Closed md ops (l.setIfInBounds j true) := fun d o hd ho x hx hb => by
  refine getD_set_true ?_
  by_cases e : d = j
  · subst e
    rw [hj] at ho
    injection ho with ho
    subst ho
    exact hall x hx hb
  · refine h d o ?_ ho x hx hb
    rwa [getD_set_ne false (fun e' => e e'.symm)] at hd
theorem reach_listed {l : Array Bool} (h : Closed md ops l) (f : Nat) : ∀ (d i : Nat) (o : Oper), ops[d]? = some o → (∀ x ∈ o.after, Region.binds md x = true → l.getD x.on false = true) → reachB md ops f d i = true → l.getD i false = true := by
  induction f with
  | zero => intro d i o _ _ hr; cases hr
  | succ f ih =>
    intro d i o ho hall hr
    unfold reachB at hr
    rw [ho] at hr
    obtain ⟨x, hx, hxx⟩ := Array.any_eq_true'.1 hr
    rw [Bool.and_eq_true, Bool.or_eq_true, beq_iff_eq] at hxx
    have hl := hall x hx hxx.1
    rcases hxx.2 with e | e
    · rw [← e]; exact hl
    · cases hox : ops[x.on]? with
      | none =>
        cases f with
        | zero => cases e
        | succ f => unfold reachB at e; rw [hox] at e; cases e
      | some ox => exact ih x.on i ox hox (fun y hy hb => h x.on ox hl hox y hy hb) e
theorem anyEx_first {i : Nat} {o : Oper} {u : Value} (hi : ops[i]? = some o) (hsel : ∀ (j : Nat) (o : Oper) cs b, ops[j]? = some o → o.op ≠ .select cs b) (hQ : ∀ c a w, Q (.panic c) (a.put o.dst u) w → Q (.panic c) a w) (hw : ∀ e ∈ es, reachB md ops ops.size e i = true) (n : Nat) :
    ∀ (l : Array Bool) (a : Go.Act) (w : World), Closed md ops l → (∀ j oj, ops[j]? = some oj → j ≠ i → l.getD j true = false → (∀ x ∈ oj.after, Region.binds md x = true → x.on ≠ i) → o.apart ops oj = true) →
      i ∈ Region.ready md ops l → YieldsIf P ops S o u a → S w → anyEx P md ops Q es S n (l.setIfInBounds i true) (a.put o.dst u) w → anyEx P md ops Q es S (n + 1) l a w := by
  induction n with
  | zero =>
    intro l a w _ _ hr hy hS h
    refine ⟨fun h0 => by simp [h0] at hr, fun j hj => ?_⟩
    rcases Nat.decEq j i with hne | rfl
    · have h2 := ready_mono hj hne
      rw [h.1] at h2
      simp at h2
    · exact hy.wpOp hi hS ⟨.inr hS, h⟩
  | succ n ih =>
    intro l a w hcl hfree hr hy hS h
    refine ⟨fun h0 => by simp [h0] at hr, fun j hj => ?_⟩
    rcases Nat.decEq j i with hne | rfl
    · obtain ⟨hun, oj, hoj, hall⟩ := mem_ready.1 hj
      have iun := (mem_ready.1 hr).1
      have inl : l.getD i false ≠ true := fun e => by
        by_cases hl : i < l.size
        · simp only [Array.getD_eq_getD_getElem?, Array.getElem?_eq_getElem hl, Option.getD_some] at e iun
          rw [e] at iun; cases iun
        · simp [Array.getElem?_eq_none (by omega : l.size ≤ i)] at e
      have hno : ∀ x ∈ oj.after, Region.binds md x = true → x.on ≠ i := fun x hx hb ex => inl (by rw [← ex]; exact hall x hx hb)
      have je : j ∉ es := fun ej => inl (reach_listed hcl ops.size j i oj hoj hall (hw j ej))
      have h3 := wpOp_putIf hoj (hfree j oj hoj hne hun hno) (fun cs b => hsel i o cs b hi) (fun cs b => hsel j oj cs b hoj) hQ hy (h.2 j (ready_mono hj hne))
      refine wpOp_mono (fun b v hb => ?_) h3
      have hSv := hb.2.1.resolve_left je
      refine ⟨.inr hSv, ih _ b v (hcl.set hoj hall) (fun k ok hok hki hkun hkno => hfree k ok hok hki ?_ hkno) (ready_mono hr (Ne.symm hne)) hb.1 hSv ?_⟩
      · by_cases ejk : j = k
        · rw [← ejk]; exact hun
        · rw [getD_set_ne true ejk] at hkun; exact hkun
      · rw [Array.setIfInBounds_comm _ _ hne]
        exact hb.2.2
    · exact hy.wpOp hi hS ⟨.inr hS, h⟩
theorem anyEx_take {i : Nat} {o : Oper} {u : Value} {n : Nat} {l : Array Bool} {a : Go.Act} {w : World} (hi : ops[i]? = some o) (hs : Region.noSelect ops = true) (hf : Region.free md ops l i = true) (hr : (Region.ready md ops l).contains i = true) (hc : closedB md ops l = true) (hw : es.all (fun e => reachB md ops ops.size e i) = true)
    (hQ : ∀ c a w, Q (.panic c) (a.put o.dst u) w → Q (.panic c) a w) (hy : YieldsIf P ops S o u a) (hS : S w) (h : anyEx P md ops Q es S n (l.setIfInBounds i true) (a.put o.dst u) w) : anyEx P md ops Q es S (n + 1) l a w :=
  anyEx_first hi (Region.noSelect_spec hs) hQ (fun e he => List.all_eq_true.1 hw e he) n l a w (closed_of hc) (Region.free_spec hi hf) (by simpa using hr) hy hS h
theorem anyEx_one {n : Nat} {l : Array Bool} {a : Go.Act} {w : World} (i : Nat) {o : Oper} (ho : ops[i]? = some o) (hr : Region.ready md ops l = [i]) (hw : Region.wanted o (yielded ops a.tmps) = true)
    (h : o.wp P a w (fun a' w' => (i ∈ es ∨ S w') ∧ anyEx P md ops Q es S n (l.setIfInBounds i true) a' w') Q) : anyEx P md ops Q es S (n + 1) l a w := by
  refine ⟨fun h0 => (by rw [hr] at h0; cases h0), fun j hj => ?_⟩
  rw [hr] at hj
  obtain rfl : j = i := by simpa using hj
  unfold wpOp
  simp only [ho, hw, if_true]
  exact .inl h
theorem anyEx_two {n : Nat} {l : Array Bool} {a : Go.Act} {w : World} (i j : Nat) {o r : Oper} (ho : ops[i]? = some o) (hj : ops[j]? = some r) (hr : Region.ready md ops l = [i, j]) (hw : Region.wanted o (yielded ops a.tmps) = true) (hv : Region.wanted r (yielded ops a.tmps) = true)
    (h : o.wp P a w (fun a' w' => (i ∈ es ∨ S w') ∧ anyEx P md ops Q es S n (l.setIfInBounds i true) a' w') Q) (k : r.wp P a w (fun a' w' => (j ∈ es ∨ S w') ∧ anyEx P md ops Q es S n (l.setIfInBounds j true) a' w') Q) : anyEx P md ops Q es S (n + 1) l a w := by
  refine ⟨fun h0 => (by rw [hr] at h0; cases h0), fun x hx => ?_⟩
  rw [hr] at hx
  have : x = i ∨ x = j := by simpa using hx
  rcases this with rfl | rfl
  · unfold wpOp
    simp only [ho, hw, if_true]
    exact .inl h
  · unfold wpOp
    simp only [hj, hv, if_true]
    exact .inl k
theorem region_plainX (S : World → Prop) (es : List Nat) {id : Nat} {a : Go.Act} {w : World} (hm : P.follows .mixedOrders = true)
    (h : anyEx P .any ops Q es S ops.size (Array.replicate ops.size false) a w.drew) : (Code.region id ops true).wp P Q a w :=
  wp_region_any hm (anyEx_plain _ _ _ _ h)
end
end Go.Proofs.YtjodmjadpooipaaGreatDoor.Sh
namespace Go.Proofs.YtjodmjadpooipaaGreatDoor.Sh
open Go Go.RowKit

theorem rows_there (w : World) (p n s : Nat) (A : Option Addr) (c : Nat) (c0 : w.cell? ⟨p, 0, none⟩ = some (.slice A n c)) (hs : s < n) :
    Calls Tryz.prog 40 #[.pointer (some ⟨p, 0, none⟩), .int .i64 (s : Int)] w fun e w' => e = .returned (.bool true) ∧ w = w' := by
  have h1 : (0 : Int) ≤ s := by omega
  have h2 : (s : Int) < n := by omega
  go_enter Tryz.func40, Tryz.ntmps40
  go_wp2
  go_ret
  exact ⟨rfl, rfl⟩
/-- Canon, by the rows alone. -/
theorem rows_canonR (w : World) (p g c : Nat) (t : Tre) (m s : Nat) (c0 : w.cell? ⟨p, 0, none⟩ = some (.slice (some ⟨g, 0, none⟩) t.L.length c)) (hr : ∀ r, r < t.L.length → w.cell? ⟨g, r * 4 + 1, none⟩ = some (.int .i64 (aliV (t.sh r)))) (hw : t.WF m) (sl : s < t.L.length) :
    Calls Tryz.prog 17 #[.pointer (some ⟨p, 0, none⟩), .int .i64 (s : Int)] w fun e w' => e = .returned (.int .i64 (t.canon s : Nat)) ∧ w = w' := by
  have HR := Lib.hid hr
  have W := Lib.hid hw
  have few := hw.few
  have TH := Lib.hid (rows_there w p t.L.length s _ _ c0 sl)
  clear hw hr
  go_enter Tryz.func17, Tryz.ntmps17
  go_wp2_with fail
  refine TH.out.mono ?_
  rintro e w' ⟨rfl, rfl⟩
  go_wp2_with fail
  go_loop [1] (fun i => ∃ n : Nat, n < t.L.length ∧ i = .int .i64 n ∧ Hid (t.canon n = t.canon s)) (fun i => rk t t.als (intOf i).toNat)
  case atStart => exact ⟨s, sl, rfl, Lib.hid rfl⟩
  case round =>
    obtain ⟨n, hn, rfl, hc⟩ := hrel
    have c1 := HR.out n hn
    cases ha : (t.sh n).ali with
    | some a =>
      rw [ali_some ha] at c1
      have HH := Lib.hid (show hop t n = a by unfold hop; rw [ha])
      have al : a < t.L.length := (W.out.al n a ha).1
      have RK := Lib.hid (rk_less W.out (n := n) (by rw [ha]; simp))
      clear ha
      go_wp2
      go_round
      case rel => exact ⟨a, al, rfl, Lib.hid (by rw [← HH.out, canon_hop W.out, hc.out])⟩
      case measure =>
        have := RK.out
        rw [HH.out] at this
        simpa [intOf] using this
    | none =>
      rw [ali_none ha] at c1
      have HE := Lib.hid (show t.canon s = n by rw [← hc.out, canon_fix ha])
      clear ha
      go_wp2
      go_ret
      exact ⟨by rw [HE.out]; rfl, rfl⟩
/-- Root, by the rows alone. -/
theorem rows_rootR (w : World) (p g c gr cr : Nat) (t : Tre) (m k : Nat) (c0 : w.cell? ⟨p, 0, none⟩ = some (.slice (some ⟨g, 0, none⟩) t.L.length c)) (hr : ∀ r, r < t.L.length → w.cell? ⟨g, r * 4 + 1, none⟩ = some (.int .i64 (aliV (t.sh r)))) (hw : t.WF m)
    (c1 : w.cell? ⟨p, 1, none⟩ = some (.slice (some ⟨gr, 0, none⟩) t.roots.length cr)) (hk : k < t.roots.length) (rc : w.cell? ⟨gr, k, none⟩ = some (.int .i64 (t.roots.getD k 0 : Nat))) :
    Calls Tryz.prog 21 #[.pointer (some ⟨p, 0, none⟩), .int .i64 (k : Int)] w fun e w' => e = .returned (.int .i64 (t.root k : Nat)) ∧ w = w' := by
  obtain ⟨q, hq⟩ : ∃ q, t.roots.getD k 0 = q := ⟨_, rfl⟩
  have ql : q < t.L.length := by rw [← hq]; exact (hw.ro k (by rw [← hw.rl]; exact hk)).1
  have CA := Lib.hid (rows_canonR w p g c t m q c0 hr hw ql)
  have E := Lib.hid (show t.canon q = t.root k by unfold Tre.root; rw [hq])
  rw [hq] at rc
  have h1 : (k : Int) < t.roots.length := by omega
  have h2 : ¬ (k : Int) < 0 := by omega
  have h3 : ¬ (t.roots.length : Int) ≤ k := by omega
  clear hr hw hq
  go_enter Tryz.func21, Tryz.ntmps21
  go_wp2_with fail
  refine CA.out.mono ?_
  rintro e w' ⟨rfl, rfl⟩
  go_wp2_with fail
  go_ret
  exact ⟨by rw [E.out]; rfl, rfl⟩
set_option maxRecDepth 100000 in
set_option maxHeartbeats 8000000 in
theorem ref_split (w : World) (p : Nat) (t : Tre) (F : Nat → Prop) (m : Nat) (a : Int) (h : RefH w p t F) (hw : t.WF m) (hsr : Srt t) (h64 : ∀ s, (t.sh s).names.length ≤ 200) (ha : I64 a) :
    Calls Tryz.prog 33 #[.pointer (some ⟨p, 0, none⟩), .int .i64 a] w (RefTo w p F (t.split a).2 (mkV (t.split a).1)) := by
  have H := Lib.hid h
  have W := Lib.hid hw
  have H64 := Lib.hid h64
  have HS := Lib.hid ha
  have SRT := Lib.hid hsr
  have few := hw.few
  obtain ⟨R, hR⟩ : ∃ R, t.split a = R := ⟨_, rfl⟩
  rw [hR]
  cases hb : t.there a
  · have HR := Lib.hid (show R = ((0, 1), t) by rw [← hR]; unfold Tre.split; rw [if_pos hb])
    have HB := Lib.hid hb
    have G := Lib.hid (RefTo.same (v := mkV (0, 1)) H.out 0)
    clear h hw hsr h64 ha hR hb
    go_enter Tryz.func33, Tryz.ntmps33
    go_wp2_with fail
    refine (ref_there _ p t F a H.out HS.out false HB.out).mono ?_
    rintro e w' ⟨rfl, rfl⟩
    go_wp2_with fail
    go_ret2
    rw [HR.out]
    exact G.out
  · have HB := Lib.hid hb
    obtain ⟨s, rfl⟩ := Int.eq_ofNat_of_zero_le (there_iff.1 hb).1
    have sl : s < t.L.length := (there_iff.1 hb).2
    obtain ⟨gL, cL, vR, hd, h⟩ := h
    have HA := Lib.hid h
    have c0 := h.c0
    have hcap := h.cap
    by_cases h200 : 200 ≤ t.L.length
    · have HR := Lib.hid (show R = ((0, 2), t) by rw [← hR]; unfold Tre.split; rw [if_neg (by rw [hb]; decide), if_pos h200])
      have G := Lib.hid (RefTo.same (v := mkV (0, 2)) H.out 0)
      clear h hw hsr h64 ha hR hb
      go_enter Tryz.func33, Tryz.ntmps33
      go_wp2_with fail
      refine (ref_there _ p t F _ H.out HS.out true HB.out).mono ?_
      rintro e w' ⟨rfl, rfl⟩
      go_wp2_with fail
      go_ret2
      rw [HR.out]
      exact G.out
    · obtain ⟨c, hc⟩ : ∃ c, t.canon s = c := ⟨_, rfl⟩
      have cl : c < t.L.length := by rw [← hc]; exact canon_lt W.out sl
      have HR := Lib.hid (show R = (((t.L.length : Int), 0), t.cut c) by rw [← hR]; unfold Tre.split; rw [if_neg (by rw [hb]; decide), if_neg h200, Int.toNat_natCast, hc])
      have CI := Lib.hid (show t.canonI (s : Int) = (c : Int) by rw [canonI_nat sl, hc])
      have R1 := Lib.hid (show ∀ r, r < t.L.length → w.cell? ⟨gL, r * 4 + 1, none⟩ = some (.int .i64 (aliV (t.sh r))) from fun r hr => h.r1 hr)
      have hmx : Tryz.prog.follows .mixedOrders = true := by kernel_rfl
      have pl := h.hp.lt
      obtain ⟨N, hN⟩ : ∃ N, t.L.length = N := ⟨_, rfl⟩
      have HNe := Lib.hid hN
      have st0 := Lib.hid (show RefAt w p (t.turn c 0 0) F gL cL vR hd by rw [turn_zero]; exact h)
      clear h hw hsr h64 ha hR hb hc
      go_enter Tryz.func33, Tryz.ntmps33
      go_wp2_with fail
      refine (ref_there _ p t F _ H.out HS.out true HB.out).mono ?_
      rintro e w' ⟨rfl, rfl⟩
      go_wp2_with fail
      refine (ref_canon w p t F m (s : Int) H.out W.out HS.out).mono ?_
      rintro e w' ⟨rfl, rfl⟩
      rw [CI.out]
      go_wp2_with fail
      rw [hN] at few h200 cl sl hcap c0
      go_loopw [8] (fun i wr => ∃ k : Nat, k ≤ N ∧ i = .int .i64 k ∧ Hid (RefAt wr p (t.turn c k 0) F gL cL vR hd) ∧ Hid (Chg F w wr)) (fun i _ => N - (intOf i).toNat)
      case atStart => exact ⟨0, by omega, rfl, st0, Lib.hid (Chg.refl _ _)⟩
      case round =>
        obtain ⟨k, hk, rfl, hr, hch⟩ := hrel
        have d0 := hr.out.c0
        rw [turn_len, HNe.out] at d0
        by_cases hlt : k < N
        · have hki : (k : Int) < N := by omega
          have kt : k < t.L.length := by rw [HNe.out]; exact hlt
          obtain ⟨LN, hLN⟩ : ∃ LN, (t.sh k).links.length = LN := ⟨_, rfl⟩
          have LNE := Lib.hid hLN
          have LN2 : LN ≤ 200 := by have h1 := SRT.out.lim k; omega
          clear hLN
          go_wp2_with fail
          go_loopw [9] (fun i wr => ∃ j : Nat, j ≤ LN ∧ i = .int .i64 j ∧ Hid (RefAt wr p (t.turn c k j) F gL cL vR hd) ∧ Hid (Chg F w wr)) (fun i _ => LN - (intOf i).toNat)
          case atStart => exact ⟨0, by omega, rfl, hr, hch⟩
          case round =>
            obtain ⟨j, hj, rfl, hr, hch⟩ := hrel
            have hkt : k < (t.turn c k j).L.length := by rw [turn_len]; exact kt
            have d0 := hr.out.c0
            rw [turn_len, HNe.out] at d0
            have r3 := hr.out.r3 hkt
            obtain ⟨Al, kc, elv, hlk⟩ := links_form (hr.out.links k hkt)
            have ell : ((t.turn c k j).sh k).links.length = LN := by rw [turn_llen t c k j kt (by rw [LNE.out]; exact hj), LNE.out]
            rw [ell] at elv
            rw [elv] at r3
            have HLV := Lib.hid elv
            have ELL := Lib.hid ell
            have HLK := Lib.hid hlk
            clear elv ell hlk
            by_cases hjl : j < LN
            · have hji : (j : Int) < LN := by omega
              obtain ⟨q, hq⟩ : ∃ q, (t.sh k).links[j]? = some q := ⟨_, List.getElem?_eq_getElem (by rw [LNE.out]; exact hjl)⟩
              have hg := turn_get t c k j kt hq
              obtain ⟨lg, rfl, l0, l1⟩ := HLK.out j q hg
              have ql : q.2 < t.L.length := (W.out.li k q (List.mem_of_getElem? hq)).1
              obtain ⟨xs, o, hx⟩ := hr.out.links k hkt
              rw [HLV.out, ELL.out] at o
              have lf := World.ownsRow.frozenAt o (j * 2 + 1)
              have lgF : F lg := hr.out.fK k hkt lg (by rw [HLV.out]; rfl)
              have CA := Lib.hid (rows_canonR wr p gL cL t m q.2 (by rw [HNe.out]; exact d0) (fun r hrr => by
                have h := hr.out.r1 (s := r) (by rw [turn_len]; exact hrr)
                rw [turn_sh t c k j hrr] at h
                exact h) W.out ql)
              have HQ := Lib.hid hq
              have HG := Lib.hid hg
              obtain ⟨x, hx2⟩ : ∃ x, t.canon q.2 = x := ⟨_, rfl⟩
              have HX := Lib.hid hx2
              rw [hx2] at CA
              clear hq hg o hx hx2 l0
              go_wp2_with fail
              refine CA.out.mono ?_
              rintro e w' ⟨rfl, rfl⟩
              by_cases he : x = c
              · subst he
                have e2 : ((x : Int) == (x : Int)) = true := beq_self_eq_true _
                have SET := Lib.hid (show RefAt (wr.setCell ⟨lg, j * 2 + 1, none⟩ (.int .i64 (N : Int))) p (t.turn x k (j + 1)) F gL cL vR hd by
                  rw [turn_next t x k j kt HQ.out]
                  have e3 : fC t x q = (q.1, N) := by unfold fC; rw [if_pos HX.out, HNe.out]
                  rw [e3]
                  exact link_set hr.out hkt (by rw [HLV.out, ELL.out]) HG.out)
                have CH := Lib.hid (hch.out.trans (Chg.set wr ⟨lg, j * 2 + 1, none⟩ (.int .i64 (N : Int)) lgF) (fun x hx => .inl hx))
                go_wp2_with fail
                go_roundw
                case rel => exact ⟨j + 1, by omega, by go_num, SET, CH⟩
                case measure => simp [intOf]; omega
              · have e2 : ((x : Int) == (c : Int)) = false := by rw [beq_eq_false_iff_ne]; omega
                have SET := Lib.hid (show RefAt wr p (t.turn c k (j + 1)) F gL cL vR hd by
                  rw [turn_keep t c k j kt HQ.out (by rw [HX.out]; exact he)]
                  exact hr.out)
                go_wp2_with fail
                go_roundw
                case rel => exact ⟨j + 1, by omega, by go_num, SET, hch⟩
                case measure => simp [intOf]; omega
            · obtain rfl : j = LN := by omega
              have SET := Lib.hid (show RefAt wr p (t.turn c (k + 1) 0) F gL cL vR hd by
                rw [← turn_row, LNE.out]
                exact hr.out)
              go_wp2_with fail
              go_roundw
              case rel => exact ⟨k + 1, by omega, by go_num, SET, hch⟩
              case measure => simp [intOf]; omega
        · obtain rfl : N = k := by omega
          obtain ⟨kc, hkc⟩ : ∃ kc, (t.sh c).cls = kc := ⟨_, rfl⟩
          obtain ⟨ns, hns⟩ : ∃ ns, (t.sh c).names = ns := ⟨_, rfl⟩
          have KC := Lib.hid hkc
          have NSE := Lib.hid hns
          have nl : ns.length ≤ 200 := by rw [← hns]; exact H64.out c
          have cT0 : c < (t.turn c N 0).L.length := by rw [turn_len, HNe.out]; exact cl
          have r0 := hr.out.r0 cT0
          rw [turn_sh t c N 0 (by rw [HNe.out]; exact cl)] at r0
          dsimp only at r0
          rw [hkc] at r0
          obtain ⟨Ar, cR, hvR, hroot⟩ := hr.out.rootV
          have km : kc < m := by rw [← hkc]; exact W.out.cl c (by rw [HNe.out]; exact cl)
          obtain ⟨rn, hrn⟩ : ∃ rn, t.roots.length = rn := ⟨_, rfl⟩
          have krn : kc < rn := by rw [← hrn, W.out.rl]; exact km
          obtain ⟨gr, rfl, rc⟩ := hroot kc (by show kc < t.roots.length; rw [hrn]; exact krn)
          have c1 := hr.out.c1
          have hvR' : vR = .slice (some ⟨gr, 0, none⟩) rn cR := by rw [← hrn]; exact hvR
          clear hvR
          subst hvR'
          have rrow := hr.out.roots
          have grF := hr.out.fR gr rfl
          have rf := World.ownsRow.frozenAt (show wr.ownsRow 0 3 1 (.slice (some ⟨gr, 0, none⟩) rn cR) rn _ by have h := rrow; unfold RootsV at h; rw [show (t.turn c N 0).roots.length = rn from hrn] at h; exact h) kc
          have RT := Lib.hid (rows_rootR wr p gL cL gr cR t m kc (by rw [HNe.out]; exact d0) (fun r hrr => by
            have h := hr.out.r1 (s := r) (by rw [turn_len]; exact hrr)
            rw [turn_sh t c N 0 hrr] at h
            exact h) W.out (by rw [hrn]; exact c1) (by rw [hrn]; exact krn) rc)
          obtain ⟨rt, hrt⟩ : ∃ rt, t.root kc = rt := ⟨_, rfl⟩
          have HRT := Lib.hid hrt
          rw [hrt] at RT
          obtain ⟨i1, hi1, hy0, hy1, hy2⟩ := info_parts infoSh
          have krn' : (kc : Int) < rn := by omega
          clear hkc hns hroot rrow hrt
          go_wp2_with fail
          refine RT.out.mono ?_
          rintro e w' ⟨rfl, rfl⟩
          by_cases he : rt = c
          · subst he
            have e2 : ((rt : Int) == (rt : Int)) = true := beq_self_eq_true _
            have S0 := Lib.hid (show wr.drew.cell? ⟨p, 1, none⟩ = some (.slice (some ⟨gr, 0, none⟩) rn cR) ∧ wr.drew.cell? ⟨p, 0, none⟩ = some (.slice (some ⟨gL, 0, none⟩) N cL) ∧ wr.drew.cell? ⟨gL, rt * 4, none⟩ = some (.int .i64 kc) from ⟨c1, d0, r0⟩)
            have V0 := Lib.hid (show RefAt (wr.setCell ⟨gr, kc, none⟩ (.int .i64 (N : Int))) p ⟨(t.turn rt N 0).L, t.roots.set kc N⟩ F gL cL (.slice (some ⟨gr, 0, none⟩) rn cR) hd by
              have h := hr.out
              rw [show rn = (t.turn rt N 0).roots.length from hrn.symm] at h ⊢
              exact root_set h kc N)
            go_wp2_with fail
            refine region_plainX (fun v => v.cell? ⟨p, 1, none⟩ = some (.slice (some ⟨gr, 0, none⟩) rn cR) ∧ v.cell? ⟨p, 0, none⟩ = some (.slice (some ⟨gL, 0, none⟩) N cL) ∧ v.cell? ⟨gL, rt * 4, none⟩ = some (.int .i64 kc)) [14] hmx ?_
            refine anyEx_take (i := 0) (u := ?_) rfl (by kernel_rfl) (by kernel_rfl) (by kernel_rfl) (by kernel_rfl) (by kernel_rfl) (fun _ _ _ h => h) (.inl ⟨by kernel_rfl, fun v hS => ?_⟩) S0.out ?_
            rotate_left
            · obtain ⟨h0, h1, h2⟩ := hS
              go_simp
              with_reducible rfl
            refine anyEx_take (i := 1) (u := ?_) rfl (by kernel_rfl) (by kernel_rfl) (by kernel_rfl) (by kernel_rfl) (by kernel_rfl) (fun _ _ _ h => h) (.inl ⟨by kernel_rfl, fun v hS => ?_⟩) S0.out ?_
            rotate_left
            · obtain ⟨h0, h1, h2⟩ := hS
              go_simp
              with_reducible rfl
            refine anyEx_take (i := 2) (u := ?_) rfl (by kernel_rfl) (by kernel_rfl) (by kernel_rfl) (by kernel_rfl) (by kernel_rfl) (fun _ _ _ h => h) (.inl ⟨by kernel_rfl, fun v hS => ?_⟩) S0.out ?_
            rotate_left
            · obtain ⟨h0, h1, h2⟩ := hS
              go_simp
              with_reducible rfl
            refine anyEx_take (i := 3) (u := ?_) rfl (by kernel_rfl) (by kernel_rfl) (by kernel_rfl) (by kernel_rfl) (by kernel_rfl) (fun _ _ _ h => h) (.inl ⟨by kernel_rfl, fun v hS => ?_⟩) S0.out ?_
            rotate_left
            · obtain ⟨h0, h1, h2⟩ := hS
              go_simp
              with_reducible rfl
            refine anyEx_take (i := 4) (u := ?_) rfl (by kernel_rfl) (by kernel_rfl) (by kernel_rfl) (by kernel_rfl) (by kernel_rfl) (fun _ _ _ h => h) (.inl ⟨by kernel_rfl, fun v hS => ?_⟩) S0.out ?_
            rotate_left
            · obtain ⟨h0, h1, h2⟩ := hS
              go_simp
              with_reducible rfl
            refine anyEx_take (i := 5) (u := ?_) rfl (by kernel_rfl) (by kernel_rfl) (by kernel_rfl) (by kernel_rfl) (by kernel_rfl) (fun _ _ _ h => h) (.inl ⟨by kernel_rfl, fun v hS => ?_⟩) S0.out ?_
            rotate_left
            · obtain ⟨h0, h1, h2⟩ := hS
              go_simp
              with_reducible rfl
            refine anyEx_take (i := 6) (u := ?_) rfl (by kernel_rfl) (by kernel_rfl) (by kernel_rfl) (by kernel_rfl) (by kernel_rfl) (fun _ _ _ h => h) (.inl ⟨by kernel_rfl, fun v hS => ?_⟩) S0.out ?_
            rotate_left
            · obtain ⟨h0, h1, h2⟩ := hS
              go_simp
              with_reducible rfl
            refine anyEx_take (i := 7) (u := ?_) rfl (by kernel_rfl) (by kernel_rfl) (by kernel_rfl) (by kernel_rfl) (by kernel_rfl) (fun _ _ _ h => h) (.inl ⟨by kernel_rfl, fun v hS => ?_⟩) S0.out ?_
            rotate_left
            · obtain ⟨h0, h1, h2⟩ := hS
              go_simp
              with_reducible rfl
            refine anyEx_take (i := 8) (u := ?_) rfl (by kernel_rfl) (by kernel_rfl) (by kernel_rfl) (by kernel_rfl) (by kernel_rfl) (fun _ _ _ h => h) (.inl ⟨by kernel_rfl, fun v hS => ?_⟩) S0.out ?_
            rotate_left
            · obtain ⟨h0, h1, h2⟩ := hS
              go_simp
              with_reducible rfl
            refine anyEx_take (i := 9) (u := ?_) rfl (by kernel_rfl) (by kernel_rfl) (by kernel_rfl) (by kernel_rfl) (by kernel_rfl) (fun _ _ _ h => h) (.inl ⟨by kernel_rfl, fun v hS => ?_⟩) S0.out ?_
            rotate_left
            · obtain ⟨h0, h1, h2⟩ := hS
              go_simp
              with_reducible rfl
            refine anyEx_take (i := 10) (u := ?_) rfl (by kernel_rfl) (by kernel_rfl) (by kernel_rfl) (by kernel_rfl) (by kernel_rfl) (fun _ _ _ h => h) (.inl ⟨by kernel_rfl, fun v hS => ?_⟩) S0.out ?_
            rotate_left
            · obtain ⟨h0, h1, h2⟩ := hS
              go_simp
              with_reducible rfl
            refine anyEx_take (i := 11) (u := ?_) rfl (by kernel_rfl) (by kernel_rfl) (by kernel_rfl) (by kernel_rfl) (by kernel_rfl) (fun _ _ _ h => h) (.inl ⟨by kernel_rfl, fun v hS => ?_⟩) S0.out ?_
            rotate_left
            · obtain ⟨h0, h1, h2⟩ := hS
              go_simp
              with_reducible rfl
            refine anyEx_take (i := 12) (u := ?_) rfl (by kernel_rfl) (by kernel_rfl) (by kernel_rfl) (by kernel_rfl) (by kernel_rfl) (fun _ _ _ h => h) (.inl ⟨by kernel_rfl, fun v hS => ?_⟩) S0.out ?_
            rotate_left
            · obtain ⟨h0, h1, h2⟩ := hS
              go_simp
              with_reducible rfl
            refine anyEx_one 13 rfl (by kernel_rfl) (by kernel_rfl) ?_
            go_simp
            first
              | refine ⟨.inr S0.out, ?_⟩
              | refine ⟨S0.out, ?_⟩
              | skip
            obtain ⟨V, hV⟩ : ∃ V, wr.drew.setCell ⟨gr, kc, none⟩ (.int .i64 (N : Int)) = V := ⟨_, rfl⟩
            have AT := Lib.hid (show RefAt V p ⟨(t.turn rt N 0).L, t.roots.set kc N⟩ F gL cL (.slice (some ⟨gr, 0, none⟩) rn cR) hd by rw [← hV]; exact V0.out.keep fun _ _ => rfl)
            have CHV := Lib.hid (show Chg F w V by rw [← hV]; exact (hch.out.trans (Chg.drewN wr 1) (fun x hx => .inl hx)).trans (Chg.set wr.drew ⟨gr, kc, none⟩ (.int .i64 (N : Int)) grF) (fun x hx => .inl hx))
            refine anyEx_one 14 rfl (by kernel_rfl) (by kernel_rfl) ?_
            go_simp
            first
              | refine ⟨.inl (by simp), rfl, ?_⟩
              | refine ⟨rfl, ?_⟩
              | skip
            obtain ⟨T, hT⟩ : ∃ T, (⟨(t.turn rt N 0).L, t.roots.set kc N⟩ : Tre) = T := ⟨_, rfl⟩
            rw [hT] at AT
            have TLN := Lib.hid (show T.L.length = N by rw [← hT]; show (t.turn rt N 0).L.length = N; rw [turn_len, HNe.out])
            have cT : rt < T.L.length := by rw [TLN.out]; exact cl
            have TC : (T.sh rt).cls = kc ∧ (T.sh rt).names = ns := by
              rw [← hT]
              show ((t.turn rt N 0).sh rt).cls = kc ∧ ((t.turn rt N 0).sh rt).names = ns
              rw [turn_sh t rt N 0 (by rw [HNe.out]; exact cl)]
              exact ⟨KC.out, NSE.out⟩
            have e0 := AT.out.c0
            have e1 := AT.out.r0 cT
            have e2' := AT.out.r2 cT
            rw [TLN.out] at e0
            rw [TC.1] at e1
            rw [TC.2] at e2'
            have SN1 := Lib.hid (show SlS V (· < V.heap.size) (some (hd rt).nA) ns by
              have h := AT.out.names rt cT
              rw [TC.2] at h
              exact h.imp fun b hb => AT.out.lt b hb.1)
            have CUT := Lib.hid (show t.cut rt = T.push kc ns by rw [← hT, ← KC.out, ← NSE.out]; rw [cut_is, KC.out, HNe.out, if_pos HRT.out])
            have S1 := Lib.hid (show V.drew.cell? ⟨p, 0, none⟩ = some (.slice (some ⟨gL, 0, none⟩) N cL) ∧ V.drew.cell? ⟨gL, rt * 4, none⟩ = some (.int .i64 kc) ∧ V.drew.cell? ⟨gL, rt * 4 + 2, none⟩ = some (.slice (some (hd rt).nA) ns.length (hd rt).nc) from ⟨e0, e1, e2'⟩)
            obtain ⟨xs, ho, hx⟩ := AT.out.rows
            rw [TLN.out] at ho
            have HO := Lib.hid ho
            have HX := Lib.hid hx
            have pl2 := AT.out.hp.lt
            have gl2 := AT.out.lt gL AT.out.fL
            have pf2 := AT.out.hp.frozen 0
            clear ho hx TC
            go_wp2_with fail
            refine wp_region_any hmx ?_
            refine wpAny_take (i := 0) (v := ?_) rfl (by kernel_rfl) (by kernel_rfl) (by kernel_rfl) (fun _ _ _ h => h) (.inl ⟨by kernel_rfl, fun v => ?_⟩) ?_
            rotate_left
            · go_simp
              with_reducible rfl
            refine anyEx_plain (es := [25, 26, 27, 28]) (S := (fun v => v.cell? ⟨p, 0, none⟩ = some (.slice (some ⟨gL, 0, none⟩) N cL) ∧ v.cell? ⟨gL, rt * 4, none⟩ = some (.int .i64 kc) ∧ v.cell? ⟨gL, rt * 4 + 2, none⟩ = some (.slice (some (hd rt).nA) ns.length (hd rt).nc))) _ _ _ _ ?_
            refine anyEx_take (i := 1) (u := ?_) rfl (by kernel_rfl) (by kernel_rfl) (by kernel_rfl) (by kernel_rfl) (by kernel_rfl) (fun _ _ _ h => h) (.inl ⟨by kernel_rfl, fun v hS => ?_⟩) S1.out ?_
            rotate_left
            · obtain ⟨h0, h1, h2⟩ := hS
              go_simp
              with_reducible rfl
            refine anyEx_take (i := 2) (u := ?_) rfl (by kernel_rfl) (by kernel_rfl) (by kernel_rfl) (by kernel_rfl) (by kernel_rfl) (fun _ _ _ h => h) (.inl ⟨by kernel_rfl, fun v hS => ?_⟩) S1.out ?_
            rotate_left
            · obtain ⟨h0, h1, h2⟩ := hS
              go_simp
              with_reducible rfl
            refine anyEx_take (i := 3) (u := ?_) rfl (by kernel_rfl) (by kernel_rfl) (by kernel_rfl) (by kernel_rfl) (by kernel_rfl) (fun _ _ _ h => h) (.inl ⟨by kernel_rfl, fun v hS => ?_⟩) S1.out ?_
            rotate_left
            · obtain ⟨h0, h1, h2⟩ := hS
              go_simp
              with_reducible rfl
            refine anyEx_take (i := 4) (u := ?_) rfl (by kernel_rfl) (by kernel_rfl) (by kernel_rfl) (by kernel_rfl) (by kernel_rfl) (fun _ _ _ h => h) (.inl ⟨by kernel_rfl, fun v hS => ?_⟩) S1.out ?_
            rotate_left
            · obtain ⟨h0, h1, h2⟩ := hS
              go_simp
              with_reducible rfl
            refine anyEx_take (i := 5) (u := ?_) rfl (by kernel_rfl) (by kernel_rfl) (by kernel_rfl) (by kernel_rfl) (by kernel_rfl) (fun _ _ _ h => h) (.inl ⟨by kernel_rfl, fun v hS => ?_⟩) S1.out ?_
            rotate_left
            · obtain ⟨h0, h1, h2⟩ := hS
              go_simp
              with_reducible rfl
            refine anyEx_take (i := 6) (u := ?_) rfl (by kernel_rfl) (by kernel_rfl) (by kernel_rfl) (by kernel_rfl) (by kernel_rfl) (fun _ _ _ h => h) (.inl ⟨by kernel_rfl, fun v hS => ?_⟩) S1.out ?_
            rotate_left
            · obtain ⟨h0, h1, h2⟩ := hS
              go_simp
              with_reducible rfl
            refine anyEx_take (i := 7) (u := ?_) rfl (by kernel_rfl) (by kernel_rfl) (by kernel_rfl) (by kernel_rfl) (by kernel_rfl) (fun _ _ _ h => h) (.inl ⟨by kernel_rfl, fun v hS => ?_⟩) S1.out ?_
            rotate_left
            · obtain ⟨h0, h1, h2⟩ := hS
              go_simp
              with_reducible rfl
            refine anyEx_take (i := 8) (u := ?_) rfl (by kernel_rfl) (by kernel_rfl) (by kernel_rfl) (by kernel_rfl) (by kernel_rfl) (fun _ _ _ h => h) (.inl ⟨by kernel_rfl, fun v hS => ?_⟩) S1.out ?_
            rotate_left
            · obtain ⟨h0, h1, h2⟩ := hS
              go_simp
              with_reducible rfl
            refine anyEx_take (i := 9) (u := ?_) rfl (by kernel_rfl) (by kernel_rfl) (by kernel_rfl) (by kernel_rfl) (by kernel_rfl) (fun _ _ _ h => h) (.inl ⟨by kernel_rfl, fun v hS => ?_⟩) S1.out ?_
            rotate_left
            · obtain ⟨h0, h1, h2⟩ := hS
              go_simp
              with_reducible rfl
            refine anyEx_take (i := 10) (u := ?_) rfl (by kernel_rfl) (by kernel_rfl) (by kernel_rfl) (by kernel_rfl) (by kernel_rfl) (fun _ _ _ h => h) (.inl ⟨by kernel_rfl, fun v hS => ?_⟩) S1.out ?_
            rotate_left
            · obtain ⟨h0, h1, h2⟩ := hS
              go_simp
              with_reducible rfl
            refine anyEx_take (i := 11) (u := ?_) rfl (by kernel_rfl) (by kernel_rfl) (by kernel_rfl) (by kernel_rfl) (by kernel_rfl) (fun _ _ _ h => h) (.inl ⟨by kernel_rfl, fun v hS => ?_⟩) S1.out ?_
            rotate_left
            · obtain ⟨h0, h1, h2⟩ := hS
              go_simp
              with_reducible rfl
            refine anyEx_take (i := 12) (u := ?_) rfl (by kernel_rfl) (by kernel_rfl) (by kernel_rfl) (by kernel_rfl) (by kernel_rfl) (fun _ _ _ h => h) (.inl ⟨by kernel_rfl, fun v hS => ?_⟩) S1.out ?_
            rotate_left
            · obtain ⟨h0, h1, h2⟩ := hS
              go_simp
              with_reducible rfl
            refine anyEx_take (i := 14) (u := ?_) rfl (by kernel_rfl) (by kernel_rfl) (by kernel_rfl) (by kernel_rfl) (by kernel_rfl) (fun _ _ _ h => h) (.inl ⟨by kernel_rfl, fun v hS => ?_⟩) S1.out ?_
            rotate_left
            · obtain ⟨h0, h1, h2⟩ := hS
              go_simp
              with_reducible rfl
            refine anyEx_take (i := 15) (u := ?_) rfl (by kernel_rfl) (by kernel_rfl) (by kernel_rfl) (by kernel_rfl) (by kernel_rfl) (fun _ _ _ h => h) (.inl ⟨by kernel_rfl, fun v hS => ?_⟩) S1.out ?_
            rotate_left
            · obtain ⟨h0, h1, h2⟩ := hS
              go_simp
              with_reducible rfl
            refine anyEx_take (i := 16) (u := ?_) rfl (by kernel_rfl) (by kernel_rfl) (by kernel_rfl) (by kernel_rfl) (by kernel_rfl) (fun _ _ _ h => h) (.inl ⟨by kernel_rfl, fun v hS => ?_⟩) S1.out ?_
            rotate_left
            · obtain ⟨h0, h1, h2⟩ := hS
              go_simp
              with_reducible rfl
            refine anyEx_take (i := 17) (u := ?_) rfl (by kernel_rfl) (by kernel_rfl) (by kernel_rfl) (by kernel_rfl) (by kernel_rfl) (fun _ _ _ h => h) (.inl ⟨by kernel_rfl, fun v hS => ?_⟩) S1.out ?_
            rotate_left
            · obtain ⟨h0, h1, h2⟩ := hS
              go_simp
              with_reducible rfl
            refine anyEx_take (i := 18) (u := ?_) rfl (by kernel_rfl) (by kernel_rfl) (by kernel_rfl) (by kernel_rfl) (by kernel_rfl) (fun _ _ _ h => h) (.inl ⟨by kernel_rfl, fun v hS => ?_⟩) S1.out ?_
            rotate_left
            · obtain ⟨h0, h1, h2⟩ := hS
              go_simp
              with_reducible rfl
            refine anyEx_take (i := 19) (u := ?_) rfl (by kernel_rfl) (by kernel_rfl) (by kernel_rfl) (by kernel_rfl) (by kernel_rfl) (fun _ _ _ h => h) (.inl ⟨by kernel_rfl, fun v hS => ?_⟩) S1.out ?_
            rotate_left
            · obtain ⟨h0, h1, h2⟩ := hS
              go_simp
              with_reducible rfl
            refine anyEx_take (i := 20) (u := ?_) rfl (by kernel_rfl) (by kernel_rfl) (by kernel_rfl) (by kernel_rfl) (by kernel_rfl) (fun _ _ _ h => h) (.inl ⟨by kernel_rfl, fun v hS => ?_⟩) S1.out ?_
            rotate_left
            · obtain ⟨h0, h1, h2⟩ := hS
              go_simp
              with_reducible rfl
            refine anyEx_take (i := 21) (u := ?_) rfl (by kernel_rfl) (by kernel_rfl) (by kernel_rfl) (by kernel_rfl) (by kernel_rfl) (fun _ _ _ h => h) (.inl ⟨by kernel_rfl, fun v hS => ?_⟩) S1.out ?_
            rotate_left
            · obtain ⟨h0, h1, h2⟩ := hS
              go_simp
              with_reducible rfl
            obtain ⟨V1, hV1⟩ : ∃ V1, V.drew.alloc (.cells #[] 9) = V1 := ⟨_, rfl⟩
            have B1 := Lib.hid (show Below V.heap.size V V1 by rw [← hV1]; exact ((Below.refl _ V).drew.alloc (Nat.le_refl _) _))
            have zV1 : V1.heap.size = V.heap.size + 1 := by rw [← hV1, World.size_alloc]; rfl
            have O1 := Lib.hid (show OwnS V1 V.heap.size (.slice (some ⟨V.heap.size, 0, none⟩) 0 0) [] by rw [← hV1]; exact World.ownsRow_made V.drew #[] 0 (Nat.le_refl _) (Nat.zero_le _) (by simp))
            have keepS := Lib.hid (show ∀ Y : World, Below V.heap.size V Y → Y.cell? ⟨p, 0, none⟩ = some (.slice (some ⟨gL, 0, none⟩) N cL) ∧ Y.cell? ⟨gL, rt * 4, none⟩ = some (.int .i64 kc) ∧ Y.cell? ⟨gL, rt * 4 + 2, none⟩ = some (.slice (some (hd rt).nA) ns.length (hd rt).nc) from fun Y hY => ⟨(hY.cell (p := ⟨p, 0, none⟩) pl2).trans e0, (hY.cell (p := ⟨gL, rt * 4, none⟩) gl2).trans e1, (hY.cell (p := ⟨gL, rt * 4 + 2, none⟩) gl2).trans e2'⟩)
            clear e0 e1 e2'
            refine anyEx_one 13 rfl (by kernel_rfl) (by kernel_rfl) ?_
            go_simp
            refine ⟨by first | exact keepS.out _ B1.out | exact .inr (keepS.out _ B1.out), ?_⟩
            refine anyEx_one 22 rfl (by kernel_rfl) (by kernel_rfl) ?_
            refine wp_append_onto _ _ rfl V.heap.size V.heap.size 0 [] ns rfl O1.out (fun b => b < V.heap.size) (some (hd rt).nA) (hd rt).nc rfl (SN1.out.keep fun b hb => ⟨hb, B1.out.block b hb⟩) (fun e => by cases e) (by simp; omega) (by omega) ?_
            intro g5 c5 w5 o5 g15 h5
            rw [List.nil_append] at o5 ⊢
            have B5 := Lib.hid (B1.out.grown g15 (by omega) (fun j e => by injection e with e; omega))
            have SN := Lib.hid (show SlS w5 (fun b => (V.heap.size ≤ b ∧ b < w5.heap.size) ∧ isStr w5 b) (some ⟨g5, 0, none⟩) ns from fun j x hj =>
              ⟨⟨g5, 0, none⟩, rfl, ⟨o5.lt g5 rfl, own_cells o5 rfl⟩, World.ownsRow.cells o5 (g := g5) rfl j _ (by rw [List.getElem?_map, hj]; rfl)⟩)
            clear o5 g15 h5
            refine ⟨.inr (keepS.out _ B5.out), ?_⟩
            refine anyEx_one 23 rfl (by kernel_rfl) (by kernel_rfl) ?_
            go_simp
            refine ⟨by first | exact keepS.out _ B5.out | exact .inr (keepS.out _ B5.out), ?_⟩
            obtain ⟨V6, hV6⟩ : ∃ V6, w5.alloc (.cells #[.int .i64 kc, .int .i64 (-1), .slice (some ⟨g5, 0, none⟩) ns.length c5, .slice none 0 0] 62) = V6 := ⟨_, rfl⟩
            have z5 := B5.out.size
            have B6 := Lib.hid (show Below V.heap.size V V6 by rw [← hV6]; exact B5.out.alloc (by omega) _)
            have N6 := Lib.hid (show Bk V6 w5.heap.size #[.int .i64 kc, .int .i64 (-1), .slice (some ⟨g5, 0, none⟩) ns.length c5, .slice none 0 0] 62 by rw [← hV6]; exact Bk.new w5 _ _)
            have zV6 : V6.heap.size = w5.heap.size + 1 := by rw [← hV6, World.size_alloc]
            have O6 := Lib.hid (own_keep HO.out fun b hb => B6.out.block b (HO.out.lt b hb).2)
            refine anyEx_one 24 rfl (by kernel_rfl) (by kernel_rfl) ?_
            go_simp
            refine ⟨by first | exact keepS.out _ B6.out | exact .inr (keepS.out _ B6.out), ?_⟩
            refine anyEx_one 25 rfl (by kernel_rfl) (by kernel_rfl) ?_
            refine wp_append_lies _ _ _ 53 rfl 0 62 i1 _ 4 64 Tryz.underlying53 hi1 hy0 hy1 hy2 rfl (by omega) (.slice (some ⟨gL, 0, none⟩) N cL) N _ rfl O6.out ⟨w5.heap.size, 0, none⟩ 1 1 [.int .i64 kc, .int .i64 (-1), .slice (some ⟨g5, 0, none⟩) ns.length c5, .slice none 0 0] rfl rfl (World.news_of_block (cs := #[.int .i64 kc, .int .i64 (-1), .slice (some ⟨g5, 0, none⟩) ns.length c5, .slice none 0 0]) (t := 62) (fr := (0, 0)) N6.out) (by simp [Value.oneCell']) (by omega) (by unfold maxLen; omega) (by omega) (by omega) (w5.heap.size + 1) zV6 ?_
            intro g6 c6 w6 o6 g56 h6 h6l
            have g56' : (w5.alloc (.cells #[.int .i64 kc, .int .i64 (-1), .slice (some ⟨g5, 0, none⟩) ns.length c5, .slice none 0 0] 62)).grownBy w6 (Value.ownBlock (.slice (some ⟨gL, 0, none⟩) T.L.length cL)) := by rw [hV6]; exact g56
            have HO' : V.ownsRow 0 62 4 (.slice (some ⟨gL, 0, none⟩) T.L.length cL) T.L.length xs := by rw [TLN.out]; exact HO.out
            have PH := push_hdr AT.out HO' B5.out g56'
            have FIN := Lib.hid (push_done (cN := c5) (k := kc) AT.out HO' B5.out g56' HX.out SN.out (by rw [TLN.out]; exact o6) (by exact h6) h6l)
            have p6 := PH.cell 0 _ rfl
            have f6 := PH.frozen 0
            rw [TLN.out] at p6 FIN
            obtain ⟨W7, hW7⟩ : ∃ W7, w6.setCell ⟨p, 0, none⟩ (.slice (some ⟨g6, 0, none⟩) (N + 1) c6) = W7 := ⟨_, rfl⟩
            rw [hW7] at FIN
            have G := Lib.hid (show RefTo w p F (t.cut rt) (mkV ((N : Int), 0)) (.returned (mkV ((N : Int), 0))) W7 from
              ⟨_, rfl, by rw [CUT.out]; exact FIN.out.1, CHV.out.trans FIN.out.2 (fun x hx => .inl hx), fun b hb => Or.imp_right (fun (h : V.heap.size ≤ b ∧ _) => Nat.le_trans CHV.out.size h.1) hb⟩)
            clear o6 g56 h6 g56' HO' PH FIN
            refine ⟨.inl (by simp), ?_⟩
            refine anyEx_one 26 rfl (by kernel_rfl) (by kernel_rfl) ?_
            go_simp
            first
              | refine ⟨.inl (by simp), ?_⟩
              | skip
            refine anyEx_one 27 rfl (by kernel_rfl) (by kernel_rfl) ?_
            go_simp
            first
              | refine ⟨.inl (by simp), ?_⟩
              | skip
            refine anyEx_one 28 rfl (by kernel_rfl) (by kernel_rfl) ?_
            go_simp
            first
              | refine ⟨.inl (by simp), rfl, ?_⟩
              | refine ⟨rfl, ?_⟩
              | skip
            go_wp2_with fail
            go_ret2
            rw [HR.out, HNe.out]
            exact G.out
          · have e2 : ((rt : Int) == (c : Int)) = false := by rw [beq_eq_false_iff_ne]; omega
            have CHV := hch
            have AT := Lib.hid (show RefAt wr p ⟨(t.turn c N 0).L, t.roots⟩ F gL cL (.slice (some ⟨gr, 0, none⟩) rn cR) hd from hr.out)
            obtain ⟨T, hT⟩ : ∃ T, (⟨(t.turn c N 0).L, t.roots⟩ : Tre) = T := ⟨_, rfl⟩
            rw [hT] at AT
            have TLN := Lib.hid (show T.L.length = N by rw [← hT]; show (t.turn c N 0).L.length = N; rw [turn_len, HNe.out])
            have cT : c < T.L.length := by rw [TLN.out]; exact cl
            have TC : (T.sh c).cls = kc ∧ (T.sh c).names = ns := by
              rw [← hT]
              show ((t.turn c N 0).sh c).cls = kc ∧ ((t.turn c N 0).sh c).names = ns
              rw [turn_sh t c N 0 (by rw [HNe.out]; exact cl)]
              exact ⟨KC.out, NSE.out⟩
            have e0 := AT.out.c0
            have e1 := AT.out.r0 cT
            have e2' := AT.out.r2 cT
            rw [TLN.out] at e0
            rw [TC.1] at e1
            rw [TC.2] at e2'
            have SN1 := Lib.hid (show SlS wr (· < wr.heap.size) (some (hd c).nA) ns by
              have h := AT.out.names c cT
              rw [TC.2] at h
              exact h.imp fun b hb => AT.out.lt b hb.1)
            have CUT := Lib.hid (show t.cut c = T.push kc ns by rw [← hT, ← KC.out, ← NSE.out]; rw [cut_is, KC.out, HNe.out, if_neg (by rw [HRT.out]; exact he)])
            have S1 := Lib.hid (show wr.drew.cell? ⟨p, 0, none⟩ = some (.slice (some ⟨gL, 0, none⟩) N cL) ∧ wr.drew.cell? ⟨gL, c * 4, none⟩ = some (.int .i64 kc) ∧ wr.drew.cell? ⟨gL, c * 4 + 2, none⟩ = some (.slice (some (hd c).nA) ns.length (hd c).nc) from ⟨e0, e1, e2'⟩)
            obtain ⟨xs, ho, hx⟩ := AT.out.rows
            rw [TLN.out] at ho
            have HO := Lib.hid ho
            have HX := Lib.hid hx
            have pl2 := AT.out.hp.lt
            have gl2 := AT.out.lt gL AT.out.fL
            have pf2 := AT.out.hp.frozen 0
            clear ho hx TC
            go_wp2_with fail
            refine wp_region_any hmx ?_
            refine wpAny_take (i := 0) (v := ?_) rfl (by kernel_rfl) (by kernel_rfl) (by kernel_rfl) (fun _ _ _ h => h) (.inl ⟨by kernel_rfl, fun v => ?_⟩) ?_
            rotate_left
            · go_simp
              with_reducible rfl
            refine anyEx_plain (es := [25, 26, 27, 28]) (S := (fun v => v.cell? ⟨p, 0, none⟩ = some (.slice (some ⟨gL, 0, none⟩) N cL) ∧ v.cell? ⟨gL, c * 4, none⟩ = some (.int .i64 kc) ∧ v.cell? ⟨gL, c * 4 + 2, none⟩ = some (.slice (some (hd c).nA) ns.length (hd c).nc))) _ _ _ _ ?_
            refine anyEx_take (i := 1) (u := ?_) rfl (by kernel_rfl) (by kernel_rfl) (by kernel_rfl) (by kernel_rfl) (by kernel_rfl) (fun _ _ _ h => h) (.inl ⟨by kernel_rfl, fun v hS => ?_⟩) S1.out ?_
            rotate_left
            · obtain ⟨h0, h1, h2⟩ := hS
              go_simp
              with_reducible rfl
            refine anyEx_take (i := 2) (u := ?_) rfl (by kernel_rfl) (by kernel_rfl) (by kernel_rfl) (by kernel_rfl) (by kernel_rfl) (fun _ _ _ h => h) (.inl ⟨by kernel_rfl, fun v hS => ?_⟩) S1.out ?_
            rotate_left
            · obtain ⟨h0, h1, h2⟩ := hS
              go_simp
              with_reducible rfl
            refine anyEx_take (i := 3) (u := ?_) rfl (by kernel_rfl) (by kernel_rfl) (by kernel_rfl) (by kernel_rfl) (by kernel_rfl) (fun _ _ _ h => h) (.inl ⟨by kernel_rfl, fun v hS => ?_⟩) S1.out ?_
            rotate_left
            · obtain ⟨h0, h1, h2⟩ := hS
              go_simp
              with_reducible rfl
            refine anyEx_take (i := 4) (u := ?_) rfl (by kernel_rfl) (by kernel_rfl) (by kernel_rfl) (by kernel_rfl) (by kernel_rfl) (fun _ _ _ h => h) (.inl ⟨by kernel_rfl, fun v hS => ?_⟩) S1.out ?_
            rotate_left
            · obtain ⟨h0, h1, h2⟩ := hS
              go_simp
              with_reducible rfl
            refine anyEx_take (i := 5) (u := ?_) rfl (by kernel_rfl) (by kernel_rfl) (by kernel_rfl) (by kernel_rfl) (by kernel_rfl) (fun _ _ _ h => h) (.inl ⟨by kernel_rfl, fun v hS => ?_⟩) S1.out ?_
            rotate_left
            · obtain ⟨h0, h1, h2⟩ := hS
              go_simp
              with_reducible rfl
            refine anyEx_take (i := 6) (u := ?_) rfl (by kernel_rfl) (by kernel_rfl) (by kernel_rfl) (by kernel_rfl) (by kernel_rfl) (fun _ _ _ h => h) (.inl ⟨by kernel_rfl, fun v hS => ?_⟩) S1.out ?_
            rotate_left
            · obtain ⟨h0, h1, h2⟩ := hS
              go_simp
              with_reducible rfl
            refine anyEx_take (i := 7) (u := ?_) rfl (by kernel_rfl) (by kernel_rfl) (by kernel_rfl) (by kernel_rfl) (by kernel_rfl) (fun _ _ _ h => h) (.inl ⟨by kernel_rfl, fun v hS => ?_⟩) S1.out ?_
            rotate_left
            · obtain ⟨h0, h1, h2⟩ := hS
              go_simp
              with_reducible rfl
            refine anyEx_take (i := 8) (u := ?_) rfl (by kernel_rfl) (by kernel_rfl) (by kernel_rfl) (by kernel_rfl) (by kernel_rfl) (fun _ _ _ h => h) (.inl ⟨by kernel_rfl, fun v hS => ?_⟩) S1.out ?_
            rotate_left
            · obtain ⟨h0, h1, h2⟩ := hS
              go_simp
              with_reducible rfl
            refine anyEx_take (i := 9) (u := ?_) rfl (by kernel_rfl) (by kernel_rfl) (by kernel_rfl) (by kernel_rfl) (by kernel_rfl) (fun _ _ _ h => h) (.inl ⟨by kernel_rfl, fun v hS => ?_⟩) S1.out ?_
            rotate_left
            · obtain ⟨h0, h1, h2⟩ := hS
              go_simp
              with_reducible rfl
            refine anyEx_take (i := 10) (u := ?_) rfl (by kernel_rfl) (by kernel_rfl) (by kernel_rfl) (by kernel_rfl) (by kernel_rfl) (fun _ _ _ h => h) (.inl ⟨by kernel_rfl, fun v hS => ?_⟩) S1.out ?_
            rotate_left
            · obtain ⟨h0, h1, h2⟩ := hS
              go_simp
              with_reducible rfl
            refine anyEx_take (i := 11) (u := ?_) rfl (by kernel_rfl) (by kernel_rfl) (by kernel_rfl) (by kernel_rfl) (by kernel_rfl) (fun _ _ _ h => h) (.inl ⟨by kernel_rfl, fun v hS => ?_⟩) S1.out ?_
            rotate_left
            · obtain ⟨h0, h1, h2⟩ := hS
              go_simp
              with_reducible rfl
            refine anyEx_take (i := 12) (u := ?_) rfl (by kernel_rfl) (by kernel_rfl) (by kernel_rfl) (by kernel_rfl) (by kernel_rfl) (fun _ _ _ h => h) (.inl ⟨by kernel_rfl, fun v hS => ?_⟩) S1.out ?_
            rotate_left
            · obtain ⟨h0, h1, h2⟩ := hS
              go_simp
              with_reducible rfl
            refine anyEx_take (i := 14) (u := ?_) rfl (by kernel_rfl) (by kernel_rfl) (by kernel_rfl) (by kernel_rfl) (by kernel_rfl) (fun _ _ _ h => h) (.inl ⟨by kernel_rfl, fun v hS => ?_⟩) S1.out ?_
            rotate_left
            · obtain ⟨h0, h1, h2⟩ := hS
              go_simp
              with_reducible rfl
            refine anyEx_take (i := 15) (u := ?_) rfl (by kernel_rfl) (by kernel_rfl) (by kernel_rfl) (by kernel_rfl) (by kernel_rfl) (fun _ _ _ h => h) (.inl ⟨by kernel_rfl, fun v hS => ?_⟩) S1.out ?_
            rotate_left
            · obtain ⟨h0, h1, h2⟩ := hS
              go_simp
              with_reducible rfl
            refine anyEx_take (i := 16) (u := ?_) rfl (by kernel_rfl) (by kernel_rfl) (by kernel_rfl) (by kernel_rfl) (by kernel_rfl) (fun _ _ _ h => h) (.inl ⟨by kernel_rfl, fun v hS => ?_⟩) S1.out ?_
            rotate_left
            · obtain ⟨h0, h1, h2⟩ := hS
              go_simp
              with_reducible rfl
            refine anyEx_take (i := 17) (u := ?_) rfl (by kernel_rfl) (by kernel_rfl) (by kernel_rfl) (by kernel_rfl) (by kernel_rfl) (fun _ _ _ h => h) (.inl ⟨by kernel_rfl, fun v hS => ?_⟩) S1.out ?_
            rotate_left
            · obtain ⟨h0, h1, h2⟩ := hS
              go_simp
              with_reducible rfl
            refine anyEx_take (i := 18) (u := ?_) rfl (by kernel_rfl) (by kernel_rfl) (by kernel_rfl) (by kernel_rfl) (by kernel_rfl) (fun _ _ _ h => h) (.inl ⟨by kernel_rfl, fun v hS => ?_⟩) S1.out ?_
            rotate_left
            · obtain ⟨h0, h1, h2⟩ := hS
              go_simp
              with_reducible rfl
            refine anyEx_take (i := 19) (u := ?_) rfl (by kernel_rfl) (by kernel_rfl) (by kernel_rfl) (by kernel_rfl) (by kernel_rfl) (fun _ _ _ h => h) (.inl ⟨by kernel_rfl, fun v hS => ?_⟩) S1.out ?_
            rotate_left
            · obtain ⟨h0, h1, h2⟩ := hS
              go_simp
              with_reducible rfl
            refine anyEx_take (i := 20) (u := ?_) rfl (by kernel_rfl) (by kernel_rfl) (by kernel_rfl) (by kernel_rfl) (by kernel_rfl) (fun _ _ _ h => h) (.inl ⟨by kernel_rfl, fun v hS => ?_⟩) S1.out ?_
            rotate_left
            · obtain ⟨h0, h1, h2⟩ := hS
              go_simp
              with_reducible rfl
            refine anyEx_take (i := 21) (u := ?_) rfl (by kernel_rfl) (by kernel_rfl) (by kernel_rfl) (by kernel_rfl) (by kernel_rfl) (fun _ _ _ h => h) (.inl ⟨by kernel_rfl, fun v hS => ?_⟩) S1.out ?_
            rotate_left
            · obtain ⟨h0, h1, h2⟩ := hS
              go_simp
              with_reducible rfl
            obtain ⟨V1, hV1⟩ : ∃ V1, wr.drew.alloc (.cells #[] 9) = V1 := ⟨_, rfl⟩
            have B1 := Lib.hid (show Below wr.heap.size wr V1 by rw [← hV1]; exact ((Below.refl _ wr).drew.alloc (Nat.le_refl _) _))
            have zV1 : V1.heap.size = wr.heap.size + 1 := by rw [← hV1, World.size_alloc]; rfl
            have O1 := Lib.hid (show OwnS V1 wr.heap.size (.slice (some ⟨wr.heap.size, 0, none⟩) 0 0) [] by rw [← hV1]; exact World.ownsRow_made wr.drew #[] 0 (Nat.le_refl _) (Nat.zero_le _) (by simp))
            have keepS := Lib.hid (show ∀ Y : World, Below wr.heap.size wr Y → Y.cell? ⟨p, 0, none⟩ = some (.slice (some ⟨gL, 0, none⟩) N cL) ∧ Y.cell? ⟨gL, c * 4, none⟩ = some (.int .i64 kc) ∧ Y.cell? ⟨gL, c * 4 + 2, none⟩ = some (.slice (some (hd c).nA) ns.length (hd c).nc) from fun Y hY => ⟨(hY.cell (p := ⟨p, 0, none⟩) pl2).trans e0, (hY.cell (p := ⟨gL, c * 4, none⟩) gl2).trans e1, (hY.cell (p := ⟨gL, c * 4 + 2, none⟩) gl2).trans e2'⟩)
            clear e0 e1 e2'
            refine anyEx_one 13 rfl (by kernel_rfl) (by kernel_rfl) ?_
            go_simp
            refine ⟨by first | exact keepS.out _ B1.out | exact .inr (keepS.out _ B1.out), ?_⟩
            refine anyEx_one 22 rfl (by kernel_rfl) (by kernel_rfl) ?_
            refine wp_append_onto _ _ rfl wr.heap.size wr.heap.size 0 [] ns rfl O1.out (fun b => b < wr.heap.size) (some (hd c).nA) (hd c).nc rfl (SN1.out.keep fun b hb => ⟨hb, B1.out.block b hb⟩) (fun e => by cases e) (by simp; omega) (by omega) ?_
            intro g5 c5 w5 o5 g15 h5
            rw [List.nil_append] at o5 ⊢
            have B5 := Lib.hid (B1.out.grown g15 (by omega) (fun j e => by injection e with e; omega))
            have SN := Lib.hid (show SlS w5 (fun b => (wr.heap.size ≤ b ∧ b < w5.heap.size) ∧ isStr w5 b) (some ⟨g5, 0, none⟩) ns from fun j x hj =>
              ⟨⟨g5, 0, none⟩, rfl, ⟨o5.lt g5 rfl, own_cells o5 rfl⟩, World.ownsRow.cells o5 (g := g5) rfl j _ (by rw [List.getElem?_map, hj]; rfl)⟩)
            clear o5 g15 h5
            refine ⟨.inr (keepS.out _ B5.out), ?_⟩
            refine anyEx_one 23 rfl (by kernel_rfl) (by kernel_rfl) ?_
            go_simp
            refine ⟨by first | exact keepS.out _ B5.out | exact .inr (keepS.out _ B5.out), ?_⟩
            obtain ⟨V6, hV6⟩ : ∃ V6, w5.alloc (.cells #[.int .i64 kc, .int .i64 (-1), .slice (some ⟨g5, 0, none⟩) ns.length c5, .slice none 0 0] 62) = V6 := ⟨_, rfl⟩
            have z5 := B5.out.size
            have B6 := Lib.hid (show Below wr.heap.size wr V6 by rw [← hV6]; exact B5.out.alloc (by omega) _)
            have N6 := Lib.hid (show Bk V6 w5.heap.size #[.int .i64 kc, .int .i64 (-1), .slice (some ⟨g5, 0, none⟩) ns.length c5, .slice none 0 0] 62 by rw [← hV6]; exact Bk.new w5 _ _)
            have zV6 : V6.heap.size = w5.heap.size + 1 := by rw [← hV6, World.size_alloc]
            have O6 := Lib.hid (own_keep HO.out fun b hb => B6.out.block b (HO.out.lt b hb).2)
            refine anyEx_one 24 rfl (by kernel_rfl) (by kernel_rfl) ?_
            go_simp
            refine ⟨by first | exact keepS.out _ B6.out | exact .inr (keepS.out _ B6.out), ?_⟩
            refine anyEx_one 25 rfl (by kernel_rfl) (by kernel_rfl) ?_
            refine wp_append_lies _ _ _ 53 rfl 0 62 i1 _ 4 64 Tryz.underlying53 hi1 hy0 hy1 hy2 rfl (by omega) (.slice (some ⟨gL, 0, none⟩) N cL) N _ rfl O6.out ⟨w5.heap.size, 0, none⟩ 1 1 [.int .i64 kc, .int .i64 (-1), .slice (some ⟨g5, 0, none⟩) ns.length c5, .slice none 0 0] rfl rfl (World.news_of_block (cs := #[.int .i64 kc, .int .i64 (-1), .slice (some ⟨g5, 0, none⟩) ns.length c5, .slice none 0 0]) (t := 62) (fr := (0, 0)) N6.out) (by simp [Value.oneCell']) (by omega) (by unfold maxLen; omega) (by omega) (by omega) (w5.heap.size + 1) zV6 ?_
            intro g6 c6 w6 o6 g56 h6 h6l
            have g56' : (w5.alloc (.cells #[.int .i64 kc, .int .i64 (-1), .slice (some ⟨g5, 0, none⟩) ns.length c5, .slice none 0 0] 62)).grownBy w6 (Value.ownBlock (.slice (some ⟨gL, 0, none⟩) T.L.length cL)) := by rw [hV6]; exact g56
            have HO' : wr.ownsRow 0 62 4 (.slice (some ⟨gL, 0, none⟩) T.L.length cL) T.L.length xs := by rw [TLN.out]; exact HO.out
            have PH := push_hdr AT.out HO' B5.out g56'
            have FIN := Lib.hid (push_done (cN := c5) (k := kc) AT.out HO' B5.out g56' HX.out SN.out (by rw [TLN.out]; exact o6) (by exact h6) h6l)
            have p6 := PH.cell 0 _ rfl
            have f6 := PH.frozen 0
            rw [TLN.out] at p6 FIN
            obtain ⟨W7, hW7⟩ : ∃ W7, w6.setCell ⟨p, 0, none⟩ (.slice (some ⟨g6, 0, none⟩) (N + 1) c6) = W7 := ⟨_, rfl⟩
            rw [hW7] at FIN
            have G := Lib.hid (show RefTo w p F (t.cut c) (mkV ((N : Int), 0)) (.returned (mkV ((N : Int), 0))) W7 from
              ⟨_, rfl, by rw [CUT.out]; exact FIN.out.1, CHV.out.trans FIN.out.2 (fun x hx => .inl hx), fun b hb => Or.imp_right (fun (h : wr.heap.size ≤ b ∧ _) => Nat.le_trans CHV.out.size h.1) hb⟩)
            clear o6 g56 h6 g56' HO' PH FIN
            refine ⟨.inl (by simp), ?_⟩
            refine anyEx_one 26 rfl (by kernel_rfl) (by kernel_rfl) ?_
            go_simp
            first
              | refine ⟨.inl (by simp), ?_⟩
              | skip
            refine anyEx_one 27 rfl (by kernel_rfl) (by kernel_rfl) ?_
            go_simp
            first
              | refine ⟨.inl (by simp), ?_⟩
              | skip
            refine anyEx_one 28 rfl (by kernel_rfl) (by kernel_rfl) ?_
            go_simp
            first
              | refine ⟨.inl (by simp), rfl, ?_⟩
              | refine ⟨rfl, ?_⟩
              | skip
            go_wp2_with fail
            go_ret2
            rw [HR.out, HNe.out]
            exact G.out
end Go.Proofs.YtjodmjadpooipaaGreatDoor.Sh
