/-
  A region in any order, by a relation that each operation keeps; CopyWorld.
-/
import Derived.Test.YtbpehdpcnnaidaaDoorWc
import Derived.OrdersHeld
import Derived.Laws.OwnMore
namespace Go.Proofs.YtbpehdpcnnaidaaDoor.Ac
open Go Go.RowKit Va

def cnt (l : Array Bool) : Nat := l.toList.count false
theorem count_set (l : List Bool) (i : Nat) (h : l[i]? = some false) : (l.set i true).count false + 1 = l.count false := by
  induction l generalizing i with
  | nil => simp at h
  | cons x xs ih =>
    rcases i with _ | i
    · simp at h; subst h; simp
    · rw [List.set_cons_succ, List.count_cons, List.count_cons]
      have := ih i (by simpa using h)
      omega
theorem cnt_set (l : Array Bool) (i : Nat) (h : l.getD i true = false) : cnt (l.setIfInBounds i true) + 1 = cnt l := by
  have hi : i < l.size := by
    rcases Nat.lt_or_ge i l.size with h' | h'
    · exact h'
    · rw [Array.getD_eq_getD_getElem?, Array.getElem?_eq_none h'] at h; cases h
  unfold cnt
  rw [Array.toList_setIfInBounds]
  refine count_set _ _ ?_
  rw [Array.getD_eq_getD_getElem?, Array.getElem?_eq_getElem hi] at h
  rw [Array.getElem?_toList, Array.getElem?_eq_getElem hi]
  simpa using h
theorem cnt_ready {md : Region.Mode} {ops : Array Oper} {l : Array Bool} (h : cnt l = 0) : Region.ready md ops l = [] := by
  rw [List.eq_nil_iff_forall_not_mem]
  intro i hi
  have h1 := (mem_ready.1 hi).1
  have := cnt_set l i h1
  omega
/-- A region in any order, from a state on: each operation that may come up keeps the relation. -/
theorem anyH_inv {P : Program} {md : Region.Mode} {ops : Array Oper} {Q : Exit → Act → World → Prop} {S : World → Prop} (J : Array Bool → Act → World → Prop) (hJS : ∀ l a w, J l a w → S w)
    (hstep : ∀ (l : Array Bool) (a : Act) (w : World) (i : Nat) (o : Oper), J l a w → ops[i]? = some o → l.getD i true = false → (∀ e ∈ o.after, Region.binds md e = true → l.getD e.on false = true) → wpOp P ops Q i (fun a' w' => J (l.setIfInBounds i true) a' w') a w)
    (hdone : ∀ (l : Array Bool) (a : Act) (w : World), J l a w → Region.ready md ops l = [] → Q .normal a w) :
    ∀ (fuel : Nat) (l : Array Bool) (a : Act) (w : World), cnt l ≤ fuel → J l a w → wpAnyH P md ops Q S fuel l a w := by
  intro fuel
  induction fuel with
  | zero => exact fun l a w hc hJ => ⟨cnt_ready (by omega), hdone l a w hJ (cnt_ready (by omega))⟩
  | succ fuel ih =>
    intro l a w hc hJ
    refine ⟨fun hr => hdone l a w hJ hr, fun i hi => ?_⟩
    obtain ⟨h1, o, h2, h3⟩ := mem_ready.1 hi
    refine wpOp_mono (fun a' w' h' => ⟨hJS _ _ _ h', ih _ a' w' ?_ h'⟩) (hstep l a w i o hJ h2 h1 h3)
    have := cnt_set l i h1
    omega
theorem anyH_invQ {P : Program} {md : Region.Mode} {ops : Array Oper} {Q : Exit → Act → World → Prop} {S : World → Prop} (J : (Exit → Act → World → Prop) → Array Bool → Act → World → Prop) (fuel : Nat) (l : Array Bool) (a : Act) (w : World) (hc : cnt l ≤ fuel) (h0 : J Q l a w) (hJS : ∀ l a w, J Q l a w → S w)
    (hstep : ∀ (l : Array Bool) (a : Act) (w : World) (i : Nat) (o : Oper), J Q l a w → ops[i]? = some o → l.getD i true = false → (∀ e ∈ o.after, Region.binds md e = true → l.getD e.on false = true) → wpOp P ops Q i (fun a' w' => J Q (l.setIfInBounds i true) a' w') a w)
    (hdone : ∀ (l : Array Bool) (a : Act) (w : World), J Q l a w → Region.ready md ops l = [] → Q .normal a w) : wpAnyH P md ops Q S fuel l a w := anyH_inv (J Q) hJS hstep hdone fuel l a w hc h0
theorem not_ready {md : Region.Mode} {ops : Array Oper} {l : Array Bool} (hr : Region.ready md ops l = []) (i : Nat) {o : Oper} (ho : ops[i]? = some o) (hd : ∀ e ∈ o.after, l.getD e.on false = true) (hs : i < l.size) : l.getD i false = true := by
  have hn : i ∉ Region.ready md ops l := by rw [hr]; simp
  rw [mem_ready] at hn
  have : l.getD i true = true := by
    cases hv : l.getD i true with
    | true => rfl
    | false => exact absurd ⟨hv, o, ho, fun e he _ => hd e he⟩ hn
  rw [Array.getD_eq_getD_getElem?, Array.getElem?_eq_getElem hs] at this ⊢
  exact this
theorem not_ready_on {md : Region.Mode} {ops : Array Oper} {l : Array Bool} (hr : Region.ready md ops l = []) (i : Nat) {o : Oper} (ho : ops[i]? = some o) (ds : List Nat) (hds : o.after.toList.map (fun e => e.on) = ds) (hd : ∀ j ∈ ds, l.getD j false = true) (hs : i < l.size) : l.getD i false = true :=
  not_ready hr i ho (fun e he => hd _ (by rw [← hds]; exact List.mem_map_of_mem (Array.mem_toList_iff.2 he))) hs
theorem set_mono {l : Array Bool} {i j : Nat} (h : l.getD j false = true) : (l.setIfInBounds i true).getD j false = true := by
  rw [Array.getD_eq_getD_getElem?] at h ⊢
  rw [Array.getElem?_setIfInBounds]
  split
  · split
    · rfl
    · rename_i h1 h2; rw [Array.getElem?_eq_none (by omega)] at h; cases h
  · exact h
theorem set_at {l : Array Bool} {i : Nat} (h : i < l.size) : (l.setIfInBounds i true).getD i true = true := by
  rw [Array.getD_eq_getD_getElem?, Array.getElem?_setIfInBounds, if_pos rfl, if_pos h]; rfl
theorem set_off {l : Array Bool} {i j : Nat} (h : i ≠ j) : (l.setIfInBounds i true).getD j true = l.getD j true := by
  rw [Array.getD_eq_getD_getElem?, Array.getElem?_setIfInBounds, if_neg h, Array.getD_eq_getD_getElem?]
theorem getD_both {l : Array Bool} {i : Nat} (h : l.getD i false = true) : l.getD i true = true := by
  rw [Array.getD_eq_getD_getElem?] at h ⊢
  cases hv : l[i]? with
  | none => rw [hv] at h; cases h
  | some b => rw [hv] at h; exact h
def updf {α : Type} (f : Nat → α) (k : Nat) (x : α) : Nat → α := fun j => if j = k then x else f j
/-- How far a list's copy has come: p: an empty list is made, b; q: the cells are there, x. -/
def Ch (p q : Bool) (b x : Value) (s r : Row) : Prop :=
  (p = false ∧ q = false ∧ r = ⟨s.e, s.size, .slice none 0 0, 0, []⟩) ∨ (p = true ∧ q = false ∧ (∃ g, b = .slice (some ⟨g, 0, none⟩) 0 0) ∧ r = ⟨s.e, s.size, b, 0, []⟩) ∨ (q = true ∧ (∃ A c, x = .slice A s.n c) ∧ r = ⟨s.e, s.size, x, s.n, s.xs⟩)
theorem ch_build {s r : Nat → Row} {b x : Nat → Value} {l : Array Bool} {w : World} {n0 : Nat} (hr : Rows5 r w n0) (hn : n0 ≤ w.heap.size) (hl : l.size = 24) (hc : ∀ c, c < 5 → Ch (l.getD (4 * c) true) (l.getD (4 * c + 3) true) (b c) (x c) (s c) (r c)) (c : Nat) (h5 : c < 5) (hp : l.getD (4 * c) true = false) :
    ∃ r', Rows5 r' (w.alloc (.cells #[] (s c).e)) n0 ∧ ∀ c', c' < 5 → Ch ((l.setIfInBounds (4 * c) true).getD (4 * c') true) ((l.setIfInBounds (4 * c) true).getD (4 * c' + 3) true) (updf b c (.slice (some ⟨w.heap.size, 0, none⟩) 0 0) c') (x c') (s c') (r' c') := by
  have hcc := hc c h5
  rw [hp] at hcc
  rcases hcc with ⟨_, hq, hrc⟩ | ⟨h, _⟩ | ⟨hq, hx, hrc⟩
  · refine ⟨upd r c ⟨(s c).e, (s c).size, .slice (some ⟨w.heap.size, 0, none⟩) 0 0, 0, []⟩, hr.next c h5 _ (by rw [hrc]; exact World.grownBy_alloc w _ _) (World.ownsRow_made w #[] 0 hn (Nat.zero_le _) (by simp)) (.inr rfl), fun c' h' => ?_⟩
    by_cases e : c' = c
    · subst e
      rw [set_at (by omega), set_off (by omega), hq]
      unfold updf upd
      rw [if_pos rfl, if_pos rfl]
      exact .inr (.inl ⟨rfl, rfl, ⟨_, rfl⟩, rfl⟩)
    · rw [set_off (by omega), set_off (by omega)]
      unfold updf upd
      rw [if_neg e, if_neg e]
      exact hc c' h'
  · cases h
  · refine ⟨r, hr.alloc _, fun c' h' => ?_⟩
    by_cases e : c' = c
    · subst e
      rw [set_at (by omega), set_off (by omega), hq]
      exact .inr (.inr ⟨rfl, hx, hrc⟩)
    · rw [set_off (by omega), set_off (by omega)]
      unfold updf
      rw [if_neg e]
      exact hc c' h'
theorem ch_append {s r : Nat → Row} {b x : Nat → Value} {l : Array Bool} {w w' : World} {n0 : Nat} (hr : Rows5 r w n0) (hl : l.size = 24) (hc : ∀ c, c < 5 → Ch (l.getD (4 * c) true) (l.getD (4 * c + 3) true) (b c) (x c) (s c) (r c)) (c : Nat) (h5 : c < 5) (hp : l.getD (4 * c) true = true) (hq : l.getD (4 * c + 3) true = false)
    (v : Value) (hv : ∃ A c', v = .slice A (s c).n c') (hg : w.grownBy w' (b c).ownBlock) (ho : w'.ownsRow n0 (s c).e (s c).size v (s c).n (s c).xs) (hb : v.ownBlock = (b c).ownBlock ∨ v.ownBlock = some w.heap.size) :
    ∃ r', Rows5 r' w' n0 ∧ ∀ c', c' < 5 → Ch ((l.setIfInBounds (4 * c + 3) true).getD (4 * c') true) ((l.setIfInBounds (4 * c + 3) true).getD (4 * c' + 3) true) (b c') (updf x c v c') (s c') (r' c') := by
  have hcc := hc c h5
  rw [hp, hq] at hcc
  rcases hcc with ⟨h, _⟩ | ⟨_, _, _, hrc⟩ | ⟨h, _⟩
  · cases h
  · have hbv : (r c).v = b c := by rw [hrc]
    refine ⟨upd r c ⟨(s c).e, (s c).size, v, (s c).n, (s c).xs⟩, hr.next c h5 _ (by rw [hbv]; exact hg) ho (by rw [hbv]; exact hb), fun c' h' => ?_⟩
    by_cases e : c' = c
    · subst e
      rw [set_at (by omega)]
      unfold updf upd
      rw [if_pos rfl, if_pos rfl]
      exact .inr (.inr ⟨rfl, hv, rfl⟩)
    · rw [set_off (by omega), set_off (by omega)]
      unfold updf upd
      rw [if_neg e, if_neg e]
      exact hc c' h'
  · cases h
theorem ch_row {p q : Bool} {b x : Value} {s r : Row} {w : World} {n0 : Nat} (h : Ch p q b x s r) (hp : p = true) (hq : q = false) (ho : r.ok w n0) : ∃ g, b = .slice (some ⟨g, 0, none⟩) 0 0 ∧ w.ownsRow n0 s.e s.size (.slice (some ⟨g, 0, none⟩) 0 0) 0 [] := by
  rcases h with ⟨h, _⟩ | ⟨_, _, ⟨g, hb⟩, hrc⟩ | ⟨h, _⟩
  · rw [hp] at h; cases h
  · subst hrc
    refine ⟨g, hb, ?_⟩
    have : w.ownsRow n0 s.e s.size b 0 [] := ho
    rwa [hb] at this
  · rw [hq] at h; cases h
theorem ch_done {p q : Bool} {b x : Value} {s r : Row} (h : Ch p q b x s r) (hq : q = true) : ∃ A c, x = .slice A s.n c := by
  rcases h with ⟨_, h, _⟩ | ⟨_, h, _⟩ | ⟨_, h, _⟩
  · rw [hq] at h; cases h
  · rw [hq] at h; cases h
  · exact h
/-- The cells of a row, as they are read. -/
theorem row_cells {w : World} {base : Nat} {e : TypeId} {size n c : Nat} {ad : Addr} {xs : List Value} (h : w.ownsRow base e size (.slice (some ad) n c) n xs) : xs.length = n * size ∧ ad.block < w.heap.size ∧ ∀ j u, xs[j]? = some u → w.cell? (ad.add j) = some u := by
  rcases h.2 with ⟨h', _⟩ | ⟨g, cap, cur, h', _, hg, _⟩
  · cases h'
  · injection h' with h1 h2 h3
    injection h1 with h1
    subst h1 h3
    refine ⟨h.1, (Array.getElem?_eq_some_iff.1 hg).1, fun j u hu => ?_⟩
    have hj : j < n * size := by rw [← h.1]; exact (List.getElem?_eq_some_iff.1 hu).1
    rw [add_lit, World.ownsRow.cellAt h j hj]; exact hu
end Go.Proofs.YtbpehdpcnnaidaaDoor.Ac
