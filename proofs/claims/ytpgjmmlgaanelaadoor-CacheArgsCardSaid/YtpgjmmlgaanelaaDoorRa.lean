/-
  The reference's site in memory; its New, State, Find.
-/
import Derived.Test.YtpgjmmlgaanelaaDoorCc
import Derived.Deep.RegionLaw
import Derived.Deep.RegionHeld3
namespace Go.Proofs.YtpgjmmlgaanelaaDoor.Ch
open Go Go.RowKit

def flat (l : List (Int × Int)) : List Value := l.flatMap fun p => [.int .i64 p.1, .int .i64 p.2]
theorem flat_len (l : List (Int × Int)) : (flat l).length = l.length * 2 := by
  unfold flat
  induction l with
  | nil => rfl
  | cons p l ih => rw [List.flatMap_cons, List.length_append, ih, List.length_cons]; simp; omega
theorem flat_get {l : List (Int × Int)} {k : Nat} {p : Int × Int} (h : l[k]? = some p) : (flat l)[k * 2]? = some (.int .i64 p.1) ∧ (flat l)[k * 2 + 1]? = some (.int .i64 p.2) := by
  induction l generalizing k with
  | nil => simp at h
  | cons q l ih =>
    unfold flat
    rw [List.flatMap_cons]
    cases k with
    | zero =>
      simp at h
      subst h
      exact ⟨rfl, rfl⟩
    | succ k =>
      have h' : l[k]? = some p := by simpa using h
      obtain ⟨h1, h2⟩ := ih h'
      unfold flat at h1 h2
      rw [show (k + 1) * 2 = k * 2 + 2 by omega]
      exact ⟨by simpa using h1, by simpa using h2⟩
def siteV (v : Value) (t : Ste) : Array Value := #[v, .bool t.full, .int .i64 t.hits, .int .i64 t.miss]
/-- The reference's site: its own block, and that of its list. -/
structure RefA (w : World) (q : Nat) (t : Ste) (v : Value) (G : Nat → Prop) : Prop where
  c : Bk w q (siteV v t) 60
  o : w.ownsRow 0 69 2 v t.l.length (flat t.l)
  n : v.ownBlock ≠ some q
  g : ∀ b, G b ↔ b = q ∨ v.ownBlock = some b
def RefS (w : World) (q : Nat) (t : Ste) (G : Nat → Prop) : Prop := ∃ v, RefA w q t v G
section
variable {w w' : World} {q : Nat} {t t' : Ste} {v : Value} {G : Nat → Prop}
theorem RefA.ownLt (h : RefA w q t v G) : ∀ b, v.ownBlock = some b → b < w.heap.size := fun b hb => (h.o.lt b hb).2
theorem RefA.lt (h : RefA w q t v G) (b : Nat) (hb : G b) : b < w.heap.size := by
  rcases (h.g b).1 hb with rfl | hb
  · exact h.c.lt
  · exact h.ownLt b hb
theorem own_keep {w w' : World} {base : Nat} {e : TypeId} {size n : Nat} {v : Value} {xs : List Value} (h : w.ownsRow base e size v n xs) (hk : ∀ b, v.ownBlock = some b → w'.heap[b]? = w.heap[b]?) : w'.ownsRow base e size v n xs := by
  refine ⟨h.1, ?_⟩
  rcases h.2 with h' | ⟨g, cap, cur, rfl, hb, hg, hn, hm, hs, ht⟩
  · exact .inl h'
  · exact .inr ⟨g, cap, cur, rfl, hb, (hk g rfl).trans hg, hn, hm, hs, ht⟩
theorem RefA.keep (h : RefA w q t v G) (hk : ∀ b, G b → w'.heap[b]? = w.heap[b]?) : RefA w' q t v G :=
  ⟨by have := h.c; unfold Bk at *; rw [hk q ((h.g q).2 (.inl rfl))]; exact this, own_keep h.o fun b hb => hk b ((h.g b).2 (.inr hb)), h.n, h.g⟩
theorem RefS.lt (h : RefS w q t G) (b : Nat) (hb : G b) : b < w.heap.size := by obtain ⟨v, h⟩ := h; exact h.lt b hb
theorem RefS.keep (h : RefS w q t G) (hk : ∀ b, G b → w'.heap[b]? = w.heap[b]?) : RefS w' q t G := by obtain ⟨v, h⟩ := h; exact ⟨v, h.keep hk⟩
theorem RefS.below (h : RefS w q t G) (hb : Below w.heap.size w w') : RefS w' q t G := h.keep fun b hF => hb.block b (h.lt b hF)
theorem RefS.drewN (h : RefS w q t G) (k : Nat) : RefS (w.drewN k) q t G := h.keep fun _ _ => rfl
theorem RefS.alloc (h : RefS w q t G) (o : Obj) : RefS (w.alloc o) q t G := h.keep fun b hF => Below.heap_alloc _ _ _ (h.lt b hF)
/-- The list as a slice: where its pairs lie. -/
theorem RefA.form (h : RefA w q t v G) : ∃ A c, v = .slice A t.l.length c ∧ (A = none → c = 0) ∧ t.l.length ≤ c ∧
    ∀ k p, t.l[k]? = some p → ∃ g, A = some ⟨g, 0, none⟩ ∧ v.ownBlock = some g ∧ w.cell? ⟨g, k * 2, none⟩ = some (.int .i64 p.1) ∧ w.cell? ⟨g, k * 2 + 1, none⟩ = some (.int .i64 p.2) := by
  have ho := h.o
  rcases ho.2 with ⟨rfl, h0⟩ | ⟨g, cap, cur, rfl, hb, hg, hn, hm, hs, ht⟩
  · have e : t.l = [] := List.eq_nil_of_length_eq_zero h0
    rw [e]
    exact ⟨none, 0, rfl, fun _ => rfl, by simp, fun k p hk => by simp at hk⟩
  · refine ⟨_, _, rfl, (fun e => by cases e), hn, fun k p hk => ⟨g, rfl, rfl, ?_, ?_⟩⟩
    · have := ho.cells (g := g) rfl (k * 2) _ (flat_get hk).1
      rw [← this]; congr 1; unfold Addr.add; split
      · rename_i e; rw [← e]
      · simp
    · have := ho.cells (g := g) rfl (k * 2 + 1) _ (flat_get hk).2
      rw [← this]; congr 1; unfold Addr.add; simp
theorem RefA.c0 (h : RefA w q t v G) : w.cell? ⟨q, 0, none⟩ = some v := h.c.cell 0 _ rfl
theorem RefA.c1 (h : RefA w q t v G) : w.cell? ⟨q, 1, none⟩ = some (.bool t.full) := h.c.cell 1 _ rfl
theorem RefA.c2 (h : RefA w q t v G) : w.cell? ⟨q, 2, none⟩ = some (.int .i64 t.hits) := h.c.cell 2 _ rfl
theorem RefA.c3 (h : RefA w q t v G) : w.cell? ⟨q, 3, none⟩ = some (.int .i64 t.miss) := h.c.cell 3 _ rfl
end
/-- How a call ends that turns the reference's site. -/
def RefTo (w : World) (q : Nat) (G : Nat → Prop) (t' : Ste) (v : Value) (e : Ending) (w' : World) : Prop := ∃ G', e = .returned v ∧ RefS w' q t' G' ∧ Chg G w w' ∧ Sub G G' w
theorem ref_new (w : World) : Calls Tryd.prog 12 #[] w fun e w' => ∃ q G, e = .returned (.pointer (some ⟨q, 0, none⟩)) ∧ RefS w' q st0 G ∧ Below w.heap.size w w' ∧ ∀ b, G b → w.heap.size ≤ b := by
  go_enter Tryd.func12, Tryd.ntmps12
  go_wp2_with fail
  go_ret
  refine ⟨_, fun b => b = w.heap.size, rfl, ⟨.slice none 0 0, Bk.new w _ _, World.ownsRow_nil _ _ _ _, by simp [Value.ownBlock], fun b => by simp [Value.ownBlock]⟩, (Below.refl _ w).alloc (Nat.le_refl _) _, fun b hb => by omega⟩
theorem ref_state (w : World) (q : Nat) (t : Ste) (G : Nat → Prop) (h : RefS w q t G) (h4 : t.l.length ≤ 4) :
    Calls Tryd.prog 29 #[.pointer (some ⟨q, 0, none⟩)] w fun e w' => e = .returned (.int .i64 t.state) ∧ w = w' := by
  obtain ⟨v, h⟩ := h
  obtain ⟨A, c, rfl, _⟩ := h.form
  have c0 := h.c0
  have c1 := h.c1
  cases hf : t.full
  · rw [hf] at c1
    by_cases h2 : 2 < (t.l.length : Int)
    · have E := Lib.hid (show t.state = 2 by unfold Ste.state; rw [hf]; simp; omega)
      clear hf h
      go_enter Tryd.func29, Tryd.ntmps29
      go_wp2_with fail
      go_ret
      exact ⟨by rw [E.out]; rfl, rfl⟩
    · have E := Lib.hid (show t.state = (t.l.length : Int) by unfold Ste.state; rw [hf]; simp; omega)
      clear hf h
      go_enter Tryd.func29, Tryd.ntmps29
      go_wp2_with fail
      go_ret
      exact ⟨by rw [E.out]; rfl, rfl⟩
  · have E := Lib.hid (show t.state = 3 by unfold Ste.state; rw [hf]; rfl)
    rw [hf] at c1
    clear hf h
    go_enter Tryd.func29, Tryd.ntmps29
    go_wp2_with fail
    go_ret
    exact ⟨by rw [E.out]; rfl, rfl⟩
theorem lk_none_at {s : Int} {l : List (Int × Int)} (h : ∀ (i : Nat) (p : Int × Int), l[i]? = some p → p.1 ≠ s) : lk s l = none := lk_none.2 fun p hp => by
  obtain ⟨i, hi, rfl⟩ := List.mem_iff_getElem.1 hp
  exact h i _ (List.getElem?_eq_getElem hi)
theorem lk_first {s : Int} {l : List (Int × Int)} {j : Nat} {p : Int × Int} (hj : l[j]? = some p) (e : p.1 = s) (hb : ∀ (i : Nat) (p : Int × Int), i < j → l[i]? = some p → p.1 ≠ s) : lk s l = some p.2 := by
  induction l generalizing j with
  | nil => simp at hj
  | cons r l ih =>
    unfold lk
    cases j with
    | zero =>
      simp at hj
      subst hj
      rw [if_pos e]
    | succ j =>
      rw [if_neg (hb 0 r (by omega) rfl)]
      exact ih (j := j) (by simpa using hj) (fun i p hi hp => hb (i + 1) p (by omega) (by simpa using hp))
theorem turn2 {w : World} {q : Nat} {t : Ste} {v : Value} {G : Nat → Prop} (h : RefA w q t v G) (t' : Ste) (hl : t'.l = t.l) {w' : World} (hc : Bk w' q (siteV v t') 60) (hk : ∀ b, b ≠ q → w'.heap[b]? = w.heap[b]?) : RefA w' q t' v G :=
  ⟨hc, by rw [hl]; exact own_keep h.o fun b hb => hk b (fun e => h.n (by rw [← e]; exact hb)), h.n, h.g⟩
end Go.Proofs.YtpgjmmlgaanelaaDoor.Ch
