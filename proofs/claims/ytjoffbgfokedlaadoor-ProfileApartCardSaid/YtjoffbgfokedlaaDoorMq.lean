/-
  A profile of one place is as a profile of all is for that place.
-/
import Derived.Test.YtjoffbgfokedlaaDoorPe
import Derived.Laws.StructEq
namespace Go.Proofs.YtjoffbgfokedlaaDoor.Pf
open Go Go.RowKit

def aA : Plc := (1, 1)
def keepA (l : List Dec) : List Dec := l.filter fun d => decide (d.plc = aA)
structure Rel (t o : Pst) : Prop where
  es : o.s = t.s ∧ o.w = t.w ∧ o.h = t.h ∧ o.c = t.c
  eg : o.get aA = t.get aA
  eD : o.D = keepA t.D
theorem rel0 (t : Pst) (hD : t.D = []) : Rel t t := ⟨⟨rfl, rfl, rfl, rfl⟩, rfl, by rw [hD]; rfl⟩
theorem rel_same {t o : Pst} (h : Rel t o) (r : Spot × Option (Int × List UInt8)) : (o.turn aA r).1 = (t.turn aA r).1 ∧ Rel (t.turn aA r).2 (o.turn aA r).2 := by
  refine ⟨rfl, h.es, by rw [get_turn, get_turn, if_pos rfl, if_pos rfl], ?_⟩
  show o.D ++ _ = keepA (t.D ++ _)
  unfold keepA
  rw [List.filter_append, h.eD]
  congr 1
  cases r.2 <;> simp
theorem rel_other {t o : Pst} (h : Rel t o) {a : Plc} (ha : a ≠ aA) (r : Spot × Option (Int × List UInt8)) : Rel (t.turn a r).2 o := by
  refine ⟨h.es, by rw [get_turn, if_neg (fun e => ha e.symm)]; exact h.eg, ?_⟩
  show o.D = keepA (t.D ++ _)
  unfold keepA
  rw [List.filter_append, h.eD]
  cases r.2 <;> simp [keepA, ha]
theorem rel_back {t o : Pst} (h : Rel t o) : (o.back aA).1 = (t.back aA).1 ∧ Rel (t.back aA).2 (o.back aA).2 := by
  unfold Pst.back
  rw [h.es.1, h.es.2.1, h.es.2.2.1, h.eg]
  exact rel_same h _
theorem rel_left {t o : Pst} (h : Rel t o) (e : Int) : (o.left aA e).1 = (t.left aA e).1 ∧ Rel (t.left aA e).2 (o.left aA e).2 := by
  unfold Pst.left
  rw [h.es.2.1, h.es.2.2.2, h.eg]
  split
  · exact rel_same h _
  · exact ⟨rfl, h⟩
theorem rel_failed {t o : Pst} (h : Rel t o) (e : Int) : Rel (t.failed aA e) (o.failed aA e) := by
  unfold Pst.failed
  rw [h.eg]
  split
  · exact (rel_same h _).2
  · exact h
theorem rel_itB {t o : Pst} (h : Rel t o) : ∀ k, bc o aA k = bc t aA k ∧ Rel (itB t aA k) (itB o aA k)
  | 0 => ⟨rfl, h⟩
  | k + 1 => by
    obtain ⟨h1, h2⟩ := rel_itB h k
    obtain ⟨h3, h4⟩ := rel_back h2
    exact ⟨by unfold bc; rw [h1, h3], h4⟩
theorem rel_itN {t o : Pst} (h : Rel t o) {a : Plc} (ha : a ≠ aA) : ∀ k, Rel (itB t a k) o
  | 0 => h
  | k + 1 => rel_other (rel_itN h ha k) ha _
theorem rel_do {t o : Pst} (h : Rel t o) (x : Act) (hx : x.plc = aA) : (doP o x).1 = (doP t x).1 ∧ Rel (doP t x).2 (doP o x).2 := by
  unfold doP
  rw [hx]
  split
  · obtain ⟨h1, h2⟩ := rel_left h x.exit
    exact ⟨by simp only; rw [h1], h2⟩
  · split
    · exact ⟨rfl, rel_failed h _⟩
    · exact rel_itB h _
theorem rel_don {t o : Pst} (h : Rel t o) (x : Act) (hx : x.plc ≠ aA) : Rel (doP t x).2 o := by
  unfold doP
  split
  · unfold Pst.left
    split
    · exact rel_other h hx _
    · exact h
  · split
    · unfold Pst.failed
      split
      · exact rel_other h hx _
      · exact h
    · exact rel_itN h hx _
theorem rel_tier {t o : Pst} (h : Rel t o) : o.tier aA = t.tier aA := by unfold Pst.tier; rw [h.eg]
theorem keepA_take {l : List Dec} {j : Nat} {d : Dec} (h : l[j]? = some d) : keepA (l.take (j + 1)) = if d.plc = aA then keepA (l.take j) ++ [d] else keepA (l.take j) := by
  unfold keepA
  rw [List.take_add_one, h, List.filter_append]
  by_cases e : d.plc = aA <;> simp [e]
set_option maxRecDepth 100000 in
theorem eqlP (x y : Int) (w : World) : (binOp .eql 43 (.agg #[.int .i64 x, .int .i64 y]) (.agg #[.int .i64 1, .int .i64 1])).run Tryd.prog w = .ok (.bool (decide ((x, y) = aA))) w := by
  have h : decide ((x, y) = aA) = (x == 1 && y == 1) := by
    unfold aA
    by_cases h1 : x = 1 <;> by_cases h2 : y = 1 <;> simp [h1, h2]
  rw [h]
  simp [go_sem, Tryd.underlying43]
  by_cases h1 : x = 1 <;> by_cases h2 : y = 1 <;> simp [h1, h2]
section
variable {K : Kit} {w0 w w' : World} {p n p2 n2 : Nat} {t t2 : Pst} {F F' F2 : Nat → Prop}
/-- Another profile's calls leave this one as it was. -/
theorem Tr.off (h2 : Tr K w0 w p2 t2 F2 n2) (g : Gd F w w' F') (hb : Below w0.heap.size w0 w') (dj : ∀ b, F b → ¬ F2 b) : Tr K w0 w' p2 t2 F2 n2 ∧ ∀ b, F' b → ¬ F2 b := by
  obtain ⟨g1, g2⟩ := g.off (G := F2) (fun b hb => K.lt h2.h b hb) dj
  exact ⟨⟨K.keep h2.h g1, hb, h2.f, h2.v, h2.k, h2.s⟩, g2⟩
/-- Two profiles of the call's own. -/
structure Tw (K : Kit) (w0 w : World) (p : Nat) (t : Pst) (F : Nat → Prop) (n p2 : Nat) (t2 : Pst) (F2 : Nat → Prop) (n2 : Nat) : Prop where
  x : Tr K w0 w p t F n
  y : Tr K w0 w p2 t2 F2 n2
  d : ∀ b, F b → ¬ F2 b
theorem Tw.below (h : Tw K w0 w p t F n p2 t2 F2 n2) (hb : Below w.heap.size w w') : Tw K w0 w' p t F n p2 t2 F2 n2 := ⟨h.x.below hb, h.y.below hb, h.d⟩
theorem Tw.one (h : Tw K w0 w p t F n p2 t2 F2 n2) {t' : Pst} {n' : Nat} (h' : Tr K w0 w' p t' F' n') (g : Gd F w w' F') : Tw K w0 w' p t' F' n' p2 t2 F2 n2 := by
  obtain ⟨a, b⟩ := h.y.off g h'.b h.d
  exact ⟨h', a, b⟩
theorem Tw.two (h : Tw K w0 w p t F n p2 t2 F2 n2) {t' : Pst} {n' : Nat} (h' : Tr K w0 w' p2 t' F' n') (g : Gd F2 w w' F') : Tw K w0 w' p t F n p2 t' F' n' := by
  obtain ⟨a, b⟩ := h.x.off g h'.b (fun b hb hf => h.d b hf hb)
  exact ⟨a, h', fun x hx hy => b x hy hx⟩
end
end Go.Proofs.YtjoffbgfokedlaaDoor.Pf
