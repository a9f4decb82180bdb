/-
  The landed site in memory: its row of cells.
-/
import Derived.Test.YtpgjmmlgaanelaaDoorRf
import Derived.Laws.CopyOwn
namespace Go.Proofs.YtpgjmmlgaanelaaDoor.Ch
open Go Go.RowKit

def pad (l : List (Int × Int)) : List Value := flat l ++ List.replicate (8 - l.length * 2) (.int .i64 0)
/-- The cells of a site: four entries, how many are used, full, hits, misses. -/
def rowS (t : Ste) : Array Value := (pad t.l ++ ([.int .i64 t.l.length, .bool t.full, .int .i64 t.hits, .int .i64 t.miss] : List Value)).toArray
theorem short {l : List (Int × Int)} (h : l.length ≤ 4) : l = [] ∨ (∃ a, l = [a]) ∨ (∃ a b, l = [a, b]) ∨ (∃ a b c, l = [a, b, c]) ∨ (∃ a b c d, l = [a, b, c, d]) := by
  rcases l with _ | ⟨a, _ | ⟨b, _ | ⟨c, _ | ⟨d, _ | ⟨e, l⟩⟩⟩⟩⟩
  · exact .inl rfl
  · exact .inr (.inl ⟨_, rfl⟩)
  · exact .inr (.inr (.inl ⟨_, _, rfl⟩))
  · exact .inr (.inr (.inr (.inl ⟨_, _, _, rfl⟩)))
  · exact .inr (.inr (.inr (.inr ⟨_, _, _, _, rfl⟩)))
  · simp at h
section
variable {t : Ste} (h : t.l.length ≤ 4)
include h
theorem row_size : (rowS t).size = 12 := by
  obtain ⟨l, f, a, b⟩ := t
  rcases short h with e | ⟨p, e⟩ | ⟨p, q, e⟩ | ⟨p, q, r, e⟩ | ⟨p, q, r, s, e⟩ <;> (simp only at e; subst e; rfl)
theorem row8 : (rowS t)[8]? = some (.int .i64 t.l.length) := by
  obtain ⟨l, f, a, b⟩ := t
  rcases short h with e | ⟨p, e⟩ | ⟨p, q, e⟩ | ⟨p, q, r, e⟩ | ⟨p, q, r, s, e⟩ <;> (simp only at e; subst e; rfl)
theorem row9 : (rowS t)[9]? = some (.bool t.full) := by
  obtain ⟨l, f, a, b⟩ := t
  rcases short h with e | ⟨p, e⟩ | ⟨p, q, e⟩ | ⟨p, q, r, e⟩ | ⟨p, q, r, s, e⟩ <;> (simp only at e; subst e; rfl)
theorem row10 : (rowS t)[10]? = some (.int .i64 t.hits) := by
  obtain ⟨l, f, a, b⟩ := t
  rcases short h with e | ⟨p, e⟩ | ⟨p, q, e⟩ | ⟨p, q, r, e⟩ | ⟨p, q, r, s, e⟩ <;> (simp only at e; subst e; rfl)
theorem row11 : (rowS t)[11]? = some (.int .i64 t.miss) := by
  obtain ⟨l, f, a, b⟩ := t
  rcases short h with e | ⟨p, e⟩ | ⟨p, q, e⟩ | ⟨p, q, r, e⟩ | ⟨p, q, r, s, e⟩ <;> (simp only at e; subst e; rfl)
theorem set10 (x : Int) : (rowS t).setIfInBounds 10 (.int .i64 x) = rowS { t with hits := x } := by
  obtain ⟨l, f, a, b⟩ := t
  rcases short h with e | ⟨p, e⟩ | ⟨p, q, e⟩ | ⟨p, q, r, e⟩ | ⟨p, q, r, s, e⟩ <;> (simp only at e; subst e; rfl)
theorem set11 (x : Int) : (rowS t).setIfInBounds 11 (.int .i64 x) = rowS { t with miss := x } := by
  obtain ⟨l, f, a, b⟩ := t
  rcases short h with e | ⟨p, e⟩ | ⟨p, q, e⟩ | ⟨p, q, r, e⟩ | ⟨p, q, r, s, e⟩ <;> (simp only at e; subst e; rfl)
omit h in
theorem row_at {k : Nat} {p : Int × Int} (hk : t.l[k]? = some p) : (rowS t)[k * 2]? = some (.int .i64 p.1) ∧ (rowS t)[k * 2 + 1]? = some (.int .i64 p.2) := by
  have hl := (List.getElem?_eq_some_iff.1 hk).1
  have hf := flat_len t.l
  obtain ⟨h1, h2⟩ := flat_get hk
  unfold rowS pad
  rw [List.getElem?_toArray, List.getElem?_toArray, List.append_assoc, List.getElem?_append_left (by omega), List.getElem?_append_left (by omega)]
  exact ⟨h1, h2⟩
end
/-- A site lies at p. -/
structure SiteAt (w : World) (p : Nat) (t : Ste) (F : Nat → Prop) : Prop where
  c : Bk w p (rowS t) 57
  f : ∀ b, F b ↔ b = p
section
variable {w w' : World} {p : Nat} {t t' : Ste} {F : Nat → Prop}
theorem SiteAt.lt (h : SiteAt w p t F) (b : Nat) (hb : F b) : b < w.heap.size := by
  obtain rfl := (h.f b).1 hb
  exact h.c.lt
theorem SiteAt.keep (h : SiteAt w p t F) (hk : ∀ b, F b → w'.heap[b]? = w.heap[b]?) : SiteAt w' p t F :=
  ⟨by have := h.c; unfold Bk at *; rw [hk p ((h.f p).2 rfl)]; exact this, h.f⟩
/-- Its own cells turned, and nothing else. -/
theorem SiteAt.turn (h : SiteAt w p t F) {t' : Ste} (hc : Bk w' p (rowS t') 57) (hz : w.heap.size ≤ w'.heap.size) (ho : w'.os = w.os) (ht : w'.tape = w.tape) (hu : w'.output = w.output) (hk : ∀ b, b < w.heap.size → b ≠ p → w'.heap[b]? = w.heap[b]?) (u : Value) :
    To SiteAt w p F t' u (.returned u) w' :=
  ⟨F, rfl, ⟨hc, h.f⟩, ⟨ho, ht, hu, hz, fun b hb hF => hk b hb fun e => hF ((h.f b).2 e)⟩, Sub.refl _ _⟩
theorem SiteAt.same (h : SiteAt w p t F) (n : Nat) (u : Value) : To SiteAt w p F t u (.returned u) (w.drewN n) :=
  ⟨F, rfl, h.keep fun _ _ => rfl, Chg.drawn n, Sub.refl _ _⟩
end
end Go.Proofs.YtpgjmmlgaanelaaDoor.Ch
