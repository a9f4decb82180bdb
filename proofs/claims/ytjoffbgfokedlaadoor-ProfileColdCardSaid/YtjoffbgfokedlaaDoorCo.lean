/-
  Plain mathematics of ProfileCold.
-/
import Derived.Test.YtjoffbgfokedlaaDoorPk
namespace Go.Proofs.YtjoffbgfokedlaaDoor.Pf
open Go Go.RowKit

def aC : Plc := (0, 0)
structure CS (t : Pst) (c back : Int) (left : Int → Int) : Prop where
  es : t.s = 1
  ew : t.w = 1
  eh : t.h = 2
  ec : t.c = c
  fl : (t.get aC).fails = back
  b0 : 0 ≤ back
  b3 : back ≤ 3
  gv : back = 3 ↔ (t.get aC).tier = -1
  tr : back < 3 → ((t.get aC).tier = 0 ∧ (t.get aC).count = 0) ∨ ((t.get aC).tier = 1 ∧ (t.get aC).count = 1) ∨ (t.get aC).tier = 2
  ex : back < 3 → ∀ i, (t.get aC).ex i = left i
  lt : ∀ i, (t.get aC).ex i < c
  c0 : 0 < c
theorem cs0 {c : Int} (hc : 1 ≤ c) : CS (st0 1 1 2 c) c 0 fun _ => 0 :=
  ⟨rfl, rfl, rfl, rfl, rfl, by omega, by omega, ⟨by omega, fun e => by cases e⟩, fun _ => .inl ⟨rfl, rfl⟩, fun _ _ => rfl, fun _ => (by show (0 : Int) < c; omega), by omega⟩
theorem CS.neg {t : Pst} {c back : Int} {left : Int → Int} (h : CS t c back left) (h3 : back = 3) : t.tier aC = -1 := h.gv.1 h3
/-- Back while the tier is 0 or 1. -/
theorem cs_back {t : Pst} {c back : Int} {left : Int → Int} (h : CS t c back left) (h0 : 0 ≤ t.tier aC) (h2 : t.tier aC < 2) : CS (t.back aC).2 c back left ∧ (t.back aC).2.tier aC = t.tier aC + 1 := by
  unfold Pst.tier at h0 h2 ⊢
  have hb : back < 3 := by
    rcases (show back = 3 ∨ back < 3 by have := h.b3; omega) with e | e
    · have := h.gv.1 e; omega
    · exact e
  have hm : ((t.get aC).calls + 1) % t.s = 0 := by rw [h.es]; exact Int.emod_one _
  have key : ∃ x o, backS t.s t.w t.h (t.get aC) = (x, o) ∧ x.fails = (t.get aC).fails ∧ x.ex = (t.get aC).ex ∧ x.tier = (t.get aC).tier + 1 ∧ ((x.tier = 1 ∧ x.count = 1) ∨ x.tier = 2) := by
    rcases h.tr hb with ⟨e1, e2⟩ | ⟨e1, e2⟩ | e1
    · refine ⟨{ t.get aC with calls := (t.get aC).calls + 1, count := min (0 + 1) 1000000, tier := 1 }, some (1, tWarm ++ numT (min (0 + 1) 1000000)), ?_, ?_⟩
      · unfold backS
        rw [if_neg (by omega), if_pos hm, e2, if_pos ⟨e1, by rw [h.ew]; decide⟩]
      · exact ⟨rfl, rfl, by simp [e1], .inl ⟨rfl, rfl⟩⟩
    · refine ⟨{ t.get aC with calls := (t.get aC).calls + 1, count := min (1 + 1) 1000000, tier := 2 }, some (2, tHot ++ numT (min (1 + 1) 1000000)), ?_, ?_⟩
      · unfold backS
        rw [if_neg (by omega), if_pos hm, e2, if_neg (fun k => by have := k.1; omega), if_pos ⟨e1, by rw [h.eh]; decide⟩]
      · exact ⟨rfl, rfl, by simp [e1], .inr rfl⟩
    · omega
  obtain ⟨x, o, e, e1, e2, e3, e4⟩ := key
  have eT : t.back aC = t.turn aC (x, o) := congrArg (t.turn aC) e
  have g : (t.back aC).2.get aC = x := by rw [eT, get_turn, if_pos rfl]
  have es : (t.back aC).2.s = t.s ∧ (t.back aC).2.w = t.w ∧ (t.back aC).2.h = t.h ∧ (t.back aC).2.c = t.c := by rw [eT]; exact ⟨rfl, rfl, rfl, rfl⟩
  refine ⟨⟨es.1.trans h.es, es.2.1.trans h.ew, es.2.2.1.trans h.eh, es.2.2.2.trans h.ec, by rw [g, e1]; exact h.fl, h.b0, h.b3, ⟨fun k => by omega, fun k => ?_⟩, fun _ => by rw [g]; exact .inr e4, fun k i => by rw [g, e2]; exact h.ex k i, fun i => (by rw [g, e2]; exact h.lt i), h.c0⟩, by rw [g]; exact e3⟩
  rw [g] at k
  rcases e4 with e4 | e4 <;> omega
/-- Left of an exit, while no place was given up. -/
theorem cs_left {t : Pst} {c back : Int} {left : Int → Int} (h : CS t c back left) (hb : back < 3) (ht : t.tier aC = 2) {e : Int} (he : 0 ≤ e) :
    (left e + 1 < c → (t.left aC e).1 = false ∧ CS (t.left aC e).2 c back fun i => if i = e then left e + 1 else left i) ∧
    (left e + 1 = c → (t.left aC e).1 = true ∧ CS (t.left aC e).2 c (back + 1) fun _ => 0) := by
  have hx := h.ex hb
  have h0 := h.c0
  unfold Pst.tier at ht
  have es : ∀ r, (t.turn aC r).2.s = t.s ∧ (t.turn aC r).2.w = t.w ∧ (t.turn aC r).2.h = t.h ∧ (t.turn aC r).2.c = t.c := fun _ => ⟨rfl, rfl, rfl, rfl⟩
  have eL : t.left aC e = t.turn aC (leftS t.w t.c (t.get aC) e) := by unfold Pst.left; rw [if_pos ⟨ht, he⟩]
  constructor
  · intro hl
    have el : leftS t.w t.c (t.get aC) e = ({ t.get aC with ex := fun i => if i = e then (t.get aC).ex e + 1 else (t.get aC).ex i, en := (t.get aC).en + 1 }, none) := by
      unfold leftS; rw [if_pos (by rw [hx e, h.ec]; exact hl)]
    rw [eL, el]
    have g := get_turn t aC aC ({ t.get aC with ex := fun i => if i = e then (t.get aC).ex e + 1 else (t.get aC).ex i, en := (t.get aC).en + 1 }, none)
    rw [if_pos rfl] at g
    refine ⟨rfl, ⟨h.es, h.ew, h.eh, h.ec, by rw [g]; exact h.fl, h.b0, h.b3, by rw [g]; exact h.gv, fun k => (by rw [g]; exact h.tr k), fun _ i => ?_, fun i => ?_, h0⟩⟩
    · rw [g]
      simp only
      rw [hx e]
      split
      · rfl
      · exact hx i
    · rw [g]
      simp only
      split
      · rw [hx e]; exact hl
      · exact h.lt i
  · intro hl
    have el : leftS t.w t.c (t.get aC) e = setB (t.get aC) t.w 1 (tExit ++ numT e ++ tLeft ++ numT ((t.get aC).ex e + 1) ++ tTimes) := by
      unfold leftS; rw [if_neg (by rw [hx e, h.ec]; omega)]
    rw [eL, el]
    obtain ⟨y, hy⟩ : ∃ y, tExit ++ numT e ++ tLeft ++ numT ((t.get aC).ex e + 1) ++ tTimes = y := ⟨_, rfl⟩
    rw [hy]
    have g := get_turn t aC aC (setB (t.get aC) t.w 1 y)
    rw [if_pos rfl] at g
    have fl := h.fl
    have b0 := h.b0
    by_cases h3 : (t.get aC).fails + 1 = 3
    · have eb : setB (t.get aC) t.w 1 y = ({ t.get aC with tier := -1, count := t.w, fails := (t.get aC).fails + 1, ex := fun _ => 0, en := 0 }, some (-1, y ++ tGiven)) := by unfold setB; rw [if_pos h3]
      rw [eb] at g ⊢
      refine ⟨rfl, ⟨h.es, h.ew, h.eh, h.ec, by rw [g]; simp only; omega, by omega, by omega, ⟨fun _ => by rw [g], fun _ => by omega⟩, fun k => (by omega), fun k => (by omega), fun i => ?_, h0⟩⟩
      rw [g]; exact h0
    · have eb : setB (t.get aC) t.w 1 y = ({ t.get aC with tier := 1, count := t.w, fails := (t.get aC).fails + 1, ex := fun _ => 0, en := 0 }, some (1, y)) := by unfold setB; rw [if_neg h3]
      rw [eb] at g ⊢
      refine ⟨rfl, ⟨h.es, h.ew, h.eh, h.ec, by rw [g]; simp only; omega, by omega, by omega, ⟨fun k => by omega, fun k => by rw [g] at k; simp at k⟩, fun _ => .inr (.inl (by rw [g]; exact ⟨rfl, h.ew⟩)), fun _ i => (by rw [g]), fun i => ?_, h0⟩⟩
      rw [g]; exact h0
/-- Left behind the third failure. -/
theorem cs_gone {t : Pst} {c back : Int} {left : Int → Int} (h : CS t c back left) (hb : back = 3) (e : Int) : t.left aC e = (false, t) := by
  have := h.gv.1 hb
  unfold Pst.left
  rw [if_neg (fun k => by have := k.1; omega)]
end Go.Proofs.YtjoffbgfokedlaaDoor.Pf
