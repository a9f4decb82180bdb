/-
  The landed site: Learn.
-/
import Derived.Test.YtpgjmmlgaanelaaDoorSc
import Derived.Test.YtpgjmmlgaanelaaDoorRg
namespace Go.Proofs.YtpgjmmlgaanelaaDoor.Ch
open Go Go.RowKit

theorem set_slot {t : Ste} {s x : Int} {k : Nat} (hk : k < t.l.length) (hu : flat (upd s x t.l) = (flat t.l).set (k * 2 + 1) (.int .i64 x)) :
    (rowS t).setIfInBounds (k * 2 + 1) (.int .i64 x) = rowS { t with l := upd s x t.l } := by
  have hf := flat_len t.l
  unfold rowS pad
  rw [hu, upd_len, List.setIfInBounds_toArray, List.set_append_left _ _ (by rw [List.length_append]; omega), List.set_append_left _ _ (by omega)]
theorem Bk.any {w : World} {p : Nat} {t : Ste} {T : TypeId} (h : Bk w p (rowS t) T) (h4 : t.l.length ≤ 4) (i : Nat) (hi : i < 12) : ∃ v, w.cell? ⟨p, i, none⟩ = some v := by
  have e := Array.getElem?_eq_getElem (xs := rowS t) (i := i) (by rw [row_size h4]; exact hi)
  exact ⟨_, h.cell i _ e⟩
theorem Chg.also {w w' : World} {p : Nat} (c : Chg (fun b => b = p) w w') (i : Nat) (v : Value) : Chg (fun b => b = p) w (w'.setCell ⟨p, i, none⟩ v) := c.trans (Chg.set _ _ _ rfl) fun _ hx => .inl hx.symm
theorem Chg.drewn {w w' : World} {F : Nat → Prop} (c : Chg F w w') : Chg F w w'.drew := c.trans (Chg.drawn 1) fun _ hx => .inl hx
theorem Bk.drewn {w : World} {b : Nat} {c : Array Value} {T : TypeId} (h : Bk w b c T) : Bk w.drew b c T := h
theorem set_full {t : Ste} (h : t.l.length = 4) (a b : Int) :
    ((((((((((((rowS t).setIfInBounds 0 (.int .i64 0)).setIfInBounds 1 (.int .i64 0)).setIfInBounds 2 (.int .i64 0)).setIfInBounds 3 (.int .i64 0)).setIfInBounds 4 (.int .i64 0)).setIfInBounds 5 (.int .i64 0)).setIfInBounds 6 (.int .i64 0)).setIfInBounds 7 (.int .i64 0)).setIfInBounds 8 (.int .i64 0)).setIfInBounds 9 (.bool true)).setIfInBounds 10 (.int .i64 a)).setIfInBounds 11 (.int .i64 b) = rowS ⟨[], true, a, b⟩ := by
  obtain ⟨l, f, x, y⟩ := t
  simp only at h
  rcases short (by omega : l.length ≤ 4) with e | ⟨p, e⟩ | ⟨p, q, e⟩ | ⟨p, q, r, e⟩ | ⟨p, q, r, s, e⟩ <;> subst e
  · simp at h
  · simp at h
  · simp at h
  · simp at h
  · have e : rowS ⟨[p, q, r, s], f, x, y⟩ = ([.int .i64 p.1, .int .i64 p.2, .int .i64 q.1, .int .i64 q.2, .int .i64 r.1, .int .i64 r.2, .int .i64 s.1, .int .i64 s.2, .int .i64 4, .bool f, .int .i64 x, .int .i64 y] : List Value).toArray := rfl
    rw [e]
    simp only [List.setIfInBounds_toArray, List.set_cons_zero, List.set_cons_succ]
    rfl
theorem set_more {t : Ste} (h : t.l.length < 4) (s x : Int) :
    (((rowS t).setIfInBounds (t.l.length * 2) (.int .i64 s)).setIfInBounds (t.l.length * 2 + 1) (.int .i64 x)).setIfInBounds 8 (.int .i64 ((t.l.length : Int) + 1)) = rowS { t with l := t.l ++ [(s, x)] } := by
  obtain ⟨l, f, a, b⟩ := t
  simp only at h ⊢
  rcases short (by omega : l.length ≤ 4) with e | ⟨p, e⟩ | ⟨p, q, e⟩ | ⟨p, q, r, e⟩ | ⟨p, q, r, s, e⟩ <;> subst e <;> first | rfl | (simp at h)
set_option maxRecDepth 100000 in
set_option maxHeartbeats 4000000 in
theorem code_learn (w : World) (p : Nat) (t : Ste) (F : Nat → Prop) (n : Nat) (s x : Int) (h : SiteAt w p t F) (hk : t.Ok n) (hs : I64 s) (hx : I64 x) :
    Calls Tryd.prog 15 #[.pointer (some ⟨p, 0, none⟩), .int .i64 s, .int .i64 x] w (To SiteAt w p F (t.learn s x).2 (.int .i64 (t.learn s x).1)) := by
  have IX := Lib.hid (code_index w h hk.len s)
  have H := Lib.hid h
  have l4 := hk.len
  have c9 := h.c.cell 9 _ (row9 l4)
  have pl := h.c.lt
  obtain ⟨s1, s2⟩ := hs
  obtain ⟨x1, x2⟩ := hx
  have K := Lib.hid hk
  clear h hk
  by_cases n1 : s < 0
  · have TO := Lib.hid (H.out.same 0 (.int .i64 1))
    have LE := Lib.hid (learn_neg (t := t) (v := x) (.inl n1))
    go_enter Tryd.func15, Tryd.ntmps15
    go_wp2_with fail
    go_ret
    rw [LE.out]; exact TO.out
  by_cases n2 : x < 0
  · have TO := Lib.hid (H.out.same 0 (.int .i64 1))
    have LE := Lib.hid (learn_neg (t := t) (s := s) (.inr n2))
    go_enter Tryd.func15, Tryd.ntmps15
    go_wp2_with fail
    go_ret
    rw [LE.out]; exact TO.out
  cases hf : t.full
  case true =>
    rw [hf] at c9
    have TO := Lib.hid (H.out.same 0 (.int .i64 2))
    have LE := Lib.hid (show t.learn s x = (2, t) by unfold Ste.learn; rw [if_neg (by omega), if_pos hf])
    clear hf
    go_enter Tryd.func15, Tryd.ntmps15
    go_wp2_with fail
    go_ret
    rw [LE.out]; exact TO.out
  case false =>
    rw [hf] at c9
    have LN := Lib.hid (show t.learn s x = (match lk s t.l with | some _ => ((0 : Int), { t with l := upd s x t.l }) | none => if t.l.length = 4 then (2, { t with l := [], full := true }) else (0, { t with l := t.l ++ [(s, x)] })) by
      unfold Ste.learn; rw [if_neg (by omega), if_neg (by rw [hf]; decide)]; cases lk s t.l <;> rfl)
    have FL := Lib.hid hf
    clear hf
    go_enter Tryd.func15, Tryd.ntmps15
    go_wp2_with fail
    refine IX.out.mono ?_
    rintro e w1 ⟨hb, hx⟩
    have HB := Lib.hid hb
    have H1 := (H.out.below hb).c
    have BK := Lib.hid H1
    have c8 := H1.cell 8 _ (row8 l4)
    have c10 := H1.cell 10 _ (row10 l4)
    have c11 := H1.cell 11 _ (row11 l4)
    have f8 := H1.frozen 8
    rcases hx with ⟨k, ⟨u, v⟩, rfl, hk, he, hf⟩ | ⟨rfl, hl⟩
    · have kl := (List.getElem?_eq_some_iff.1 hk).1
      have LE := Lib.hid (show t.learn s x = (0, { t with l := upd s x t.l }) by rw [LN.out, lk_first hk he hf])
      have UF := Lib.hid (upd_flat (x := x) hk he hf)
      have r1 := H1.cell (k * 2 + 1) _ (row_at hk).2
      have fr := H1.frozen (k * 2 + 1)
      have k4 : (k : Int) < 4 := by omega
      have kn : ((k : Int) == -1) = false := by simp
      clear hk he hf hb H1 IX LN
      simp only at r1
      have TO := Lib.hid (H.out.toB HB.out (by rw [← set_slot kl UF.out]; exact BK.out.set (k * 2 + 1) (.int .i64 x)) (Chg.set w1 ⟨p, k * 2 + 1, none⟩ (.int .i64 x) rfl) (.int .i64 0))
      go_wp2_with fail
      go_ret
      rw [LE.out]; exact TO.out
    · by_cases h4 : t.l.length = 4
      · have LE := Lib.hid (show t.learn s x = (2, { t with l := [], full := true }) by rw [LN.out, hl]; exact if_pos h4)
        have h4i : ((t.l.length : Int) == 4) = true := by simp; omega
        obtain ⟨v0, q0⟩ := H1.any l4 0 (by omega)
        obtain ⟨v1, q1⟩ := H1.any l4 1 (by omega)
        obtain ⟨v2, q2⟩ := H1.any l4 2 (by omega)
        obtain ⟨v3, q3⟩ := H1.any l4 3 (by omega)
        obtain ⟨v4, q4⟩ := H1.any l4 4 (by omega)
        obtain ⟨v5, q5⟩ := H1.any l4 5 (by omega)
        obtain ⟨v6, q6⟩ := H1.any l4 6 (by omega)
        obtain ⟨v7, q7⟩ := H1.any l4 7 (by omega)
        have c9 := H1.cell 9 _ (row9 l4)
        have f0 := H1.frozen 0
        have f1 := H1.frozen 1
        have f2 := H1.frozen 2
        have f3 := H1.frozen 3
        have f4 := H1.frozen 4
        have f5 := H1.frozen 5
        have f6 := H1.frozen 6
        have f7 := H1.frozen 7
        have f9 := H1.frozen 9
        have f10 := H1.frozen 10
        have f11 := H1.frozen 11
        clear hl hb H1 IX LN
        have TO := Lib.hid (H.out.toB HB.out (by rw [← set_full h4]; exact ((((((((((((BK.out.set 0 (.int .i64 0)).set 1 (.int .i64 0)).set 2 (.int .i64 0)).set 3 (.int .i64 0)).set 4 (.int .i64 0)).set 5 (.int .i64 0)).set 6 (.int .i64 0)).set 7 (.int .i64 0)).set 8 (.int .i64 0)).set 9 (.bool true)).set 10 (.int .i64 t.hits)).set 11 (.int .i64 t.miss)).drewn)
          (((((((((((((Chg.refl (fun b => b = p) w1).also 0 (.int .i64 0)).also 1 (.int .i64 0)).also 2 (.int .i64 0)).also 3 (.int .i64 0)).also 4 (.int .i64 0)).also 5 (.int .i64 0)).also 6 (.int .i64 0)).also 7 (.int .i64 0)).also 8 (.int .i64 0)).also 9 (.bool true)).also 10 (.int .i64 t.hits)).also 11 (.int .i64 t.miss)).drewn (.int .i64 2))
        go_wp2_with fail
        go_region
        go_wp2_with fail
        go_ret
        rw [LE.out]; exact TO.out
      · have LE := Lib.hid (show t.learn s x = (0, { t with l := t.l ++ [(s, x)] }) by rw [LN.out, hl]; exact if_neg h4)
        have h4i : ((t.l.length : Int) == 4) = false := by simp; omega
        have i4 : (t.l.length : Int) < 4 := by omega
        have i0 : (0 : Int) ≤ t.l.length := by omega
        obtain ⟨N, hN⟩ : ∃ N, t.l.length = N := ⟨_, rfl⟩
        obtain ⟨v0, q0⟩ := H1.any l4 (N * 2) (by omega)
        obtain ⟨v1, q1⟩ := H1.any l4 (N * 2 + 1) (by omega)
        have f0 := H1.frozen (N * 2)
        have f1 := H1.frozen (N * 2 + 1)
        have n0 : ¬ N * 2 = 8 := by omega
        have n1 : ¬ N * 2 + 1 = 8 := by omega
        have TO := Lib.hid (H.out.toB HB.out (by rw [← set_more (t := t) (by omega) s x]; exact (((BK.out.set (t.l.length * 2) (.int .i64 s)).set (t.l.length * 2 + 1) (.int .i64 x)).set 8 (.int .i64 ((t.l.length : Int) + 1))).drewn)
          ((((Chg.refl (fun b => b = p) w1).also (t.l.length * 2) (.int .i64 s)).also (t.l.length * 2 + 1) (.int .i64 x)).also 8 (.int .i64 ((t.l.length : Int) + 1))).drewn (.int .i64 0))
        rw [hN] at TO
        rw [hN] at c8 h4i i4 i0
        clear hl hb H1 IX LN hN
        go_wp2_with fail
        go_region
        go_wp2_with fail
        go_ret
        rw [LE.out]; exact TO.out
end Go.Proofs.YtpgjmmlgaanelaaDoor.Ch
