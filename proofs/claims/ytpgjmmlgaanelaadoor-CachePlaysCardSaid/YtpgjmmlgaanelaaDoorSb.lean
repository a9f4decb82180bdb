/-
  What only reads the landed site: New, known, index, Counts, State.
-/
import Derived.Test.YtpgjmmlgaanelaaDoorSa
import Derived.BigRegion
namespace Go.Proofs.YtpgjmmlgaanelaaDoor.Ch
open Go Go.RowKit

theorem code_new (w : World) : Calls Tryd.prog 11 #[] w fun e w' => ∃ p F, e = .returned (.pointer (some ⟨p, 0, none⟩)) ∧ SiteAt w' p st0 F ∧ Below w.heap.size w w' ∧ ∀ b, F b → w.heap.size ≤ b := by
  go_enter Tryd.func11, Tryd.ntmps11
  go_wp2_with fail
  go_ret
  exact ⟨_, fun b => b = w.heap.size, rfl, ⟨Bk.new w _ _, fun _ => Iff.rfl⟩, (Below.refl _ w).alloc (Nat.le_refl _) _, fun b hb => by omega⟩
section
variable {p : Nat} {t : Ste} {F : Nat → Prop}
theorem code_known (w : World) (h : SiteAt w p t F) (h4 : t.l.length ≤ 4) :
    Calls Tryd.prog 33 #[.pointer (some ⟨p, 0, none⟩)] w fun e w' => e = .returned (.slice (some ⟨p, 0, none⟩) t.l.length 4) ∧ w.drew = w' := by
  have c8 := h.c.cell 8 _ (row8 h4)
  have i4 : (t.l.length : Int) ≤ 4 := by omega
  have i0 : (0 : Int) ≤ t.l.length := by omega
  clear h
  go_enter Tryd.func33, Tryd.ntmps33
  go_wp2_with fail
  go_region
  go_wp2_with fail
  go_ret
  exact ⟨rfl, rfl⟩
set_option maxRecDepth 100000 in
theorem code_index (w : World) (h : SiteAt w p t F) (h4 : t.l.length ≤ 4) (s : Int) :
    Calls Tryd.prog 32 #[.pointer (some ⟨p, 0, none⟩), .int .i64 s] w fun e w' => Below w.heap.size w w' ∧
      ((∃ (k : Nat) (q : Int × Int), e = .returned (.int .i64 k) ∧ t.l[k]? = some q ∧ q.1 = s ∧ ∀ (i : Nat) (q : Int × Int), i < k → t.l[i]? = some q → q.1 ≠ s) ∨ (e = .returned (.int .i64 (-1)) ∧ lk s t.l = none)) := by
  have H := Lib.hid h
  have KN := Lib.hid (code_known w h h4)
  clear h
  go_enter Tryd.func32, Tryd.ntmps32
  go_wp2_with fail
  refine KN.out.mono ?_
  rintro e w1 ⟨rfl, rfl⟩
  go_wp2_with fail
  go_loopw [10] (fun i wr => ∃ j : Nat, j ≤ t.l.length ∧ i = .int .i64 j ∧ Hid (∀ (i : Nat) (p : Int × Int), i < j → t.l[i]? = some p → p.1 ≠ s) ∧ Hid (Below w.heap.size w wr)) (fun i _ => t.l.length - (intOf i).toNat)
  case atStart => exact ⟨0, by omega, rfl, Lib.hid (fun i p hi => by omega), Lib.hid ⟨rfl, rfl, rfl, Nat.le_refl _, fun _ _ => rfl⟩⟩
  case round =>
    obtain ⟨j, hj, rfl, hb, hw⟩ := hrel
    have pl := H.out.c.lt
    have zw := hw.out.size
    by_cases hlt : j < t.l.length
    · have hg := List.getElem?_eq_getElem hlt
      obtain ⟨r0, r1⟩ := row_at hg
      have r0 : wr.cell? ⟨p, j * 2, none⟩ = _ := (hw.out.cell (p := ⟨p, j * 2, none⟩) pl).trans (H.out.c.cell _ _ r0)
      have r1 : wr.cell? ⟨p, j * 2 + 1, none⟩ = _ := (hw.out.cell (p := ⟨p, j * 2 + 1, none⟩) pl).trans (H.out.c.cell _ _ r1)
      have hjl : (j : Int) < t.l.length := by omega
      have HG := Lib.hid hg
      clear hg
      obtain ⟨q, hq⟩ : ∃ q, t.l[j] = q := ⟨_, rfl⟩
      rw [hq] at r0 r1 HG
      clear hq
      obtain ⟨x, y⟩ := q
      simp only at r0 r1
      by_cases he : x = s
      · have hkb : (x == s) = true := by simp [he]
        have LK := Lib.hid he
        clear he
        go_wp2_with fail
        go_ret
        exact ⟨hw.out.alloc hw.out.size _, .inl ⟨j, _, rfl, HG.out, LK.out, hb.out⟩⟩
      · have hkb : (x == s) = false := by simp [he]
        have HB := Lib.hid (show ∀ (i : Nat) (p : Int × Int), i < j + 1 → t.l[i]? = some p → p.1 ≠ s from fun i p hi hp => by
          rcases Nat.lt_or_ge i j with g | g
          · exact hb.out i p g hp
          · obtain rfl : i = j := by omega
            rw [HG.out] at hp
            injection hp with hp
            subst hp
            exact he)
        clear he hb
        go_wp2_with fail
        go_roundw
        case rel => exact ⟨j + 1, by omega, by go_num, HB, Lib.hid (hw.out.alloc hw.out.size _)⟩
        case measure => simp [intOf]; omega
    · obtain rfl : j = t.l.length := by omega
      have LK := Lib.hid (lk_none_at fun i p hp => hb.out i p (List.getElem?_eq_some_iff.1 hp).1 hp)
      clear hb
      go_wp2_with fail
      go_ret
      exact ⟨hw.out, .inr ⟨rfl, LK.out⟩⟩
theorem code_counts (w : World) (h : SiteAt w p t F) (h4 : t.l.length ≤ 4) :
    Calls Tryd.prog 25 #[.pointer (some ⟨p, 0, none⟩)] w fun e w' => e = .returned (.tuple #[.int .i64 t.hits, .int .i64 t.miss]) ∧ Below w.heap.size w w' := by
  have c10 := h.c.cell 10 _ (row10 h4)
  have c11 := h.c.cell 11 _ (row11 h4)
  clear h
  go_enter Tryd.func25, Tryd.ntmps25
  go_wp2_with fail
  go_region
  go_wp2_with fail
  go_ret2
  exact ⟨rfl, rfl, rfl, rfl, Nat.le_refl _, fun _ _ => rfl⟩
theorem code_state (w : World) (h : SiteAt w p t F) {n : Nat} (hk : t.Ok n) :
    Calls Tryd.prog 17 #[.pointer (some ⟨p, 0, none⟩)] w fun e w' => e = .returned (.int .i64 t.state) ∧ Below w.heap.size w w' := by
  have c9 := h.c.cell 9 _ (row9 hk.len)
  have KN := Lib.hid (code_known w h hk.len)
  have l4 := hk.len
  clear h hk
  cases hf : t.full
  · rw [hf] at c9
    have E := Lib.hid (show t.state = min (t.l.length : Int) 2 by unfold Ste.state; rw [if_neg (by rw [hf]; decide)])
    obtain ⟨m, hm⟩ : ∃ m : Int, min (t.l.length : Int) 2 = m := ⟨_, rfl⟩
    rw [hm] at E
    clear hf
    go_enter Tryd.func17, Tryd.ntmps17
    go_wp2_with fail
    refine KN.out.mono ?_
    rintro e w1 ⟨rfl, rfl⟩
    go_wp2_with fail
    all_goals
      go_ret
      refine ⟨?_, rfl, rfl, rfl, Nat.le_refl _, fun _ _ => rfl⟩
      rw [E.out, ← hm]
      first | (rw [show min (t.l.length : Int) 2 = 2 by omega]; rfl) | (rw [show min (t.l.length : Int) 2 = t.l.length by omega]; rfl)
  · have E := Lib.hid (show t.state = 3 by unfold Ste.state; rw [hf]; rfl)
    rw [hf] at c9
    clear hf
    go_enter Tryd.func17, Tryd.ntmps17
    go_wp2_with fail
    go_ret
    exact ⟨by rw [E.out]; rfl, Below.refl _ _⟩
end
end Go.Proofs.YtpgjmmlgaanelaaDoor.Ch
