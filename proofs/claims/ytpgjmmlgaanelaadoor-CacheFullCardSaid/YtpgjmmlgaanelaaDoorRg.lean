/-
  The reference's Learn.
-/
import Derived.Test.YtpgjmmlgaanelaaDoorRf
namespace Go.Proofs.YtpgjmmlgaanelaaDoor.Ch
open Go Go.RowKit

theorem infoP : (Tryd.prog.info? 69).map (fun i => (i.zero, i.size, i.bytes)) = some (some (.agg #[.int .i64 0, .int .i64 0]), 2, 16) := by kernel_rfl
theorem flat_app (a b : List (Int × Int)) : flat (a ++ b) = flat a ++ flat b := by unfold flat; rw [List.flatMap_append]
theorem flat_one (p : Int × Int) : flat [p] = [.int .i64 p.1, .int .i64 p.2] := rfl
theorem flat_cells (l : List (Int × Int)) : ∀ u ∈ flat l, u.oneCell' = true := by
  intro u hu
  obtain ⟨p, _, hp⟩ := List.mem_flatMap.1 hu
  simp only [List.mem_cons, List.not_mem_nil, or_false] at hp
  rcases hp with rfl | rfl <;> rfl
section
variable {w w1 w6 : World} {q : Nat} {t : Ste} {v : Value} {G : Nat → Prop}
/-- The blocks behind an append. -/
def Grown (q g : Nat) (b : Nat) : Prop := b = q ∨ b = g
theorem RefA.qlt (h : RefA w q t v G) : q < w.heap.size := h.c.lt
theorem add_to (h : RefA w q t v G) (B : Below w.heap.size w w1) {o : Obj} {g cap : Nat} {s x : Int} (hown : w6.ownsRow 0 69 2 (.slice (some ⟨g, 0, none⟩) (t.l.length + 1) cap) (t.l.length + 1) (flat t.l ++ [.int .i64 s, .int .i64 x]))
    (hgrow : (w1.alloc o).grownBy w6 v.ownBlock) (hg : v.ownBlock = some g ∨ g = w1.heap.size + 1) (hlt : g < w6.heap.size) (u : Value) :
    RefTo w q G { t with l := t.l ++ [(s, x)] } u (.returned u) (w6.setCell ⟨q, 0, none⟩ (.slice (some ⟨g, 0, none⟩) (t.l.length + 1) cap)) ∧ w6.cell? ⟨q, 0, none⟩ = some v ∧ w6.frozen? ⟨q, 0, none⟩ = false := by
  have ql := h.qlt
  have q1 : q < w1.heap.size := Nat.lt_of_lt_of_le ql B.size
  have qg : q ≠ g := fun e => by
    rcases hg with hg | hg
    · exact h.n (by rw [e]; exact hg)
    · omega
  have same : ∀ b, b < w.heap.size → v.ownBlock ≠ some b → w6.heap[b]? = w.heap[b]? := fun b hb hn => by
    have b1 : b < w1.heap.size := Nat.lt_of_lt_of_le hb B.size
    rw [hgrow.block b (by rw [World.size_alloc]; omega) (fun e => hn e.symm), Below.heap_alloc _ _ _ b1, B.block b hb]
  have C6 : Bk w6 q (siteV v t) 60 := by
    have := h.c
    unfold Bk at *
    rw [same q ql h.n]; exact this
  have far : ∀ b, b ≠ q → (w6.setCell ⟨q, 0, none⟩ (.slice (some ⟨g, 0, none⟩) (t.l.length + 1) cap)).heap[b]? = w6.heap[b]? := fun b hb => Below.heap_setCell w6 _ _ b (fun e => hb e)
  have hz : (w6.setCell ⟨q, 0, none⟩ (.slice (some ⟨g, 0, none⟩) (t.l.length + 1) cap)).heap.size = w6.heap.size := by simp [World.setCell]
  have s6 : w1.heap.size + 1 ≤ w6.heap.size := by have := hgrow.size; rw [World.size_alloc] at this; exact this
  refine ⟨⟨Grown q g, rfl, ⟨.slice (some ⟨g, 0, none⟩) (t.l.length + 1) cap, C6.set 0 _, ?_, by simp [Value.ownBlock]; exact fun e => qg e.symm, fun b => by unfold Grown; simp [Value.ownBlock]; exact or_congr Iff.rfl eq_comm⟩, ⟨?_, ?_, ?_, ?_, fun b hb hG => ?_⟩, fun b hb => ?_⟩, C6.cell 0 _ rfl, C6.frozen 0⟩
  · show World.ownsRow _ 0 _ 2 _ (t.l ++ [(s, x)]).length (flat (t.l ++ [(s, x)]))
    rw [flat_app, flat_one, List.length_append]
    exact own_keep hown fun b hb => far b (fun e => by simp [Value.ownBlock] at hb; exact qg (by rw [← e, hb]))
  · exact hgrow.os.trans (B.os)
  · exact hgrow.tape.trans (B.tape)
  · exact hgrow.output.trans (B.output)
  · rw [hz]; have := B.size; omega
  · have bq : b ≠ q := fun e => hG ((h.g b).2 (.inl e))
    rw [far b bq, same b hb (fun e => hG ((h.g b).2 (.inr e)))]
  · rcases hb with rfl | rfl
    · exact .inl ((h.g _).2 (.inl rfl))
    · rcases hg with hg | hg
      · exact .inl ((h.g _).2 (.inr hg))
      · exact .inr (by have := B.size; omega)
theorem RefTo.after {w W w' : World} {q : Nat} {t' : Ste} {G : Nat → Prop} {u : Value} {e : Ending} (c : Chg G w W) (h : RefTo W q G t' u e w') : RefTo w q G t' u e w' := by
  obtain ⟨G', he, hr, c', s⟩ := h
  exact ⟨G', he, hr, c.trans c' (fun x hx => .inl hx), fun b hb => (s b hb).imp_right fun h => Nat.le_trans c.size h⟩
/-- The site became full. -/
theorem full_to (h : RefA w q t v G) (n : Nat) (u : Value) : RefTo w q G { t with l := [], full := true } u (.returned u) (((w.drewN n).setCell ⟨q, 0, none⟩ (.slice none 0 0)).setCell ⟨q, 1, none⟩ (.bool true)) := by
  have h' : RefA (w.drewN n) q t v G := h.keep fun _ _ => rfl
  have hG := (h.g q).2 (.inl rfl)
  refine ⟨fun b => b = q, rfl, ⟨.slice none 0 0, (h'.c.set 0 _).set 1 _, World.ownsRow_nil _ _ _ _, by simp [Value.ownBlock], fun b => by simp [Value.ownBlock]⟩, ?_, fun b hb => .inl (by rw [hb]; exact hG)⟩
  exact (Chg.trans (Chg.drawn n) (Chg.set _ _ _ hG) fun _ hx => .inl hx).trans (Chg.set _ _ _ hG) fun _ hx => .inl hx
end
set_option maxRecDepth 100000 in
set_option maxHeartbeats 4000000 in
theorem ref_learn (w : World) (q : Nat) (t : Ste) (G : Nat → Prop) (n : Nat) (s x : Int) (h : RefS w q t G) (hk : t.Ok n) (hs : I64 s) (hx : I64 x) :
    Calls Tryd.prog 26 #[.pointer (some ⟨q, 0, none⟩), .int .i64 s, .int .i64 x] w (RefTo w q G (t.learn s x).2 (.int .i64 (t.learn s x).1)) := by
  obtain ⟨v, h⟩ := h
  obtain ⟨A, c, hv, hA, hc, hrow⟩ := h.form
  have H := Lib.hid h
  have ROW := Lib.hid hrow
  have c0 := h.c0
  have c1 := h.c1
  have f0 := h.c.frozen 0
  have f1 := h.c.frozen 1
  have l4 := hk.len
  rw [hv] at c0
  have HVV := Lib.hid hv
  have SI := Lib.hid hs
  have XI := Lib.hid hx
  obtain ⟨s1, s2⟩ := hs
  obtain ⟨x1, x2⟩ := hx
  obtain ⟨i1, hi1, hy0, hy1, hy2⟩ := info_parts infoP
  clear h hrow hk hv
  by_cases n1 : s < 0
  · have TO := Lib.hid (same_to H.out 0 (.int .i64 1))
    have LE := Lib.hid (learn_neg (t := t) (v := x) (.inl n1))
    go_enter Tryd.func26, Tryd.ntmps26
    go_wp2_with fail
    go_ret
    rw [LE.out]; exact TO.out
  by_cases n2 : x < 0
  · have TO := Lib.hid (same_to H.out 0 (.int .i64 1))
    have LE := Lib.hid (learn_neg (t := t) (s := s) (.inr n2))
    go_enter Tryd.func26, Tryd.ntmps26
    go_wp2_with fail
    go_ret
    rw [LE.out]; exact TO.out
  cases hf : t.full
  case true =>
    rw [hf] at c1
    have TO := Lib.hid (same_to H.out 0 (.int .i64 2))
    have LE := Lib.hid (show t.learn s x = (2, t) by unfold Ste.learn; rw [if_neg (by omega), if_pos hf])
    clear hf
    go_enter Tryd.func26, Tryd.ntmps26
    go_wp2_with fail
    go_ret
    rw [LE.out]; exact TO.out
  case false =>
    rw [hf] at c1
    have LN := Lib.hid (show t.learn s x = (match lk s t.l with | some _ => ((0 : Int), { t with l := upd s x t.l }) | none => if t.l.length = 4 then (2, { t with l := [], full := true }) else (0, { t with l := t.l ++ [(s, x)] })) by
      unfold Ste.learn; rw [if_neg (by omega), if_neg (by rw [hf]; decide)]; cases lk s t.l <;> rfl)
    clear hf
    go_enter Tryd.func26, Tryd.ntmps26
    go_wp2_with fail
    go_loopw [7] (fun i wr => ∃ j : Nat, j ≤ t.l.length ∧ i = .int .i64 j ∧ Hid (∀ (i : Nat) (p : Int × Int), i < j → t.l[i]? = some p → p.1 ≠ s) ∧ Hid (∃ n, wr = w.drewN n)) (fun i _ => t.l.length - (intOf i).toNat)
    case atStart => exact ⟨0, by omega, rfl, Lib.hid (fun i p hi => by omega), Lib.hid ⟨0, rfl⟩⟩
    case round =>
      obtain ⟨j, hj, rfl, hb, hw⟩ := hrel
      obtain ⟨nd, hwr⟩ := hw.out
      subst hwr
      have c0 : (w.drewN nd).cell? ⟨q, 0, none⟩ = some (.slice A t.l.length c) := c0
      have c1 : (w.drewN nd).cell? ⟨q, 1, none⟩ = some (.bool false) := c1
      have f0 : (w.drewN nd).frozen? ⟨q, 0, none⟩ = false := f0
      have f1 : (w.drewN nd).frozen? ⟨q, 1, none⟩ = false := f1
      by_cases hlt : j < t.l.length
      · have hg := List.getElem?_eq_getElem hlt
        obtain ⟨g, rfl, hown, r0, r1⟩ := ROW.out j _ hg
        have r0 : (w.drewN nd).cell? ⟨g, j * 2, none⟩ = some (.int .i64 t.l[j].1) := r0
        have r1 : (w.drewN nd).cell? ⟨g, j * 2 + 1, none⟩ = some (.int .i64 t.l[j].2) := r1
        have f2 : (w.drewN nd).frozen? ⟨g, j * 2 + 1, none⟩ = false := by
          have ho := H.out.o
          rw [HVV.out] at ho
          exact World.ownsRow.frozenAt ho _
        have hjl : (j : Int) < t.l.length := by omega
        have HG := Lib.hid hg
        clear hg hown
        obtain ⟨p, hp⟩ : ∃ p, t.l[j] = p := ⟨_, rfl⟩
        rw [hp] at r0 r1 HG
        clear hp
        obtain ⟨y, z⟩ := p
        simp only at r0 r1
        by_cases he : y = s
        · have hkb : (y == s) = true := by simp [he]
          have LK := Lib.hid (lk_first HG.out he hb.out)
          have TO := Lib.hid (upd_to H.out HVV.out nd (x := x) HG.out he hb.out (.int .i64 0))
          clear he hb hw
          go_wp2_with fail
          go_ret
          rw [LN.out, LK.out]; exact TO.out
        · have hkb : (y == s) = false := by simp [he]
          have HB := Lib.hid (show ∀ (i : Nat) (p : Int × Int), i < j + 1 → t.l[i]? = some p → p.1 ≠ s from fun i p hi hp => by
            rcases Nat.lt_or_ge i j with g | g
            · exact hb.out i p g hp
            · obtain rfl : i = j := by omega
              rw [HG.out] at hp
              injection hp with hp
              subst hp
              exact he)
          clear he hb
          go_wp2_with fail
          go_roundw
          case rel => exact ⟨j + 1, by omega, by go_num, HB, Lib.hid ⟨_, rfl⟩⟩
          case measure => simp [intOf]; omega
      · obtain rfl : j = t.l.length := by omega
        have LK := Lib.hid (lk_none_at fun i p hp => hb.out i p (List.getElem?_eq_some_iff.1 hp).1 hp)
        clear hb hw
        by_cases h4 : t.l.length = 4
        · have TO := Lib.hid (full_to H.out nd (.int .i64 2))
          have h4' : (t.l.length : Int) = 4 := by omega
          have h4b : ((t.l.length : Int) == 4) = true := by simp [h4']
          go_wp2_with fail
          go_ret
          rw [LN.out, LK.out]; simp only [if_pos h4]; exact TO.out
        · have h4' : ¬ (t.l.length : Int) = 4 := by omega
          have h4b : ((t.l.length : Int) == 4) = false := by simp [h4']
          obtain ⟨W, hW⟩ : ∃ W, w.drewN nd = W := ⟨_, rfl⟩
          have HW := Lib.hid (show RefA W q t v G by rw [← hW]; exact H.out.keep fun _ _ => rfl)
          have CW := Lib.hid (show Chg G w W by rw [← hW]; exact Chg.drawn nd)
          rw [hW] at c0 c1 f0 f1 ⊢
          clear hW
          go_wp2_with (at_builtin; refine wpList_append_lies _ rfl _ _ 58 rfl 0 69 i1 (.agg #[.int .i64 0, .int .i64 0]) 2 16 Tryd.underlying58 hi1 hy0 hy1 hy2 rfl (by decide) (.slice A t.l.length c) t.l.length (flat t.l) rfl (World.ownsRow.alloc (by rw [← HVV.out]; exact HW.out.o) _) ⟨W.heap.size, 0, none⟩ 1 1 [.int .i64 s, .int .i64 x] rfl rfl (World.news_of_block (cs := #[.int .i64 s, .int .i64 x]) (t := 69) (fr := (0, 0)) (heap_alloc_new W _)) (by simp [Value.oneCell']) (by omega) (by unfold maxLen; omega) (by omega) (Nat.zero_le _) (W.heap.size + 1) (by simp) ?_)
          intro g cap w6 hown hgrow hg hglt
          have FIN := Lib.hid (add_to HW.out (Below.refl _ W) hown (by rw [HVV.out]; exact hgrow) (by rw [HVV.out]; exact hg) hglt (.int .i64 0))
          have c6 := FIN.out.2.1
          have f6 := FIN.out.2.2
          rw [HVV.out] at c6
          clear hown hgrow hg hglt
          go_wp2_with fail
          go_ret
          rw [LN.out, LK.out]; simp only [if_neg h4]; exact RefTo.after CW.out FIN.out.1
end Go.Proofs.YtpgjmmlgaanelaaDoor.Ch
