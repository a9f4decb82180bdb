/-
  The reference's Forget.
-/
import Derived.Test.YtpgjmmlgaanelaaDoorRh
import Derived.Test.YtpgjmmlgaanelaaDoorCl
namespace Go.Proofs.YtpgjmmlgaanelaaDoor.Ch
open Go Go.RowKit

def OwnP (w : World) (base : Nat) (v : Value) (l : List (Int × Int)) : Prop := w.ownsRow base 69 2 v l.length (flat l)
theorem OwnP.nil (w : World) (base : Nat) : OwnP w base (.slice none 0 0) [] := World.ownsRow_nil _ _ _ _
theorem OwnP.ge {w : World} {base : Nat} {v : Value} {l : List (Int × Int)} (h : OwnP w base v l) : ∀ k, v.ownBlock = some k → base ≤ k := fun k hk => (h.lt k hk).1
theorem OwnP.form {w : World} {base : Nat} {v : Value} {l : List (Int × Int)} (h : OwnP w base v l) : ∃ A c, v = .slice A l.length c := by
  rcases h.2 with ⟨rfl, h0⟩ | ⟨g, cap, cur, rfl, _⟩
  · exact ⟨none, 0, by rw [h0]⟩
  · exact ⟨_, _, rfl⟩
theorem del_snoc (s : Int) (l : List (Int × Int)) (p : Int × Int) : del s (l ++ [p]) = if p.1 = s then del s l else del s l ++ [p] := by
  unfold del
  rw [List.filter_append]
  by_cases e : p.1 = s
  · rw [if_pos e, List.filter_cons_of_neg (by simp [e])]; simp
  · rw [if_neg e, List.filter_cons_of_pos (by simp [e])]; simp
theorem forget_to {w w1 : World} {q : Nat} {t : Ste} {v v' : Value} {G : Nat → Prop} {l' : List (Int × Int)} (h : RefA w q t v G) (B : Below w.heap.size w w1) (ho : OwnP w1 w.heap.size v' l') (u : Value) :
    RefTo w q G { t with l := l' } u (.returned u) (w1.setCell ⟨q, 0, none⟩ v') := by
  have hG := (h.g q).2 (.inl rfl)
  have ql := h.qlt
  have C1 : Bk w1 q (siteV v t) 60 := by
    have := h.c
    unfold Bk at *
    rw [B.block q ql]; exact this
  have far : ∀ b, b ≠ q → (w1.setCell ⟨q, 0, none⟩ v').heap[b]? = w1.heap[b]? := fun b hb => Below.heap_setCell w1 _ _ b (fun e => hb e)
  have nq : ∀ b, v'.ownBlock = some b → b ≠ q := fun b hb e => by have := ho.ge b hb; omega
  refine ⟨fun b => b = q ∨ v'.ownBlock = some b, rfl, ⟨v', C1.set 0 _, ?_, fun e => nq q e rfl, fun b => Iff.rfl⟩, (Chg.of_below B).trans (Chg.set _ _ _ hG) fun _ hx => .inl hx, fun b hb => ?_⟩
  · have ho' : w1.ownsRow 0 69 2 v' l'.length (flat l') := by
      refine ⟨ho.1, ?_⟩
      rcases ho.2 with h' | ⟨g, cap, cur, e, _, h2⟩
      · exact .inl h'
      · exact .inr ⟨g, cap, cur, e, Nat.zero_le _, h2⟩
    exact own_keep ho' fun b hb => far b (nq b hb)
  · rcases hb with rfl | hb
    · exact .inl hG
    · exact .inr (ho.ge b hb)
set_option maxRecDepth 100000 in
set_option maxHeartbeats 4000000 in
theorem ref_forget (w : World) (q : Nat) (t : Ste) (G : Nat → Prop) (n : Nat) (s : Int) (h : RefS w q t G) (hk : t.Ok n) (hs : I64 s) :
    Calls Tryd.prog 27 #[.pointer (some ⟨q, 0, none⟩), .int .i64 s] w (RefTo w q G (t.forget s).2 (.bool (t.forget s).1)) := by
  obtain ⟨v, h⟩ := h
  obtain ⟨A, c, hv, hA, hc, hrow⟩ := h.form
  have H := Lib.hid h
  have ROW := Lib.hid hrow
  have c0 := h.c0
  have f0 := h.c.frozen 0
  have ql := Lib.hid h.c.lt
  have LT := Lib.hid h.ownLt
  have l4 := hk.len
  have DL := Lib.hid (del_len (s := s) hk.nd)
  rw [hv] at c0
  have HVV := Lib.hid hv
  obtain ⟨s1, s2⟩ := hs
  obtain ⟨i1, hi1, hy0, hy1, hy2⟩ := info_parts infoP
  clear h hrow hk hv
  go_enter Tryd.func27, Tryd.ntmps27
  go_wp2_with fail
  go_loopw [5, 6] (fun o i wr => ∃ j : Nat, j ≤ t.l.length ∧ i = .int .i64 j ∧ Hid (OwnP wr w.heap.size o (del s (t.l.take j))) ∧ Hid (Below w.heap.size w wr)) (fun _ i _ => t.l.length - (intOf i).toNat)
  case atStart => exact ⟨0, by omega, rfl, Lib.hid (OwnP.nil _ _), Lib.hid (Below.refl _ _)⟩
  case round =>
    obtain ⟨j, hj, rfl, ho, hw⟩ := hrel
    have c0 : wr.cell? ⟨q, 0, none⟩ = some (.slice A t.l.length c) := (hw.out.cell (p := ⟨q, 0, none⟩) ql.out).trans c0
    have f0 : wr.frozen? ⟨q, 0, none⟩ = false := by
      have C1 : Bk wr q (siteV v t) 60 := by
        have := H.out.c
        unfold Bk at *
        rw [hw.out.block q ql.out]; exact this
      exact C1.frozen 0
    by_cases hlt : j < t.l.length
    · have hg := List.getElem?_eq_getElem hlt
      obtain ⟨g, rfl, hown, r0, r1⟩ := ROW.out j _ hg
      have gl := LT.out g hown
      have r0 : wr.cell? ⟨g, j * 2, none⟩ = some (.int .i64 t.l[j].1) := (hw.out.cell (p := ⟨g, j * 2, none⟩) gl).trans r0
      have r1 : wr.cell? ⟨g, j * 2 + 1, none⟩ = some (.int .i64 t.l[j].2) := (hw.out.cell (p := ⟨g, j * 2 + 1, none⟩) gl).trans r1
      have hjl : (j : Int) < t.l.length := by omega
      have TN := Lib.hid (show del s (t.l.take (j + 1)) = if t.l[j].1 = s then del s (t.l.take j) else del s (t.l.take j) ++ [t.l[j]] by
        rw [take_next _ _ hlt, del_snoc])
      have TL := Lib.hid (show (del s (t.l.take j)).length ≤ 4 from Nat.le_trans (List.length_filter_le _ _) (by rw [List.length_take]; omega))
      obtain ⟨zs, hzs⟩ : ∃ zs, del s (t.l.take j) = zs := ⟨_, rfl⟩
      obtain ⟨p, hp⟩ : ∃ p, t.l[j] = p := ⟨_, rfl⟩
      rw [hzs] at ho TN TL
      rw [hp] at r0 r1 TN
      clear hg hown gl hzs hp
      obtain ⟨x, y⟩ := p
      simp only at r0 r1
      by_cases he : x = s
      · have hkb : (x == s) = true := by simp [he]
        have T2 := Lib.hid (show del s (t.l.take (j + 1)) = zs by rw [TN.out, if_pos he])
        clear he
        go_wp2_with fail
        go_roundw
        case rel => exact ⟨j + 1, by omega, by go_num, by rw [T2.out]; exact ho, hw⟩
        case measure => simp [intOf]; omega
      · have hkb : (x == s) = false := by simp [he]
        have T2 := Lib.hid (show del s (t.l.take (j + 1)) = zs ++ [(x, y)] by rw [TN.out, if_neg he])
        obtain ⟨A2, k2, rfl⟩ := ho.out.form
        have HO := Lib.hid (World.ownsRow.alloc ho.out (.cells #[.int .i64 x, .int .i64 y] 69))
        clear he ho TN
        go_wp2_with (at_builtin; refine wpList_append_own _ rfl _ _ 58 rfl w.heap.size 69 i1 (.agg #[.int .i64 0, .int .i64 0]) 2 16 Tryd.underlying58 hi1 hy0 hy1 hy2 rfl (by decide) _ _ _ rfl HO.out ⟨_, 0, none⟩ 1 1 [.int .i64 x, .int .i64 y] rfl ?qc1 ?qc2 ?qc3 ?qc4 ?qc5 ?qc6 ?_)
        case qc1 => rfl
        case qc2 => exact World.news_of_block (cs := #[.int .i64 x, .int .i64 y]) (t := 69) (fr := (0, 0)) (heap_alloc_new wr _)
        case qc3 => exact flat_cells [(x, y)]
        case qc4 => have := TL.out; unfold maxLen; omega
        case qc5 => have := TL.out; omega
        case qc6 => rw [World.size_alloc]; have := hw.out.size; omega
        intro v' w2 hown hgrow _
        have hn := OwnP.ge HO.out
        have HW := Lib.hid (((hw.out.alloc hw.out.size (.cells #[.int .i64 x, .int .i64 y] 69)).grown hgrow (by rw [World.size_alloc]; have := hw.out.size; omega) hn))
        have HO' := Lib.hid (show OwnP w2 w.heap.size v' (zs ++ [(x, y)]) by unfold OwnP; rw [flat_app, List.length_append]; exact hown)
        clear hown hgrow hn
        go_wp2_with fail
        go_roundw
        case rel => exact ⟨j + 1, by omega, by go_num, by rw [T2.out]; exact HO', HW⟩
        case measure => simp [intOf]; omega
    · obtain rfl : j = t.l.length := by omega
      have ho2 := ho.out
      rw [List.take_length] at ho2
      obtain ⟨A2, k2, rfl⟩ := ho2.form
      cases hs : (lk s t.l).isSome
      · have d1 : (del s t.l).length = t.l.length := by have := DL.out; rw [hs] at this; simpa using this
        have TO := Lib.hid (forget_to H.out hw.out ho2 (.bool false))
        have LE := Lib.hid (show t.forget s = (false, { t with l := del s t.l }) by unfold Ste.forget; rw [hs])
        rw [d1] at TO ⊢
        clear ho2 ho hs
        go_wp2_with fail
        go_ret
        rw [LE.out]; exact TO.out
      · have d1 : (del s t.l).length + 1 = t.l.length := by have := DL.out; rw [hs] at this; simpa using this
        have TO := Lib.hid (forget_to H.out hw.out ho2 (.bool true))
        have LE := Lib.hid (show t.forget s = (true, { t with l := del s t.l }) by unfold Ste.forget; rw [hs])
        obtain ⟨N, hN⟩ : ∃ N, (del s t.l).length = N := ⟨_, rfl⟩
        have d2 : (N : Int) < t.l.length := by omega
        rw [hN] at TO ⊢
        clear ho2 ho hs hN d1
        go_wp2_with fail
        go_ret
        rw [LE.out]; exact TO.out
end Go.Proofs.YtpgjmmlgaanelaaDoor.Ch
