/-
  New of package shape.
-/
import Derived.Test.YtjodmjadpooipaaGreatDoorKh
import Derived.Carry
namespace Go.Proofs.YtjodmjadpooipaaGreatDoor.Sh
open Go Go.RowKit

theorem newT_next (fl : List (List ByteArray)) (k : Nat) (hk : k < fl.length) : newT (fl.take (k + 1)) = ⟨((newT (fl.take k)).push k fl[k]).L, (newT (fl.take k)).roots ++ [k]⟩ := by
  have hl : (fl.take k).length = k := by rw [List.length_take]; omega
  have hl1 : (fl.take (k + 1)).length = k + 1 := by rw [List.length_take]; omega
  unfold newT Tre.push
  simp only [hl, hl1, List.range_succ]
  congr 1
  rw [List.take_succ_eq_append_getElem hk, List.mapIdx_append, hl]
  simp
/-- A root more. -/
theorem rootC_at {w w' : World} {p : Nat} {t : Tre} {F F' : Nat → Prop} {vL vR vR' : Value} {mb : Nat} {D : DataW Unit} {hd : Nat → Ld} (h : CodeAt w p t F vL vR mb D hd) {k : Nat}
    (hF : ∀ b, F b → F' b) (hlt : ∀ b, F' b → b < w'.heap.size) (same : ∀ b, F b → b ≠ p → vR.ownBlock ≠ some b → w'.heap[b]? = w.heap[b]?)
    (hp' : Bk w' p #[vL, vR', .map (some mb)] 70)
    (hr : RootsV w' vR' (t.roots ++ [k])) (hR : ∀ b, vR'.ownBlock = some b → F' b) :
    CodeAt w' p ⟨t.L, t.roots ++ [k]⟩ F' vL vR' mb D hd := by
  obtain ⟨xs, h1, h2⟩ := h.rows
  refine ⟨hlt, hp', hF _ h.fp, ⟨xs, own_keep h1 fun b hb => same b (h.fL b hb) (fun e => ?_) (fun e => ?_), h2⟩, fun b hb => hF b (h.fL b hb), hr, hR, fun s hs => ?_, h.nils, map_keep h.map (same mb h.fM (fun e => map_ne_bk h.hp h.map e.symm) (map_ne_own h.roots h.map)), h.cont, hF _ h.fM⟩
  · subst e; exact bk_ne h1 h.hp (by decide) hb
  · exact own_ne h.roots h1 (by decide) _ e hb
  · refine (h.names s hs).keep fun b hb => ?_
    have e3 := same b hb.1 (str_ne_bk h.hp hb.2 (by decide)) (fun e => str_ne h.roots hb.2 (by decide) e)
    obtain ⟨cs, hc⟩ := hb.2
    exact ⟨⟨hF b hb.1, cs, by rw [e3]; exact hc⟩, e3⟩
theorem cont_new (fl : List (List ByteArray)) : Cont (.map []) (newT fl) := fun f nm _ _ => by
  have e : lkC (newT fl) f nm = none := by
    unfold lkC
    rw [newT_sh]
    split
    · split <;> rfl
    · unfold none0; simp [lookL]
  rw [e]
  exact ⟨rfl, fun a h => by cases h⟩
theorem infoI : (Tryz.prog.info? 3).map (fun i => (i.zero, i.size, i.bytes)) = some (some (.int .i64 0), 1, 8) := by kernel_rfl
theorem rootC_done {w3 w6 : World} {p : Nat} {t : Tre} {F : Nat → Prop} {vL vR : Value} {mb : Nat} {D : DataW Unit} {hd : Nat → Ld} (h : CodeAt w3 p t F vL vR mb D hd) {g cap k n : Nat} {xs : List Value} (hn : t.roots.length = n) (hxs : xs = t.roots.map fun (k : Nat) => Value.int .i64 (k : Int)) (hs : Srt ⟨t.L, t.roots ++ [k]⟩) {o : Obj} (hgrow : (w3.alloc o).grownBy w6 vR.ownBlock)
    (hown : w6.ownsRow 0 3 1 (.slice (some ⟨g, 0, none⟩) (n + 1) cap) (n + 1) (xs ++ [.int .i64 k]))
    (hg : vR.ownBlock = some g ∨ g = w3.heap.size + 1) (hglt : g < w6.heap.size) :
    CodeH (w6.setCell ⟨p, 1, none⟩ (.slice (some ⟨g, 0, none⟩) (n + 1) cap)) p ⟨t.L, t.roots ++ [k]⟩ (More F w3 (w6.setCell ⟨p, 1, none⟩ (.slice (some ⟨g, 0, none⟩) (n + 1) cap))) ∧
    Chg F w3 (w6.setCell ⟨p, 1, none⟩ (.slice (some ⟨g, 0, none⟩) (n + 1) cap)) := by
  subst hn hxs
  have h2 : w3.heap.size + 1 ≤ w6.heap.size := by have := hgrow.size; rw [World.size_alloc] at this; exact this
  have hz : (w6.setCell ⟨p, 1, none⟩ (.slice (some ⟨g, 0, none⟩) (t.roots.length + 1) cap)).heap.size = w6.heap.size := by simp [World.setCell]
  have far : ∀ b, b ≠ p → (w6.setCell ⟨p, 1, none⟩ (.slice (some ⟨g, 0, none⟩) (t.roots.length + 1) cap)).heap[b]? = w6.heap[b]? := fun b hb => Below.heap_setCell w6 _ _ b (fun e => hb e)
  have old : ∀ b, b < w3.heap.size → vR.ownBlock ≠ some b → w6.heap[b]? = w3.heap[b]? := fun b hb hne => by
    rw [hgrow.block b (by rw [World.size_alloc]; omega) (fun e => hne e.symm), Below.heap_alloc _ _ _ hb]
  have hp6 : Bk w6 p #[vL, vR, .map (some mb)] 70 := by
    unfold Bk; rw [old p h.hp.lt (bk_ne h.roots h.hp (by decide))]; exact h.hp
  refine ⟨(rootC_at (vR' := .slice (some ⟨g, 0, none⟩) (t.roots.length + 1) cap) h (fun b hb => .inl hb) (fun b hb => ?_) (fun b hb hbp hne => ?_) (hp6.set 1 _) ?_ (fun b hb => ?_)).codeH hs, ⟨hgrow.os, hgrow.tape, hgrow.output, by rw [hz]; omega, fun b hb hf => ?_⟩⟩
  · rcases hb with hb | hb
    · have := h.lt b hb; rw [hz]; omega
    · exact hb.2
  · rw [far b hbp]; exact old b (h.lt b hb) hne
  · unfold RootsV
    rw [List.length_append, List.map_append]
    refine own_keep hown fun b hb => far b fun e => ?_
    subst e
    exact bk_ne hown hp6 (by decide) hb
  · simp only [Value.ownBlock, Option.some.injEq] at hb
    subst hb
    rcases hg with hg | hg
    · exact .inl (h.fR g hg)
    · right; rw [hz]; omega
  · rw [far b (fun e => hf (by rw [e]; exact h.fp))]
    exact old b hb (fun e => hf (h.fR b e))
theorem add_flat2 (g o a b : Nat) (h : o + a = b) : (⟨g, o, none⟩ : Addr).add a = ⟨g, b, none⟩ := by
  unfold Addr.add; subst h; split <;> simp_all
set_option maxRecDepth 100000 in
set_option maxHeartbeats 4000000 in
theorem code_new (w : World) (A : Option Addr) (fl : List (List ByteArray)) (c : Nat) (hc : Cls w w.heap.size A fl) (hfl : fl.length ≤ 12) (h64 : ∀ ns ∈ fl, ns.length ≤ 64) :
    Calls Tryz.prog 24 #[.slice A fl.length c] w fun e w' => ∃ p F, e = .returned (.pointer (some ⟨p, 0, none⟩)) ∧ CodeH w' p (newT fl) F ∧ Below w.heap.size w w' ∧ ∀ b, F b → w.heap.size ≤ b := by
  have hmm := @run_makeMap Tryz.prog
  have hm : min (fl.length : Int) 12 = fl.length := by omega
  have HC := Lib.hid hc
  have H64 := Lib.hid h64
  clear hc h64
  go_enter Tryz.func24, Tryz.ntmps24
  go_wp2_with fail
  obtain ⟨P, hP⟩ : ∃ P, w.heap.size + 1 = P := ⟨_, rfl⟩
  have H0 := Lib.hid (show CodeH ((w.alloc (.map #[] 0)).alloc (.cells #[.slice none 0 0, .slice none 0 0, .map (some w.heap.size)] 70)) P (newT (fl.take 0)) (fun b => b = w.heap.size ∨ b = P) from
    ⟨srt_new _, .slice none 0 0, .slice none 0 0, w.heap.size, .map [], fun _ => ⟨none, 0⟩, by
      subst hP
      exact ⟨fun b hb => by simp; omega, (by have h := Bk.new (w.alloc (.map #[] 0)) #[.slice none 0 0, .slice none 0 0, .map (some w.heap.size)] 70; rw [World.size_alloc] at h; exact h), .inr rfl, ⟨[], World.ownsRow_nil _ _ _ _, fun s hs => by simp [newT] at hs⟩, (fun b hb => by cases hb), World.ownsRow_nil _ _ _ _, (fun b hb => by cases hb), (fun s hs => by simp [newT] at hs), (fun s hs => by simp [newT] at hs), ((World.ownsMap_made w _ _ _).alloc _).mono (Nat.zero_le _), cont_new _, .inl rfl⟩⟩)
  have B0 := Lib.hid (((Below.refl w.heap.size w).alloc (Nat.le_refl _) (.map #[] 0)).alloc (by simp) (.cells #[.slice none 0 0, .slice none 0 0, .map (some w.heap.size)] 70))
  have LP : w.heap.size ≤ P := by omega
  rw [hP]
  obtain ⟨W0, hW0⟩ : ∃ W0, (w.alloc (.map #[] 0)).alloc (.cells #[.slice none 0 0, .slice none 0 0, .map (some w.heap.size)] 70) = W0 := ⟨_, rfl⟩
  rw [hW0] at H0 B0 ⊢
  clear hW0 hP hmm
  go_loopw [12] (fun i wr => ∃ k : Nat, k ≤ fl.length ∧ i = .int .i64 k ∧ Hid (∃ F, CodeH wr P (newT (fl.take k)) F ∧ Below w.heap.size w wr ∧ ∀ b, F b → w.heap.size ≤ b)) (fun i _ => fl.length - (intOf i).toNat)
  case atStart => exact ⟨0, by omega, rfl, Lib.hid ⟨_, H0.out, B0.out, fun b hb => by omega⟩⟩
  case round =>
    obtain ⟨k, hk, rfl, hh⟩ := hrel
    obtain ⟨F, hc, hb, hF⟩ := hh.out
    by_cases hlt : k < fl.length
    · obtain ⟨ad, nm, D, d, M, mn, mc, rfl, hbl, x0, x1, x2, hS, hz, hnd⟩ := HC.out k _ (List.getElem?_eq_getElem hlt)
      have hsp : ad = ⟨ad.block, ad.off, none⟩ := by
        obtain ⟨ad2, nm2, _, _, _, _, _, e, _, y0, _⟩ := HC.out 0 _ (List.getElem?_eq_getElem (show 0 < fl.length by omega))
        injection e with e
        subst e
        have := World.cell?_spot y0
        obtain ⟨b, o, sp⟩ := ad
        simp [Addr.add] at this
        rw [this]
      obtain ⟨g, o, hgo⟩ : ∃ g o, ad = ⟨g, o, none⟩ := ⟨_, _, hsp⟩
      subst hgo
      clear hsp
      obtain ⟨ns, hns⟩ : ∃ ns, fl[k] = ns := ⟨_, rfl⟩
      have NS := Lib.hid hns
      rw [hns] at x1 hS hnd
      have y1 : wr.cell? ⟨g, o + k * 3 + 1, none⟩ = some (.slice D ns.length d) := (hb.cell (p := ⟨g, o + k * 3 + 1, none⟩) hbl).trans (by rw [← add_flat2 g o (3 * k + 1) (o + k * 3 + 1) (by omega)]; exact x1)
      have nl : ns.length ≤ 64 := H64.out ns (by rw [← hns]; exact List.getElem_mem hlt)
      have hm2 : min (ns.length : Int) 64 = ns.length := by omega
      have hsz := hb.size
      have SD := Lib.hid (show SlS wr (· < wr.heap.size) D ns from (hS.low' (fun _ h => h) hb).imp fun b (hb : b < w.heap.size) => by omega)
      have DZ := Lib.hid hz
      have HH := Lib.hid hc
      have HB := Lib.hid hb
      have HF := Lib.hid hF
      have tl : (newT (fl.take k)).L.length = k := by simp [newT]; omega
      have tr : (newT (fl.take k)).roots.length = k := by simp [newT]; omega
      have TL := Lib.hid tl
      have TR := Lib.hid tr
      have NX := Lib.hid (newT_next fl k hlt)
      rw [hns] at NX
      have kb : k ≤ 12 := by omega
      clear hh hc hb hF x0 x1 x2 hS hz hbl hns tl tr
      go_wp2_with fail
      refine (grow_ok _ P _ F HH.out (by rw [TL.out]; omega) k D none ns [] ns d 0 SD.out (SlS.nil _ _ _) (by omega) (by simp) DZ.out (fun _ => rfl) (List.append_nil _)).mono ?_
      rintro e w2 ⟨F2, rfl, h2, c2, s2⟩
      have C2 := Lib.hid c2
      have S2 := Lib.hid s2
      obtain ⟨hs2, vL, vR, mb, D2, hd, h2⟩ := h2
      have H2 := Lib.hid h2
      have SR2 := Lib.hid (show Srt ⟨((newT (fl.take k)).push k ns).L, ((newT (fl.take k)).push k ns).roots ++ [k]⟩ from ⟨hs2.so, hs2.lim⟩)
      have r1 := h2.c1
      have pl : P < w2.heap.size := h2.hp.lt
      have pf : w2.frozen? ⟨P, 1, none⟩ = false := h2.hp.frozen 1
      have RO := Lib.hid (show w2.ownsRow 0 3 1 vR k ((List.range k).map fun (k : Nat) => Value.int .i64 (k : Int)) by
        have h := h2.roots
        unfold RootsV at h
        have e : ((newT (fl.take k)).push k ns).roots = List.range k := by simp only [Tre.push, newT, List.length_take]; rw [Nat.min_eq_left (by omega)]
        rw [e, List.length_range] at h
        exact h)
      obtain ⟨i0, hi0, hz0, hz1, hz2⟩ := info_parts infoI
      obtain ⟨RA, rc, rfl⟩ := own_slice RO.out
      clear h2 c2 s2 hs2
      dsimp only [mkV]
      go_wp2_with (at_builtin; refine wpList_append_lies _ rfl _ _ 54 rfl 0 3 i0 (.int .i64 0) 1 8 Tryz.underlying54 hi0 hz0 hz1 hz2 rfl (by decide) (.slice RA k rc) k _ rfl (World.ownsRow.alloc RO.out _) ⟨w2.heap.size, 0, none⟩ 1 1 [.int .i64 k] rfl rfl (World.news_of_block (cs := #[.int .i64 k]) (t := 3) (fr := (0, 0)) (heap_alloc_new w2 _)) (by simp [Value.oneCell']) (by omega) (by unfold maxLen; omega) (by omega) (by omega) (w2.heap.size + 1) (by simp) ?_)
      intro g2 cap w6 hown hgrow hg2 hglt
      have FIN := Lib.hid (rootC_done (t := (newT (fl.take k)).push k ns) (n := k) H2.out TR.out (by
        have e : ((newT (fl.take k)).push k ns).roots = List.range k := by simp only [Tre.push, newT, List.length_take]; rw [Nat.min_eq_left (by omega)]
        rw [e]) SR2.out hgrow hown hg2 hglt)
      have hp6 : Bk w6 P #[vL, .slice RA k rc, .map (some mb)] 70 := by
        unfold Bk
        rw [hgrow.block P (by rw [World.size_alloc]; omega) (fun e => bk_ne H2.out.roots H2.out.hp (by decide) e.symm), Below.heap_alloc _ _ _ pl]
        exact H2.out.hp
      have c6 := hp6.cell 1 _ rfl
      have f6 := hp6.frozen 1
      have G := Lib.hid (show ∃ F, CodeH (w6.setCell ⟨P, 1, none⟩ (.slice (some ⟨g2, 0, none⟩) (k + 1) cap)) P (newT (fl.take (k + 1))) F ∧ Below w.heap.size w (w6.setCell ⟨P, 1, none⟩ (.slice (some ⟨g2, 0, none⟩) (k + 1) cap)) ∧ ∀ b, F b → w.heap.size ≤ b by
        have b2 := HB.out.trans (C2.out.below HF.out hsz)
        have hF2 : ∀ b, F2 b → w.heap.size ≤ b := fun b hb => (S2.out b hb).elim (HF.out b) (fun h => Nat.le_trans hsz h)
        rw [NX.out]
        refine ⟨_, FIN.out.1, b2.trans (FIN.out.2.below hF2 b2.size), fun b hb => ?_⟩
        rcases hb with hb | hb
        · exact hF2 b hb
        · exact Nat.le_trans b2.size hb.1)
      clear FIN hown hgrow hg2 hglt hp6 r1 y1
      go_wp2_with fail
      go_roundw
      case rel => exact ⟨k + 1, by omega, by go_num, G⟩
      case measure => simp [intOf]; omega
    · obtain rfl : k = fl.length := by omega
      have G := Lib.hid hh.out
      rw [List.take_length] at G
      clear hc hb hF hh
      go_wp2_with fail
      go_ret
      obtain ⟨F, g1, g2, g3⟩ := G.out
      exact ⟨P, F, rfl, g1, g2, g3⟩
end Go.Proofs.YtjodmjadpooipaaGreatDoor.Sh
