/-
  The landed profile: a decision is noted.
-/
import Derived.Test.YtjoffbgfokedlaaDoorSd
import Derived.Deep.RegionLaw
namespace Go.Proofs.YtjoffbgfokedlaaDoor.Pf
open Go Go.RowKit Go.Maps

theorem infoD : (Tryd.prog.info? 49).map (fun i => (i.zero, i.size, i.bytes)) = some (some (.agg #[.int .i64 0, .int .i64 0, .int .i64 0, .string ⟨#[]⟩]), 4, 40) := by kernel_rfl
section
variable {p : Nat} {t : Pst} {F : Nat → Prop} {mb : Nat} {v : Value} {f : Plc → Ld}
/-- A decision more: the row of decisions was appended to, and stored. -/
theorem ProfAt.note {w W w6 : World} (h : ProfAt w p t F mb v f) (hB : Below w.heap.size w W) {d : Dec} {g cap : Nat} (hown : w6.ownsRow 0 49 4 (.slice (some ⟨g, 0, none⟩) (t.D.length + 1) cap) (t.D.length + 1) (flatD t.D ++ cellsD d))
    (hgrow : W.grownBy w6 v.ownBlock) (hg : v.ownBlock = some g ∨ w.heap.size ≤ g) (hlt : g < w6.heap.size) :
    (ProfAt (w6.setCell ⟨p, 5, none⟩ (.slice (some ⟨g, 0, none⟩) (t.D.length + 1) cap)) p { t with D := t.D ++ [d] } (Nw F w w6) mb (.slice (some ⟨g, 0, none⟩) (t.D.length + 1) cap) f ∧
      Chg F w (w6.setCell ⟨p, 5, none⟩ (.slice (some ⟨g, 0, none⟩) (t.D.length + 1) cap))) ∧ (∀ b, b < w.heap.size → v.ownBlock ≠ some b → w6.heap[b]? = w.heap[b]?) := by
  have z1 := hB.size
  have z2 := hgrow.size
  have pl := h.lt p h.fp
  have same : ∀ b, b < w.heap.size → v.ownBlock ≠ some b → w6.heap[b]? = w.heap[b]? := fun b hb hn => by
    rw [hgrow.block b (by omega) (fun e => hn e.symm), hB.block b hb]
  have nv : ∀ {b c T}, Bk w b c T → T ≠ 49 → v.ownBlock ≠ some b := fun {b c T} hb hT e => by
    obtain ⟨_, cur, hc⟩ := own_block h.own e
    exact bk_ne hb hc hT rfl
  have pv := nv h.top (by decide)
  have gp : g ≠ p := fun e => by
    rcases hg with hg | hg
    · exact pv (e ▸ hg)
    · omega
  have far := far_set w6 p 5 (.slice (some ⟨g, 0, none⟩) (t.D.length + 1) cap)
  have hz : (w6.setCell ⟨p, 5, none⟩ (.slice (some ⟨g, 0, none⟩) (t.D.length + 1) cap)).heap.size = w6.heap.size := by simp [World.setCell]
  obtain ⟨D0, hm0, hD0⟩ := h.map
  have np : p ≠ mb := fun e => map_ne h.top hm0 e
  have vm : v.ownBlock ≠ some mb := fun e => by
    obtain ⟨_, cur, hc⟩ := own_block h.own e
    exact map_ne hc hm0 rfl
  have T6 : Bk w6 p (rowP t mb v) 67 := h.top.keep (same p pl pv)
  have hk : ∀ q ∈ t.L, ∀ k, (f q.1).has k → (w6.setCell ⟨p, 5, none⟩ (.slice (some ⟨g, 0, none⟩) (t.D.length + 1) cap)).heap[k]? = w.heap[k]? := fun q hq k hk => by
    have LA := h.loops q hq
    have hp : k ≠ p := fun e => LA.not_bk h.top (by decide) (by decide) (by decide) (by decide) (e ▸ hk)
    rw [far k hp]
    refine same k (LA.lt k hk) fun e => ?_
    obtain ⟨_, cur, hc⟩ := own_block h.own e
    exact LA.not_bk hc (by decide) (by decide) (by decide) (by decide) hk
  refine ⟨⟨⟨fun b hb => ?_, T6.set 5 _, .inl h.fp, ⟨D0, map_keep hm0 ?_, hD0⟩, .inl h.fm, fun q hq => (h.loops q hq).keep (hk q hq), fun q hq k hk => .inl (h.fl q hq k hk), h.apart, h.offm, ?_, fun k hk => ?_, h.srt, h.hiN⟩,
    hgrow.os.trans hB.os, hgrow.tape.trans hB.tape, hgrow.output.trans hB.output, by omega, fun b hb hF => ?_⟩, same⟩
  · rw [hz]
    rcases hb with hb | hb
    · have := h.lt b hb; omega
    · exact hb.2
  · rw [far mb (fun e => np e.symm)]
    exact same mb (h.lt mb h.fm) vm
  · show World.ownsRow _ 0 _ 4 _ (t.D ++ [d]).length (flatD (t.D ++ [d]))
    rw [flatD_snoc, List.length_append]
    exact own_keep hown fun b hb => far b (fun e => gp (by simp [Value.ownBlock] at hb; omega))
  · have : k = g := by simpa [Value.ownBlock] using hk.symm
    subst this
    rcases hg with hg | hg
    · exact .inl (h.fv k hg)
    · exact .inr ⟨hg, hlt⟩
  · rw [far b (fun e => hF (e ▸ h.fp))]
    exact same b hb fun e => hF (h.fv b e)
theorem setF_self (f : Plc → Ld) (a : Plc) : setF f a (f a) = f := by
  funext b
  unfold setF
  split
  · rename_i e; rw [e]
  · rfl
/-- Cells of a loop turned in place. -/
theorem ProfAt.poke {w w' : World} (h : ProfAt w p t F mb v f) {a : Plc} {x x' : Spot} (hx : lk a t.L = some x) (hb : Bk w' (f a).b (rowL x' (f a)) 93) (he : x'.ex = x.ex ∧ x'.en = x.en) (hk : ∀ k, k ≠ (f a).b → w'.heap[k]? = w.heap[k]?) (hz : w'.heap.size = w.heap.size) :
    ProfAt w' p { t with L := ins a x' t.L } F mb v f := by
  have LA := h.loops _ (lk_mem hx)
  obtain ⟨D, hm, hD⟩ := LA.map
  have r := h.turn (w' := w') (x' := x') hx (d' := f a) ⟨hb, ⟨D, map_keep (by rw [he.2]; exact hm) (hk _ fun e => map_ne LA.blk hm e.symm), by rw [he.1]; exact hD⟩, LA.b0.keep (hk _ (bk_ne LA.b0 LA.blk (by decide))), LA.b1.keep (hk _ (bk_ne LA.b1 LA.blk (by decide))), LA.b2.keep (hk _ (bk_ne LA.b2 LA.blk (by decide)))⟩ rfl (fun g hg => .inl hg)
    (fun k _ hn => hk k fun e => hn (.inl e)) (by omega)
  rw [setF_self] at r
  refine ⟨fun b hF => by rw [hz]; exact h.lt b hF, r.top, h.fp, r.map, h.fm, r.loops, fun q hq g hg => ?_, r.apart, r.offm, r.own, h.fv, r.srt, h.hi⟩
  rcases r.fl q hq g hg with h' | h'
  · exact h'
  · omega
theorem notes_of {w : World} {b : Nat} {d : Dec} {why : ByteArray} (hw : bsL d.why = why) (hb : Bk w b #[.int .i64 d.plc.1, .int .i64 d.plc.2, .int .i64 d.tier, .string why] 49) : ∀ j u, (cellsD d)[j]? = some u → w.cell? ((⟨b, 0, none⟩ : Addr).add j) = some u := by
  subst hw
  exact World.news_of_block (cs := #[.int .i64 d.plc.1, .int .i64 d.plc.2, .int .i64 d.tier, .string (bsL d.why)]) hb
set_option maxRecDepth 100000 in
set_option maxHeartbeats 4000000 in
theorem code_decide (w : World) (h : ProfAt w p t F mb v f) {a : Plc} {x : Spot} (hx : lk a t.L = some x) (tr : Int) (why : ByteArray) (hD : t.D.length ≤ 1000000) :
    Calls Tryd.prog 59 #[.int .i64 tr, .string why, .pointer (some ⟨(f a).x0, 0, none⟩), .pointer (some ⟨(f a).x1, 0, none⟩), .pointer (some ⟨(f a).x2, 0, none⟩)] w fun e w' =>
      ∃ v' F', e = .returned (.tuple #[]) ∧ ProfAt w' p { t with L := ins a { x with tier := tr } t.L, D := t.D ++ [⟨a, tr, why.data.toList⟩] } F' mb v' f ∧ Chg F w w' ∧ Sub F F' w := by
  have LA := h.loops _ (lk_mem hx)
  have b0 := LA.b0.cell 0 (.pointer (some ⟨(f a).b, 0, none⟩)) rfl
  have z0 := LA.blk.cell 0 (.int .i64 x.tier) rfl
  have z1 := LA.blk.frozen 0
  obtain ⟨W, hW⟩ : ∃ W, w.setCell ⟨(f a).b, 0, none⟩ (.int .i64 tr) = W := ⟨_, rfl⟩
  have H1 : ProfAt W p { t with L := ins a { x with tier := tr } t.L } F mb v f := by
    rw [← hW]
    exact h.poke hx (LA.blk.set 0 (.int .i64 tr)) ⟨rfl, rfl⟩ (far_set w _ 0 _) (by simp [World.setCell])
  have CH : Chg F w W := by rw [← hW]; exact Chg.set w ⟨(f a).b, 0, none⟩ _ (h.fl _ (lk_mem hx) _ (.inl rfl))
  have L1 := H1.loops (a, { x with tier := tr }) (lk_mem (by rw [lk_ins, if_pos rfl]))
  have b1 := L1.b1.cell 0 (.pointer (some ⟨p, 0, none⟩)) rfl
  have b2 := L1.b2.cell 0 (.int .i64 a.1) rfl
  have b3 := L1.b2.cell 1 (.int .i64 a.2) rfl
  have c5 := H1.top.cell 5 v rfl
  have pl := H1.top.lt
  have xl1 := L1.b1.lt
  have xl2 := L1.b2.lt
  have PV := Lib.hid (show v.ownBlock ≠ some p from fun e => by
    obtain ⟨_, cur, hc⟩ := own_block H1.own e
    exact bk_ne H1.top hc (by decide) rfl)
  have XN := Lib.hid (show v.ownBlock ≠ some (f a).x1 from fun e => by
    obtain ⟨_, cur, hc⟩ := own_block H1.own e
    exact bk_ne L1.b1 hc (by decide) rfl)
  have XM := Lib.hid (show v.ownBlock ≠ some (f a).x2 from fun e => by
    obtain ⟨_, cur, hc⟩ := own_block H1.own e
    exact bk_ne L1.b2 hc (by decide) rfl)
  have HO := Lib.hid H1.own
  have HH := Lib.hid H1
  have CC := Lib.hid CH
  have HW := Lib.hid hW
  obtain ⟨i1, hi1, hy0, hy1, hy2⟩ := info_parts infoD
  obtain ⟨d, hd⟩ : ∃ d, f a = d := ⟨_, rfl⟩
  simp only at b1 b2 b3 xl1 xl2
  rw [hd] at b0 z0 z1 b1 b2 b3 xl1 xl2 XN XM HW ⊢
  obtain ⟨y, z⟩ := a
  simp only at b2 b3
  have n5 : (0 : Int) ≤ t.D.length := by omega
  clear h LA H1 CH L1 hd hW hx
  go_enter Tryd.func59, Tryd.ntmps59
  go_wp2_with fail
  rw [HW.out]
  clear b0 z0 z1 HW
  go_region_law (refine step_append_lies _ (by rfl) _ _ _ (by rfl) 0 49 i1 _ 4 40 Tryd.underlying36 hi1 hy0 hy1 hy2 rfl (by omega) v t.D.length (flatD t.D) (by rfl) (World.ownsRow.alloc HO.out _) ⟨W.heap.size, 0, none⟩ 1 1 (cellsD ⟨(y, z), tr, why.data.toList⟩) (by rfl) (by rfl) (notes_of (bsL_of why) (Bk.new W _ _)) (by simp [cellsD, Value.oneCell']) (by omega) (by unfold maxLen; omega) (by omega) (Nat.zero_le _) (W.heap.size + 1) (by simp) ?_
                 intro g cap w6 hown hgrow hg hglt
                 have NT := HH.out.note (d := ⟨(y, z), tr, why.data.toList⟩) (((Below.refl _ W).alloc (Nat.le_refl _) (.cells #[.int .i64 y, .int .i64 z, .int .i64 tr, .string why] 49)).drew) hown hgrow (hg.imp_right fun e => by omega) hglt
                 have T6 := HH.out.top.keep (NT.2 p pl PV.out)
                 have c6 := T6.cell 5 v rfl
                 have f6 := T6.frozen 5
                 have y1 := (World.cell?_of_block (a := ⟨d.x1, 0, none⟩) (NT.2 d.x1 xl1 XN.out)).trans b1
                 have FIN := Lib.hid NT.1
                 clear hown hgrow hg hglt NT T6)
  all_goals
    have G := Lib.hid (show ∃ v' F', ProfAt (w6.setCell ⟨p, 5, none⟩ (.slice (some ⟨g, 0, none⟩) (t.D.length + 1) cap)) p { t with L := ins (y, z) { x with tier := tr } t.L, D := t.D ++ [⟨(y, z), tr, why.data.toList⟩] } F' mb v' f ∧ Chg F w (w6.setCell ⟨p, 5, none⟩ (.slice (some ⟨g, 0, none⟩) (t.D.length + 1) cap)) ∧ Sub F F' w from
      ⟨_, _, FIN.out.1, CC.out.trans FIN.out.2 (fun x hx => .inl hx), fun b hb => hb.imp_right fun h => Nat.le_trans CC.out.size h.1⟩)
    clear FIN
    go_wp2_with fail
    go_end0
    obtain ⟨v', F', g1, g2, g3⟩ := G.out
    exact ⟨v', F', rfl, g1, g2, g3⟩
end
end Go.Proofs.YtjoffbgfokedlaaDoor.Pf
