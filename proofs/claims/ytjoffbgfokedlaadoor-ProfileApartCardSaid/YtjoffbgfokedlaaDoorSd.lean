/-
  The landed profile: start.
-/
import Derived.Test.YtjoffbgfokedlaaDoorSb
import Derived.Laws.EntriesVeiled
namespace Go.Proofs.YtjoffbgfokedlaaDoor.Pf
open Go Go.RowKit Go.Maps

section
variable {p : Nat} {t : Pst} {F : Nat → Prop} {mb : Nat} {v : Value} {f : Plc → Ld}
/-- A place more. -/
theorem ProfAt.more {w W w' : World} (h : ProfAt w p t F mb v f) {a : Plc} (ha : okP a) (hn : a ∉ t.L.map (·.1)) {d : Ld} {x : Spot} {D : DataW Unit} (hB : Below w.heap.size w W) (hl : LoopAt W p a x d) (hd : ∀ g, d.has g → w.heap.size ≤ g)
    (hDm : Maps.IsMap D) (hD : MapD D t.L f) (hm : w'.ownsMap Tryd.prog 43 ptrElem mb (t.L.length + 1) (D.put (keyL a) (.lit (.int .i64 d.b)))) (hg : W.grownBy w' (some mb)) :
    ProfAt w' p { t with L := ins a x t.L } (Nw F w w') mb v (setF f a d) ∧ Chg (fun b => b = mb) w w' := by
  have z1 := hB.size
  have z2 := hg.size
  have lm := h.lt mb h.fm
  have hk : ∀ k, k < w.heap.size → k ≠ mb → w'.heap[k]? = w.heap[k]? := fun k hk hne => (hg.block k (by omega) (fun e => hne (by injection e))).trans (hB.block k hk)
  have hk2 : ∀ g, d.has g → w'.heap[g]? = W.heap[g]? := fun g hg' => hg.block g (hl.lt g hg') (fun e => by injection e with e; have := hd g hg'; omega)
  obtain ⟨D0, hm0, _⟩ := h.map
  have np : p ≠ mb := fun e => map_ne h.top hm0 e
  have nl : ∀ q ∈ t.L, ∀ g, (f q.1).has g → g ≠ mb := fun q hq g hg' e => by
    subst e
    have LA := h.loops q hq
    rcases hg' with e | e | e | e | e
    · exact map_ne LA.blk hm0 e.symm
    · exact h.offm q hq e.symm
    · exact map_ne LA.b0 hm0 e.symm
    · exact map_ne LA.b1 hm0 e.symm
    · exact map_ne LA.b2 hm0 e.symm
  have nv : ∀ g, v.ownBlock = some g → g ≠ mb := fun g hg' e => by
    obtain ⟨_, cur, hc⟩ := own_block h.own hg'
    exact map_ne hc hm0 e
  have hlt : ∀ q ∈ t.L, ∀ g, (f q.1).has g → g < w.heap.size := fun q hq g hg => h.lt g (h.fl q hq g hg)
  have hne : ∀ q ∈ t.L, q.1 ≠ a := fun q hq e => hn (e ▸ List.mem_map.2 ⟨q, hq, rfl⟩)
  have hka := keyed.key (keyOf_mk ha)
  refine ⟨⟨fun b hb => ?_, h.top.keep (hk p (h.lt p h.fp) np), .inl h.fp, ⟨D.put (keyL a) (.lit (.int .i64 d.b)), ?_, fun b hb => ?_, fun b hb => ?_⟩, .inl h.fm, fun q hq => ?_, fun q hq g hg => ?_, fun q hq r hr hqr g hg => ?_, fun q hq => ?_, own_keep h.own fun g hg => hk g (h.lt g (h.fv g hg)) (nv g hg), fun g hg => .inl (h.fv g hg), srt_ins h.srt, h.hiN⟩,
    hg.os.trans hB.os, hg.tape.trans hB.tape, hg.output.trans hB.output, by omega, fun k h1 h2 => hk k h1 h2⟩
  · rcases hb with hb | hb
    · have := h.lt b hb; omega
    · exact hb.2
  · show w'.ownsMap _ _ _ mb (ins a x t.L).length _
    rw [ins_len_new hn]
    exact hm
  · by_cases e : b = a
    · subst e
      rw [atKey_put_same hDm hka, if_pos (keys_ins.2 (.inl rfl)), setF_same]
    · rw [atKey_put_other (fun e2 => e (keyL_inj hb ha e2)), hD.at_ b hb, setF_other e]
      by_cases e2 : b ∈ t.L.map (·.1)
      · rw [if_pos e2, if_pos (keys_ins.2 (.inr e2))]
      · rw [if_neg e2, if_neg (fun e3 => (keys_ins.1 e3).elim e e2)]
  · by_cases e : b = a
    · subst e
      rw [has_put_same hDm hka]
      exact (decide_eq_true (keys_ins.2 (.inl rfl))).symm
    · rw [has_put_other (fun e2 => e (keyL_inj hb ha e2)), hD.has_ b hb, decide_eq_decide]
      exact ⟨fun e2 => keys_ins.2 (.inr e2), fun e3 => (keys_ins.1 e3).elim (fun e4 => absurd e4 e) id⟩
  · rcases mem_ins hq with rfl | hq
    · show LoopAt w' p a x (setF f a d a)
      rw [setF_same]; exact hl.keep hk2
    · rw [setF_other (hne q hq)]
      exact (h.loops q hq).keep fun g hg => hk g (hlt q hq g hg) (nl q hq g hg)
  · rcases mem_ins hq with rfl | hq
    · have hg : d.has g := by rw [setF_same] at hg; exact hg
      exact .inr ⟨hd g hg, by have := hl.lt g hg; omega⟩
    · rw [setF_other (hne q hq)] at hg
      exact .inl (h.fl q hq g hg)
  · rcases mem_ins hq with rfl | hq
    · rcases mem_ins hr with rfl | hr
      · exact absurd rfl hqr
      · rw [setF_same] at hg
        rw [setF_other (hne r hr)]
        exact fun e => by have := hlt r hr g e; have := hd g hg; omega
    · rw [setF_other (hne q hq)] at hg
      rcases mem_ins hr with rfl | hr
      · rw [setF_same]
        exact fun e => by have := hlt q hq g hg; have := hd g e; omega
      · rw [setF_other (hne r hr)]
        exact h.apart q hq r hr hqr g hg
  · rcases mem_ins hq with rfl | hq
    · rw [setF_same]
      exact fun e => by have := hd d.m (.inr (.inl rfl)); omega
    · rw [setF_other (hne q hq)]; exact h.offm q hq
set_option maxRecDepth 100000 in
set_option maxHeartbeats 1000000 in
theorem code_start (w : World) (h : ProfAt w p t F mb v f) {a : Plc} (ha : okP a) (hn : a ∉ t.L.map (·.1)) (hl : t.L.length ≤ 1000000) :
    Calls Tryd.prog 45 #[.pointer (some ⟨p, 0, none⟩), plcV a] w fun e w' => ∃ d, e = .returned (.pointer (some ⟨d.b, 0, none⟩)) ∧ ProfAt w' p { t with L := ins a sp0 t.L } (Nw F w w') mb v (setF f a d) ∧ Chg (fun b => b = mb) w w' := by
  obtain ⟨d, hd⟩ : ∃ d : Ld, d = ⟨w.heap.size + 1 + 1 + 1, w.heap.size + 1 + 1, w.heap.size + 1 + 1 + 1 + 1, w.heap.size, w.heap.size + 1⟩ := ⟨_, rfl⟩
  obtain ⟨W, hW⟩ : ∃ W, W = ((((w.alloc (.cells #[.pointer (some ⟨p, 0, none⟩)] 26)).alloc (.cells #[.int .i64 a.1, .int .i64 a.2] 43)).alloc (.map #[] 0)).alloc (.cells #[.int .i64 0, .int .i64 0, .int .i64 0, .int .i64 0, .map (some (w.heap.size + 1 + 1)),
    .func (.func 59) #[] #[.pointer (some ⟨w.heap.size + 1 + 1 + 1 + 1, 0, none⟩), .pointer (some ⟨w.heap.size, 0, none⟩), .pointer (some ⟨w.heap.size + 1, 0, none⟩)]] 93)).alloc (.cells #[.pointer (some ⟨w.heap.size + 1 + 1 + 1, 0, none⟩)] 84) := ⟨_, rfl⟩
  have hB : Below w.heap.size w W := by
    rw [hW]
    exact (((((Below.refl _ w).alloc (Nat.le_refl _) _).alloc (by simp) _).alloc (by simp; omega) _).alloc (by simp; omega) _).alloc (by simp; omega) _
  have x1 : Bk W w.heap.size #[.pointer (some ⟨p, 0, none⟩)] 26 := by
    rw [hW]; exact ((((Bk.new w _ _).alloc _).alloc _).alloc _).alloc _
  have x2 : Bk W (w.heap.size + 1) #[.int .i64 a.1, .int .i64 a.2] 43 := by
    rw [hW]
    have := Bk.new (w.alloc (.cells #[.pointer (some ⟨p, 0, none⟩)] 26)) #[.int .i64 a.1, .int .i64 a.2] 43
    rw [World.size_alloc] at this
    exact ((this.alloc _).alloc _).alloc _
  have hl : LoopAt W p a sp0 d := by
    rw [hd]
    refine ⟨?_, ⟨.map [], ?_, fun i _ => by simp [DataW.atKey, sp0]⟩, ?_, x1, x2⟩
    · rw [hW]
      refine Bk.alloc ?_ _
      have := Bk.new (((w.alloc (.cells #[.pointer (some ⟨p, 0, none⟩)] 26)).alloc (.cells #[.int .i64 a.1, .int .i64 a.2] 43)).alloc (.map #[] 0)) (rowL sp0 ⟨w.heap.size + 1 + 1 + 1, w.heap.size + 1 + 1, w.heap.size + 1 + 1 + 1 + 1, w.heap.size, w.heap.size + 1⟩) 93
      rw [World.size_alloc, World.size_alloc, World.size_alloc] at this
      exact this
    · rw [hW]
      have := World.ownsMap_made (H := Unit) ((w.alloc (.cells #[.pointer (some ⟨p, 0, none⟩)] 26)).alloc (.cells #[.int .i64 a.1, .int .i64 a.2] 43)) Tryd.prog 3 (plainElem Tryd.prog 3)
      rw [World.size_alloc, World.size_alloc] at this
      exact (this.alloc _).alloc _
    · rw [hW]
      have := Bk.new ((((w.alloc (.cells #[.pointer (some ⟨p, 0, none⟩)] 26)).alloc (.cells #[.int .i64 a.1, .int .i64 a.2] 43)).alloc (.map #[] 0)).alloc (.cells (rowL sp0 ⟨w.heap.size + 1 + 1 + 1, w.heap.size + 1 + 1, w.heap.size + 1 + 1 + 1 + 1, w.heap.size, w.heap.size + 1⟩) 93)) #[.pointer (some ⟨w.heap.size + 1 + 1 + 1, 0, none⟩)] 84
      rw [World.size_alloc, World.size_alloc, World.size_alloc, World.size_alloc] at this
      exact this
  obtain ⟨D, hm0, hD⟩ := h.map
  obtain ⟨w6, hrun, hm6, hg6⟩ := (map_keep hm0 (show W.drew.heap[mb]? = w.heap[mb]? from hB.block mb (h.lt mb h.fm))).update keyed Tryd.underlying65 (by unfold maxLen; omega) (keyOf_mk ha) (show ptrElem (.pointer (some ⟨d.b, 0, none⟩)) = some (.lit (.int .i64 d.b), []) from rfl)
  have HR := Lib.hid (h.more ha hn hB hl (fun g hg => by rw [hd] at hg; rcases hg with e | e | e | e | e <;> (simp only at e; omega)) hm0.isMap hD hm6 ⟨hg6.os, hg6.tape, hg6.output, hg6.size, hg6.block⟩)
  have hmm := @run_makeMap Tryd.prog
  have pl := h.top.lt
  have qT : ∀ (w : World) (r : Option Nat), (binOp .eql 65 (.map r) (.map none)).run Tryd.prog w = .ok (.bool r.isNone) w := fun w r => run_eql_map_nil w _ _ _ r Tryd.underlying65
  have c4 := h.top.cell 4 (.map (some mb)) rfl
  have C4 := Lib.hid ((h.top.below hB pl).cell 4 (.map (some mb)) rfl)
  have X1 := Lib.hid (x1.cell 0 _ rfl)
  have X2 := Lib.hid (x2.cell 0 (.int .i64 a.1) rfl)
  have X3 := Lib.hid (x2.cell 1 (.int .i64 a.2) rfl)
  have X4 := Lib.hid (hl.b0.cell 0 _ rfl)
  rw [hd] at X4
  have Y4 := Lib.hid ((World.cell?_of_block (a := ⟨d.x0, 0, none⟩) (hg6.block d.x0 hl.b0.lt (fun e => by injection e with e; have := h.lt mb h.fm; rw [hd] at e; simp only at e; omega))).trans (hl.b0.cell 0 _ rfl))
  rw [hd] at Y4
  rw [hd] at hrun
  have HRUN := Lib.hid hrun
  have HW := Lib.hid hW
  have HD := Lib.hid hd
  obtain ⟨x, y⟩ := a
  clear h x1 x2 hl hm0 hD hm6 hg6 hB hn hrun hW hd
  unfold plcV at *
  simp only at HRUN X2 X3 HW X4
  go_enter Tryd.func45, Tryd.ntmps45
  go_wp2_with fail
  rw [← HW.out]
  have hrun := HRUN.out
  have c4 := C4.out
  have x1 := X1.out
  have x2 := X2.out
  have x3 := X3.out
  have x4 := X4.out
  have y4 := Y4.out
  clear C4 X1 X2 X3 X4 Y4 HRUN HW
  go_region
  go_wp2_with fail
  go_ret
  exact ⟨d, by rw [HD.out]; rfl, HR.out⟩
end
end Go.Proofs.YtjoffbgfokedlaaDoor.Pf
