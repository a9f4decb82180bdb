/-
  The landed profile: a place is set back.
-/
import Derived.Test.YtjoffbgfokedlaaDoorSe
namespace Go.Proofs.YtjoffbgfokedlaaDoor.Pf
open Go Go.RowKit Go.Maps

theorem ins_ins (a : Plc) (x y : Spot) : ∀ l : List (Plc × Spot), ins a y (ins a x l) = ins a y l
  | [] => by simp [ins]
  | p :: l => by
    by_cases h : p.1 = a
    · rw [show ins a x (p :: l) = (a, x) :: l by conv => lhs; unfold ins
                                                 rw [if_pos h]]
      unfold ins
      rw [if_pos rfl, if_pos h]
    · by_cases h2 : ltP p.1 a
      · have e : ∀ z l', ins a z (p :: l') = p :: ins a z l' := fun z l' => by
          conv => lhs; unfold ins
          rw [if_neg h, if_pos h2]
        rw [e, e, e, ins_ins a x y l]
      · have e : ∀ z, ins a z (p :: l) = (a, z) :: p :: l := fun z => by
          conv => lhs; unfold ins
          rw [if_neg h, if_neg h2]
        rw [e, e]
        unfold ins
        rw [if_pos rfl]
section
variable {p : Nat} {t : Pst} {F : Nat → Prop} {mb : Nat} {v : Value} {f : Plc → Ld}
/-- A place set back: one failure more, and a new map of exits. -/
theorem ProfAt.back (w : World) (h : ProfAt w p t F mb v f) {a : Plc} {x : Spot} (hx : lk a t.L = some x) (k : Int) {W : World} (hW : W = ((w.setCell ⟨(f a).b, 3, none⟩ (.int .i64 k)).setCell ⟨(f a).b, 4, none⟩ (.map (some w.heap.size))).alloc (.map #[] 0)) :
    ProfAt W p { t with L := ins a { x with fails := k, ex := fun _ => 0, en := 0 } t.L } (Nw F w W) mb v (setF f a { f a with m := w.heap.size }) ∧ Chg F w W := by
  have LA := h.loops _ (lk_mem hx)
  obtain ⟨V, hV⟩ : ∃ V, (w.setCell ⟨(f a).b, 3, none⟩ (.int .i64 k)).setCell ⟨(f a).b, 4, none⟩ (.map (some w.heap.size)) = V := ⟨_, rfl⟩
  have vz : V.heap.size = w.heap.size := by rw [← hV]; simp [World.setCell]
  have far : ∀ b, b ≠ (f a).b → V.heap[b]? = w.heap[b]? := fun b hb => by
    rw [← hV, far_set _ _ 4 _ b hb, far_set _ _ 3 _ b hb]
  have vb : Bk V (f a).b (rowL { x with fails := k, ex := fun _ => 0, en := 0 } { f a with m := w.heap.size }) 93 := by
    rw [← hV]; exact (LA.blk.set 3 (.int .i64 k)).set 4 (.map (some w.heap.size))
  rw [hV] at hW
  have wz : W.heap.size = w.heap.size + 1 := by rw [hW, World.size_alloc, vz]
  have keep : ∀ b, b < w.heap.size → W.heap[b]? = V.heap[b]? := fun b hb => by rw [hW]; exact Below.heap_alloc _ _ _ (by omega)
  have hne : ∀ {b c T}, Bk w b c T → T ≠ 93 → Bk W b c T := fun {b c T} hb hT => hb.keep ((keep b hb.lt).trans (far b (bk_ne hb LA.blk hT)))
  have lt := LA.lt
  refine ⟨h.turn (w' := W) hx (d' := { f a with m := w.heap.size }) ⟨vb.keep (keep _ LA.blk.lt), ⟨.map [], ?_, fun i _ => by simp [DataW.atKey]⟩, hne LA.b0 (by decide), hne LA.b1 (by decide), hne LA.b2 (by decide)⟩ rfl (fun g hg => ?_) (fun b hb hn => (keep b hb).trans (far b fun e => hn (.inl e))) (by omega), ?_⟩
  · have := World.ownsMap_made (H := Unit) V Tryd.prog 3 (plainElem Tryd.prog 3)
    rw [vz] at this
    rw [hW]; exact this
  · rcases hg with e | e | e | e | e
    · exact .inl (.inl e)
    · exact .inr (by simp only at e; omega)
    · exact .inl (.inr (.inr (.inl e)))
    · exact .inl (.inr (.inr (.inr (.inl e))))
    · exact .inl (.inr (.inr (.inr (.inr e))))
  · refine ⟨by rw [hW, ← hV]; rfl, by rw [hW, ← hV]; rfl, by rw [hW, ← hV]; rfl, by omega, fun b hb hF => (keep b hb).trans (far b fun e => hF (e ▸ h.fl _ (lk_mem hx) _ (.inl rfl)))⟩
set_option maxRecDepth 100000 in
set_option maxHeartbeats 4000000 in
theorem code_setBack (w : World) (h : ProfAt w p t F mb v f) {a : Plc} {x : Spot} {n : Nat} (hx : lk a t.L = some x) (ho : x.Ok n) (tr : Int) (why : ByteArray) (hw : why.size ≤ 1000) (hD : t.D.length ≤ 1000000) :
    Calls Tryd.prog 48 #[.pointer (some ⟨(f a).b, 0, none⟩), .int .i64 tr, .string why] w fun e w' =>
      ∃ v' f' F', e = .returned (.tuple #[]) ∧ ProfAt w' p (t.turn a (setB x x.count tr why.data.toList)).2 F' mb v' f' ∧ Chg F w w' ∧ Sub F F' w ∧ (f' a).b = (f a).b := by
  have LA := h.loops _ (lk_mem hx)
  have z3 := LA.blk.cell 3 (.int .i64 x.fails) rfl
  have y3 := LA.blk.frozen 3
  have z4 := LA.blk.cell 4 (.map (some (f a).m)) rfl
  have y4 := LA.blk.frozen 4
  have z5 := LA.blk.cell 5 (.func (.func 59) #[] #[.pointer (some ⟨(f a).x0, 0, none⟩), .pointer (some ⟨(f a).x1, 0, none⟩), .pointer (some ⟨(f a).x2, 0, none⟩)]) rfl
  have bl := LA.blk.lt
  have f0 := ho.f0
  have f1 := ho.f1
  have hmm := @run_makeMap Tryd.prog
  simp only at z3 y3 z4 y4 z5 bl
  obtain ⟨W, hW⟩ : ∃ W, W = ((w.setCell ⟨(f a).b, 3, none⟩ (.int .i64 (x.fails + 1))).setCell ⟨(f a).b, 4, none⟩ (.map (some w.heap.size))).alloc (.map #[] 0) := ⟨_, rfl⟩
  obtain ⟨HP, HC⟩ := h.back w hx (x.fails + 1) hW
  have DE := Lib.hid (fun tr' why' => code_decide W HP (a := a) (x := { x with fails := x.fails + 1, ex := fun _ => 0, en := 0 }) (by rw [lk_ins, if_pos rfl]) tr' why' hD)
  rw [setF_same] at DE
  have FIN := Lib.hid (show ∀ (tr' : Int) (why' : ByteArray) (w' : World) (v' : Value) (F' : Nat → Prop), ProfAt w' p { t with L := ins a { x with fails := x.fails + 1, ex := fun _ => 0, en := 0, tier := tr' } (ins a { x with fails := x.fails + 1, ex := fun _ => 0, en := 0 } t.L), D := t.D ++ [⟨a, tr', why'.data.toList⟩] } F' mb v' (setF f a { f a with m := w.heap.size }) →
      Chg (Nw F w W) W w' → Sub (Nw F w W) F' W → setB x x.count tr why.data.toList = ({ x with tier := tr', fails := x.fails + 1, ex := fun _ => 0, en := 0 }, some (tr', why'.data.toList)) →
      ∃ v' f' F', ProfAt w' p (t.turn a (setB x x.count tr why.data.toList)).2 F' mb v' f' ∧ Chg F w w' ∧ Sub F F' w ∧ (f' a).b = (f a).b from fun tr' why' w' v' F' h1 h2 h3 he => by
    refine ⟨v', setF f a { f a with m := w.heap.size }, F', ?_, HC.trans h2 (fun b hb => hb.imp id And.left), fun b hb => ?_, by rw [setF_same]⟩
    · rw [he]
      rw [ins_ins] at h1
      exact h1
    · rcases h3 b hb with h | h
      · exact h.imp id And.left
      · exact .inr (Nat.le_trans HC.size h))
  have HW := Lib.hid hW
  clear h LA hW HP HC
  by_cases h3 : x.fails + 1 = 3
  · have EQ := Lib.hid (show setB x x.count tr why.data.toList = ({ x with tier := -1, fails := x.fails + 1, ex := fun _ => 0, en := 0 }, some (-1, (why ++ ⟨#[44, 32, 103, 105, 118, 101, 110, 32, 117, 112]⟩).data.toList)) from by
      unfold setB
      rw [if_pos h3]
      refine Prod.ext rfl ?_
      show some (-1, why.data.toList ++ tGiven) = _
      congr 2)
    obtain ⟨xt, xc, xk, xf, xe, xn⟩ := x
    simp only at z3 f0 f1 h3 HW DE FIN EQ
    obtain rfl : xf = 2 := by omega
    rw [show (2 : Int) + 1 = 3 from rfl] at HW
    clear hx ho h3
    go_enter Tryd.func48, Tryd.ntmps48
    go_wp2_with fail
    rw [← HW.out]
    refine (DE.out _ _).mono ?_
    rintro e w' ⟨v', F', rfl, h1, h2, h3⟩
    have G := Lib.hid (FIN.out _ _ w' v' F' h1 h2 h3 EQ.out)
    clear h1 h2 h3
    go_wp2_with fail
    go_end0
    obtain ⟨v2, f2, F2, g⟩ := G.out
    exact ⟨v2, f2, F2, rfl, g⟩
  · have EQ := Lib.hid (show setB x x.count tr why.data.toList = ({ x with tier := tr, fails := x.fails + 1, ex := fun _ => 0, en := 0 }, some (tr, why.data.toList)) from by
      unfold setB
      rw [if_neg h3])
    have hb : ((x.fails + 1) == 3) = false := by simpa using h3
    clear hx ho h3
    go_enter Tryd.func48, Tryd.ntmps48
    go_wp2_with fail
    rw [← HW.out]
    refine (DE.out _ _).mono ?_
    rintro e w' ⟨v', F', rfl, h1, h2, h3⟩
    have G := Lib.hid (FIN.out _ _ w' v' F' h1 h2 h3 EQ.out)
    clear h1 h2 h3
    go_wp2_with fail
    go_end0
    obtain ⟨v2, f2, F2, g⟩ := G.out
    exact ⟨v2, f2, F2, rfl, g⟩
end
end Go.Proofs.YtjoffbgfokedlaaDoor.Pf
