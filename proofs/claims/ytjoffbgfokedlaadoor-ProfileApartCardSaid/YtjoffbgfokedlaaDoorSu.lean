/-
  The landed profile: what Back needs of a loop.
-/
import Derived.Test.YtjoffbgfokedlaaDoorSx
import Derived.Test.YtjoffbgfokedlaaDoorSc
import Derived.Deep.RegionHeld3
namespace Go.Proofs.YtjoffbgfokedlaaDoor.Pf
open Go Go.RowKit Go.Maps

theorem ins_self {a : Plc} {x : Spot} : ∀ {l : List (Plc × Spot)}, Srt l → lk a l = some x → ins a x l = l
  | [], _, h => by cases h
  | p :: l, hs, h => by
    obtain ⟨h1, h2⟩ := List.pairwise_cons.1 hs
    unfold lk at h
    unfold ins
    by_cases e : p.1 = a
    · rw [if_pos e] at h ⊢
      injection h with h
      rw [← e, ← h]
    · rw [if_neg e] at h ⊢
      have hm := lk_mem h
      rw [if_pos (h1 _ hm), ins_self h2 h]
/-- How a call ends that turns the profile, what it is like in memory told. -/
def ProfTo (w : World) (p : Nat) (F : Nat → Prop) (t' : Pst) (w' : World) : Prop := ∃ F' mb v f, ProfAt w' p t' F' mb v f ∧ Chg F w w' ∧ Sub F F' w
theorem ProfTo.to {w w' : World} {p : Nat} {F : Nat → Prop} {t' : Pst} (u : Value) (h : ProfTo w p F t' w') : To ProfH w p F t' u (.returned u) w' := by
  obtain ⟨F', mb, v, f, h1, h2, h3⟩ := h
  exact ⟨F', rfl, ⟨mb, v, f, h1⟩, h2, h3⟩
/-- The loop of a place is there: the profile as it then is. -/
structure Rdy (w : World) (p : Nat) (F : Nat → Prop) (t : Pst) (a : Plc) (x : Spot) (W : World) (t2 : Pst) (F2 : Nat → Prop) (mb : Nat) (v : Value) (f : Plc → Ld) : Prop where
  at_ : ProfAt W p t2 F2 mb v f
  lk_ : lk a t2.L = some x
  chg : Chg F w W
  sub : Sub F F2 w
  lim : t2.s = t.s ∧ t2.w = t.w ∧ t2.h = t.h ∧ t2.c = t.c
  dec : t2.D = t.D
  ins_ : ∀ y, ins a y t2.L = ins a y t.L
theorem Rdy.turn {w W : World} {p : Nat} {F F2 : Nat → Prop} {t t2 : Pst} {a : Plc} {x : Spot} {mb : Nat} {v : Value} {f : Plc → Ld} (h : Rdy w p F t a x W t2 F2 mb v f) (r : Spot × Option (Int × List UInt8)) : (t2.turn a r).2 = (t.turn a r).2 := by
  obtain ⟨s, m, l, c, L, D⟩ := t
  obtain ⟨s2, m2, l2, c2, L2, D2⟩ := t2
  obtain ⟨h1, h2, h3, h4⟩ := h.lim
  have h5 := h.dec
  have h6 := h.ins_
  simp only at h1 h2 h3 h4 h5 h6
  subst h1 h2 h3 h4 h5
  unfold Pst.turn
  simp only [h6]
theorem Rdy.low {w W W' : World} {p : Nat} {F F2 : Nat → Prop} {t t2 : Pst} {a : Plc} {x : Spot} {mb : Nat} {v : Value} {f : Plc → Ld} (h : Rdy w p F t a x W t2 F2 mb v f) (hb : Below W.heap.size W W') : Rdy w p F t a x W' t2 F2 mb v f :=
  ⟨h.at_.below hb, h.lk_, h.chg.trans (Chg.of_below hb) (fun _ hx => .inl hx), h.sub, h.lim, h.dec, h.ins_⟩
theorem Rdy.drewN {w W : World} {p : Nat} {F F2 : Nat → Prop} {t t2 : Pst} {a : Plc} {x : Spot} {mb : Nat} {v : Value} {f : Plc → Ld} (h : Rdy w p F t a x W t2 F2 mb v f) (n : Nat) : Rdy w p F t a x (W.drewN n) t2 F2 mb v f :=
  h.low ⟨rfl, rfl, rfl, Nat.le_refl _, fun _ _ => rfl⟩
/-- Its cells turned in place. -/
theorem Rdy.poke {w W W' : World} {p : Nat} {F F2 : Nat → Prop} {t t2 : Pst} {a : Plc} {x x' : Spot} {mb : Nat} {v : Value} {f : Plc → Ld} (h : Rdy w p F t a x W t2 F2 mb v f) (hb : Bk W' (f a).b (rowL x' (f a)) 93) (he : x'.ex = x.ex ∧ x'.en = x.en) (hc : Chg (fun b => b = (f a).b) W W') (hz : W'.heap.size = W.heap.size) :
    Rdy w p F t a x' W' { t2 with L := ins a x' t2.L } F2 mb v f := by
  have fb := h.at_.fl _ (lk_mem h.lk_) _ (.inl rfl)
  refine ⟨h.at_.poke h.lk_ hb he (fun k hk => ?_) hz, by rw [lk_ins, if_pos rfl], h.chg.trans hc (fun b hb => by subst hb; exact h.sub _ fb), h.sub, h.lim, h.dec, fun y => by rw [ins_ins]; exact h.ins_ y⟩
  by_cases hl : k < W.heap.size
  · exact hc.block k hl hk
  · rw [Array.getElem?_eq_none (by omega), Array.getElem?_eq_none (by omega)]
/-- Nothing was decided. -/
theorem Rdy.done {w W : World} {p : Nat} {F F2 : Nat → Prop} {t t2 : Pst} {a : Plc} {x : Spot} {mb : Nat} {v : Value} {f : Plc → Ld} (h : Rdy w p F t a x W t2 F2 mb v f) : ProfTo w p F (t.turn a (x, none)).2 W := by
  refine ⟨F2, mb, v, f, ?_, h.chg, h.sub⟩
  rw [← h.turn]
  have e : (t2.turn a (x, none)).2 = t2 := by
    unfold Pst.turn
    simp only [ins_self h.at_.srt h.lk_, Option.toList_none, List.map_nil, List.append_nil]
  rw [e]; exact h.at_
/-- A decision was noted. -/
theorem Rdy.noted {w W W' : World} {p : Nat} {F F2 F' : Nat → Prop} {t t2 : Pst} {a : Plc} {x : Spot} {mb : Nat} {v v' : Value} {f : Plc → Ld} (h : Rdy w p F t a x W t2 F2 mb v f) {tr : Int} {why : ByteArray} {l : List UInt8} (hw : why.data.toList = l)
    (h1 : ProfAt W' p { t2 with L := ins a { x with tier := tr } t2.L, D := t2.D ++ [⟨a, tr, why.data.toList⟩] } F' mb v' f) (h2 : Chg F2 W W') (h3 : Sub F2 F' W) : ProfTo w p F (t.turn a ({ x with tier := tr }, some (tr, l))).2 W' := by
  subst hw
  refine ⟨F', mb, v', f, ?_, h.chg.trans h2 h.sub, fun b hb => ?_⟩
  · rw [← h.turn]; exact h1
  · rcases h3 b hb with h' | h'
    · exact h.sub b h'
    · exact .inr (Nat.le_trans h.chg.size h')
theorem Rdy.there {w : World} {p : Nat} {F : Nat → Prop} {t : Pst} {a : Plc} {x : Spot} {mb : Nat} {v : Value} {f : Plc → Ld} (h : ProfAt w p t F mb v f) (hx : lk a t.L = some x) {W : World} (hb : Below w.heap.size w W) : Rdy w p F t a x W t F mb v f :=
  ⟨h.below hb, hx, Chg.of_below hb, Sub.refl _ _, ⟨rfl, rfl, rfl, rfl⟩, rfl, fun _ => rfl⟩
theorem Rdy.made {w V W : World} {p : Nat} {F : Nat → Prop} {t : Pst} {a : Plc} {mb : Nat} {v : Value} {f' : Plc → Ld} (hb : Below w.heap.size w V) (hF : F mb) (h : ProfAt W p { t with L := ins a sp0 t.L } (Nw F V W) mb v f') (hc : Chg (fun b => b = mb) V W) : Rdy w p F t a sp0 W { t with L := ins a sp0 t.L } (Nw F V W) mb v f' :=
  ⟨h, by rw [lk_ins, if_pos rfl], (Chg.of_below hb).trans hc (fun b e => by subst e; exact .inl hF), fun b hb' => hb'.imp id fun h => Nat.le_trans hb.size h.1, ⟨rfl, rfl, rfl, rfl⟩, rfl, fun y => ins_ins _ _ _ _⟩
/-- What the walks read of a loop. -/
theorem Rdy.cells {w W : World} {p : Nat} {F F2 : Nat → Prop} {t t2 : Pst} {a : Plc} {x : Spot} {mb : Nat} {v : Value} {f : Plc → Ld} (h : Rdy w p F t a x W t2 F2 mb v f) {d : Ld} (hd : f a = d) :
    (W.cell? ⟨d.b, 0, none⟩ = some (.int .i64 x.tier) ∧ W.cell? ⟨d.b, 1, none⟩ = some (.int .i64 x.calls) ∧ W.cell? ⟨d.b, 2, none⟩ = some (.int .i64 x.count) ∧ W.cell? ⟨d.b, 4, none⟩ = some (.map (some d.m)) ∧
      W.cell? ⟨d.b, 5, none⟩ = some (.func (.func 59) #[] #[.pointer (some ⟨d.x0, 0, none⟩), .pointer (some ⟨d.x1, 0, none⟩), .pointer (some ⟨d.x2, 0, none⟩)])) ∧
    (W.cell? ⟨p, 0, none⟩ = some (.int .i64 t.s) ∧ W.cell? ⟨p, 1, none⟩ = some (.int .i64 t.w) ∧ W.cell? ⟨p, 2, none⟩ = some (.int .i64 t.h) ∧ W.cell? ⟨p, 3, none⟩ = some (.int .i64 t.c)) ∧
    (∀ i, W.frozen? ⟨d.b, i, none⟩ = false) ∧ d.b ≠ p ∧ p ≠ d.b ∧ d.b < W.heap.size ∧ p < W.heap.size := by
  subst hd
  have LA := h.at_.loops _ (lk_mem h.lk_)
  obtain ⟨e1, e2, e3, e4⟩ := h.lim
  have ne := bk_ne LA.blk h.at_.top (by decide)
  exact ⟨⟨LA.blk.cell 0 _ rfl, LA.blk.cell 1 _ rfl, LA.blk.cell 2 _ rfl, LA.blk.cell 4 _ rfl, LA.blk.cell 5 _ rfl⟩, ⟨e1 ▸ h.at_.top.cell 0 _ rfl, e2 ▸ h.at_.top.cell 1 _ rfl, e3 ▸ h.at_.top.cell 2 _ rfl, e4 ▸ h.at_.top.cell 3 _ rfl⟩, fun i => LA.blk.frozen i, ne, Ne.symm ne, LA.blk.lt, h.at_.top.lt⟩
theorem Rdy.blk {w W : World} {p : Nat} {F F2 : Nat → Prop} {t t2 : Pst} {a : Plc} {x : Spot} {mb : Nat} {v : Value} {f : Plc → Ld} (h : Rdy w p F t a x W t2 F2 mb v f) : Bk W (f a).b (rowL x (f a)) 93 := (h.at_.loops _ (lk_mem h.lk_)).blk
/-- Cell i of the loop turned. -/
theorem Rdy.set {w W : World} {p : Nat} {F F2 : Nat → Prop} {t t2 : Pst} {a : Plc} {x x' : Spot} {mb : Nat} {v : Value} {f : Plc → Ld} (h : Rdy w p F t a x W t2 F2 mb v f) {d : Ld} (hd : f a = d) (i : Nat) (u : Value) (hr : (rowL x d).setIfInBounds i u = rowL x' d) (he : x'.ex = x.ex ∧ x'.en = x.en) :
    Rdy w p F t a x' (W.setCell ⟨d.b, i, none⟩ u) { t2 with L := ins a x' t2.L } F2 mb v f := by
  subst hd
  exact h.poke (hr ▸ h.blk.set i u) he (Chg.set W ⟨(f a).b, i, none⟩ u rfl) (by simp [World.setCell])
/-- The loop's closure is called. -/
theorem code_decide_at {w W : World} {p : Nat} {F F2 : Nat → Prop} {t t2 : Pst} {a : Plc} {x : Spot} {mb : Nat} {v : Value} {f : Plc → Ld} (h : Rdy w p F t a x W t2 F2 mb v f) {d : Ld} (hd : f a = d) (tr : Int) (why : ByteArray) {l : List UInt8} (hw : why.data.toList = l) (hD : t.D.length ≤ 1000000) :
    Calls Tryd.prog 59 #[.int .i64 tr, .string why, .pointer (some ⟨d.x0, 0, none⟩), .pointer (some ⟨d.x1, 0, none⟩), .pointer (some ⟨d.x2, 0, none⟩)] W fun e w' =>
      e = .returned (.tuple #[]) ∧ ProfTo w p F (t.turn a ({ x with tier := tr }, some (tr, l))).2 w' ∧
      w'.cell? ⟨d.b, 5, none⟩ = some (.func (.func 59) #[] #[.pointer (some ⟨d.x0, 0, none⟩), .pointer (some ⟨d.x1, 0, none⟩), .pointer (some ⟨d.x2, 0, none⟩)]) ∧ w'.cell? ⟨d.b, 2, none⟩ = some (.int .i64 x.count) := by
  subst hd
  refine (code_decide W h.at_ h.lk_ tr why (by rw [h.dec]; exact hD)).mono ?_
  rintro e w' ⟨v', F', rfl, h1, h2, h3⟩
  have LA := h1.loops (a, { x with tier := tr }) (lk_mem (by rw [lk_ins, if_pos rfl]))
  exact ⟨rfl, h.noted hw h1 h2 h3, LA.blk.cell 5 _ rfl, LA.blk.cell 2 _ rfl⟩
end Go.Proofs.YtjoffbgfokedlaaDoor.Pf
