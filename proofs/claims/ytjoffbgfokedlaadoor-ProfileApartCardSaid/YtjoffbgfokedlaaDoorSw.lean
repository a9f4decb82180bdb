/-
  The landed profile: what Left and Failed need of a loop.
-/
import Derived.Test.YtjoffbgfokedlaaDoorSu
namespace Go.Proofs.YtjoffbgfokedlaaDoor.Pf
open Go Go.RowKit Go.Maps

theorem setB_count (x : Spot) (k m tr : Int) (l : List UInt8) : setB x k tr l = ({ (setB x m tr l).1 with count := k }, (setB x m tr l).2) := by
  unfold setB
  split <;> rfl
theorem setB_ex (x : Spot) (ex : Int → Int) (en : Nat) (k tr : Int) (l : List UInt8) : setB { x with ex := ex, en := en } k tr l = setB x k tr l := by
  unfold setB
  rfl
theorem setB_row (x : Spot) (tr : Int) (l : List UInt8) : (setB x x.count tr l).1.count = x.count := by
  unfold setB
  split <;> rfl
section
variable {w W W' : World} {p : Nat} {F F2 F' : Nat → Prop} {t t2 : Pst} {a : Plc} {x : Spot} {mb : Nat} {v v' : Value} {f f' : Plc → Ld}
/-- Behind setBack the count turns. -/
theorem Rdy.counted (h : Rdy w p F t a x W t2 F2 mb v f) {tr : Int} {l : List UInt8} (h1 : ProfAt W' p (t2.turn a (setB x x.count tr l)).2 F' mb v' f') (h2 : Chg F2 W W') (h3 : Sub F2 F' W) (k : Int) :
    (W'.cell? ⟨(f' a).b, 2, none⟩ = some (.int .i64 x.count) ∧ W'.frozen? ⟨(f' a).b, 2, none⟩ = false ∧ W'.cell? ⟨p, 1, none⟩ = some (.int .i64 t.w)) ∧
      ProfTo w p F (t.turn a (setB x k tr l)).2 (W'.setCell ⟨(f' a).b, 2, none⟩ (.int .i64 k)) := by
  have hx : lk a (t2.turn a (setB x x.count tr l)).2.L = some (setB x x.count tr l).1 := by unfold Pst.turn; simp only [lk_ins, if_true]
  have LA := h1.loops _ (lk_mem hx)
  have z2 := LA.blk.cell 2 (.int .i64 (setB x x.count tr l).1.count) rfl
  rw [setB_row] at z2
  refine ⟨⟨z2, LA.blk.frozen 2, ?_⟩, ?_⟩
  · have := h1.top.cell 1 (.int .i64 t2.w) rfl
    rw [h.lim.2.1] at this
    exact this
  · have hp := h1.poke (w' := W'.setCell ⟨(f' a).b, 2, none⟩ (.int .i64 k)) (x' := { (setB x x.count tr l).1 with count := k }) hx (LA.blk.set 2 (.int .i64 k)) ⟨rfl, rfl⟩ (far_set W' _ 2 _) (by simp [World.setCell])
    have e : ({ (t2.turn a (setB x x.count tr l)).2 with L := ins a { (setB x x.count tr l).1 with count := k } (t2.turn a (setB x x.count tr l)).2.L } : Pst) = (t.turn a (setB x k tr l)).2 := by
      rw [← h.turn (setB x k tr l), setB_count x k x.count]
      unfold Pst.turn
      simp only [ins_ins]
    rw [e] at hp
    have c := (h.chg.trans h2 h.sub).trans (Chg.set (F := F') W' ⟨(f' a).b, 2, none⟩ (.int .i64 k) (h1.fl _ (lk_mem hx) _ (.inl rfl))) (fun b hb => by
      rcases h3 b hb with h' | h'
      · exact h.sub b h'
      · exact .inr (Nat.le_trans h.chg.size h'))
    refine ⟨F', mb, v', f', hp, c, fun b hb => ?_⟩
    rcases h3 b hb with h' | h'
    · exact h.sub b h'
    · exact .inr (Nat.le_trans h.chg.size h')
set_option maxRecDepth 100000 in
/-- How often an exit was left. -/
theorem Rdy.times (h : Rdy w p F t a x W t2 F2 mb v f) {d : Ld} (hd : f a = d) {e : Int} (he : I64 e) : (Instr.lookup 59 (.map (some d.m)) (.int .i64 e) false).run Tryd.prog W = .ok (.int .i64 (x.ex e)) W := by
  subst hd
  obtain ⟨D, hm, hD⟩ := (h.at_.loops _ (lk_mem h.lk_)).map
  obtain ⟨c, hrun, hat, _⟩ := hm.lookup_int intLaw Tryd.underlying59 Tryd.underlying3 (zeroInt W) (key_int he)
  rw [hD e he] at hat
  injection hat with hat
  injection hat with _ hat
  rw [hrun, hat]
/-- An exit is left once more. -/
theorem Rdy.exit (h : Rdy w p F t a x W t2 F2 mb v f) {d : Ld} (hd : f a = d) {e k : Int} (he : I64 e) (hk : I64 k) (hn : x.en ≤ 1000000000) :
    ∃ W', (Instr.mapUpdate 59 (.map (some d.m)) (.int .i64 e) (.int .i64 k)).run Tryd.prog W = .ok () W' ∧
      Rdy w p F t a { x with ex := fun i => if i = e then k else x.ex i, en := x.en + 1 } W' { t2 with L := ins a { x with ex := fun i => if i = e then k else x.ex i, en := x.en + 1 } t2.L } (Nw F2 W W') mb v f := by
  subst hd
  have LA := h.at_.loops _ (lk_mem h.lk_)
  obtain ⟨D, hm, hD⟩ := LA.map
  simp only at hm hD
  obtain ⟨W', hrun, hm', hg⟩ := hm.update intLaw Tryd.underlying59 (by unfold maxLen; omega) (key_int he) (plainElem_int Tryd.underlying3 (wf_int hk))
  refine ⟨W', hrun, ?_⟩
  have hne : ∀ {b c T}, Bk W b c T → Bk W' b c T := fun {b c T} hb => hb.keep (hg.block b hb.lt fun e => by injection e with e; exact map_ne hb hm e)
  have r := h.at_.turn (w' := W') (x' := { x with ex := fun i => if i = e then k else x.ex i, en := x.en + 1 }) h.lk_ (d' := f a)
    ⟨hne LA.blk, ⟨_, hm', fun i hi => ?_⟩, hne LA.b0, hne LA.b1, hne LA.b2⟩ rfl (fun g hg => .inl hg) (fun b hb hn => hg.block b hb fun e => hn (.inr (.inl (Option.some.inj e)))) hg.size
  · rw [setF_self] at r
    refine ⟨r, by rw [lk_ins, if_pos rfl], h.chg.trans (G := F2) ⟨hg.os, hg.tape, hg.output, hg.size, fun b hb hn => hg.block b hb fun e => ?_⟩ h.sub, fun b hb => ?_, h.lim, h.dec, fun y => by rw [ins_ins]; exact h.ins_ y⟩
    · exact hn (h.at_.fl _ (lk_mem h.lk_) _ (.inr (.inl (Option.some.inj e))))
    · rcases hb with hb | hb
      · exact h.sub b hb
      · exact .inr (Nat.le_trans h.chg.size hb.1)
  · show (D.put (.int .i64 e) (.lit (.int .i64 k))).atKey (.int .i64 i) _ = .lit (.int .i64 (if i = e then k else x.ex i))
    by_cases h1 : i = e
    · subst h1
      rw [atKey_put_same hm.isMap (by trivial), if_pos rfl]
    · rw [atKey_put_other (fun h => h1 (Lit.int.inj h).2), hD i hi, if_neg h1]
/-- Nothing turned. -/
theorem Rdy.same {w W : World} {p : Nat} {F : Nat → Prop} {t : Pst} {mb : Nat} {v : Value} {f : Plc → Ld} (h : ProfAt w p t F mb v f) (hb : Below w.heap.size w W) : ProfTo w p F t W := ⟨F, mb, v, f, h.below hb, Chg.of_below hb, Sub.refl _ _⟩
/-- The loop's own setBack. -/
theorem code_setBack_at (h : Rdy w p F t a x W t2 F2 mb v f) {d : Ld} (hd : f a = d) {n : Nat} (ho : x.Ok n) (tr : Int) (why : ByteArray) {l : List UInt8} (hl : why.data.toList = l) (hw : why.size ≤ 1000) (hD : t.D.length ≤ 1000000) (k : Int) :
    Calls Tryd.prog 48 #[.pointer (some ⟨d.b, 0, none⟩), .int .i64 tr, .string why] W fun e w' => e = .returned (.tuple #[]) ∧
      (w'.cell? ⟨d.b, 2, none⟩ = some (.int .i64 x.count) ∧ w'.frozen? ⟨d.b, 2, none⟩ = false ∧ w'.cell? ⟨p, 1, none⟩ = some (.int .i64 t.w)) ∧
      ProfTo w p F (t.turn a (setB x k tr l)).2 (w'.setCell ⟨d.b, 2, none⟩ (.int .i64 k)) := by
  subst hd hl
  refine (code_setBack W h.at_ h.lk_ ho tr why hw (by rw [h.dec]; exact hD)).mono ?_
  rintro e w' ⟨v', f', F', rfl, h1, h2, h3, h4⟩
  have := h.counted h1 h2 h3 k
  rw [h4] at this
  exact ⟨rfl, this⟩
end
end Go.Proofs.YtjoffbgfokedlaaDoor.Pf
