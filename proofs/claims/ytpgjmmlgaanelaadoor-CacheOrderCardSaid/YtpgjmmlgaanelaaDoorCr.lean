/-
  The walk of CacheOrder.
-/
import Derived.Test.YtpgjmmlgaanelaaDoorCd
namespace Go.Proofs.YtpgjmmlgaanelaaDoor.Ch
open Go Go.RowKit Go.Maps

theorem SlI.keep {w w' : World} {P Q : Nat → Prop} {A : Option Addr} {ns : List Int} (h : SlI w P A ns) (hk : ∀ b, P b → Q b ∧ w'.heap[b]? = w.heap[b]?) : SlI w' Q A ns := fun j x hx => by
  obtain ⟨g, rfl, hg, hc⟩ := h j x hx
  exact ⟨g, rfl, (hk g hg).1, (World.cell?_of_block (a := ⟨g, j, none⟩) (hk g hg).2 : w'.cell? ⟨g, j, none⟩ = w.cell? ⟨g, j, none⟩).trans hc⟩
theorem two_ready {P : Program} {ops : Array Oper} {Q : Exit → Go.Act → World → Prop} {S : World → Prop} {md : Region.Mode} {fuel : Nat} {listed : Array Bool} {a : Go.Act} {w : World} (i k : Nat) {o o' : Oper} (ho : ops[i]? = some o) (ho' : ops[k]? = some o') (hr : Region.ready md ops listed = [i, k]) (hw : Region.wanted o (yielded ops a.tmps) = true) (hw' : Region.wanted o' (yielded ops a.tmps) = true)
    (h : o.wp P a w (fun a' w' => S w' ∧ wpAnyH P md ops Q S fuel (listed.setIfInBounds i true) a' w') Q) (h' : o'.wp P a w (fun a' w' => S w' ∧ wpAnyH P md ops Q S fuel (listed.setIfInBounds k true) a' w') Q) : wpAnyH P md ops Q S (fuel + 1) listed a w := by
  refine wpAnyH_all hr (by simp) (fun j hj => ?_)
  have hj : j = i ∨ j = k := by simpa using hj
  rcases hj with rfl | rfl
  · unfold wpOp
    simp only [ho, hw, if_true]
    exact .inl h
  · unfold wpOp
    simp only [ho', hw', if_true]
    exact .inl h'
theorem nodup_len {l : List Int} : ∀ {q : List Int}, l.Nodup → (∀ x ∈ l, x ∈ q) → l.length ≤ q.length := by
  induction l with
  | nil => intro q _ _; exact Nat.zero_le _
  | cons x l ih =>
    intro q hn hs
    rw [List.nodup_cons] at hn
    have hx : x ∈ q := hs x (List.mem_cons_self ..)
    have := @ih (q.erase x) hn.2 fun y hy => (List.mem_erase_of_ne (fun e : y = x => hn.1 (e ▸ hy))).2 (hs y (List.mem_cons_of_mem _ hy))
    rw [List.length_erase_of_mem hx] at this
    have hp := List.length_pos_of_mem hx
    rw [List.length_cons]; omega
theorem few {l : List Int} (hn : l.Nodup) (h : ∀ x ∈ l, 0 ≤ x ∧ x < 4) : l.length ≤ 4 :=
  nodup_len (q := [0, 1, 2, 3]) hn fun x hx => by
    have := h x hx
    have h4 : x = 0 ∨ x = 1 ∨ x = 2 ∨ x = 3 := by omega
    rcases h4 with rfl | rfl | rfl | rfl <;> simp
theorem addI_small {D : List Int} (h : ∀ x ∈ D, 0 ≤ x ∧ x < 4) {x : Int} (h0 : 0 ≤ x) (h4 : x < 4) : ∀ y ∈ addI x D, 0 ≤ y ∧ y < 4 := fun y hy => by
  unfold addI at hy
  split at hy
  · exact h y hy
  · rcases List.mem_append.1 hy with hy | hy
    · exact h y hy
    · simp at hy; subst hy; exact ⟨h0, h4⟩
theorem addI_nodup {D : List Int} (h : D.Nodup) (x : Int) : (addI x D).Nodup := by
  unfold addI
  split
  · exact h
  · rename_i hx
    rw [List.nodup_append]
    refine ⟨h, by simp, fun a ha b hb => ?_⟩
    simp at hb
    subst hb
    exact fun e => hx (e ▸ ha)
/-- One call of Learn, with shapes below four alone. -/
theorem order_step {t : Ste} {n : Nat} {D : List Int} (hk : t.Ok n) (hf : t.full = false) (hD : t.l.map (·.1) = D) (hm : ∀ x ∈ D, 0 ≤ x ∧ x < 4) {x v : Int} (h0 : 0 ≤ x) (h4 : x < 4) (hv : 0 ≤ v) :
    ∃ t' b, t.learn x v = (0, t') ∧ t'.full = false ∧ t'.l.map (·.1) = addI x D ∧ lk x t'.l = some b := by
  have hn : D.Nodup := by rw [← hD]; exact hk.nd
  have l4 := few (addI_nodup hn x) (addI_small hm h0 h4)
  rcases full_step (.inl ⟨hf, few hn hm, hD⟩) h0 hv with ⟨_, t', b, e1, e2, e3, e4⟩ | ⟨h5, _⟩
  · rcases e2 with ⟨_, _, e2⟩ | ⟨e2, _⟩
    · exact ⟨t', b, e1, e3, e2, e4⟩
    · rw [e3] at e2; cases e2
  · omega
theorem forget_keys {t : Ste} {D : List Int} (hD : t.l.map (·.1) = D) (x : Int) : (t.forget x).2.l.map (·.1) = D.filter fun y => !decide (y = x) := by
  show (del x t.l).map (·.1) = _
  rw [← hD]
  unfold del
  induction t.l with
  | nil => rfl
  | cons p l ih =>
    by_cases e : p.1 = x
    · rw [List.filter_cons_of_neg (by simp [e]), List.map_cons, List.filter_cons_of_neg (by simp [e])]; exact ih
    · rw [List.filter_cons_of_pos (by simp [e]), List.map_cons, List.map_cons, List.filter_cons_of_pos (by simp [e]), ih]
/-- What the loop keeps: the site, and a row of ints apart from it. -/
structure Lo (K : Kit) (w0 w : World) (p : Nat) (t : Ste) (F : Nat → Prop) (n : Nat) (v : Value) (D : List Int) : Prop where
  a : Tr K w0 w p t F n
  o : OwnI w w0.heap.size v D
  d : ∀ b, v.ownBlock = some b → ¬ F b
section
variable {K : Kit} {w0 w w' : World} {p n n' : Nat} {t t' : Ste} {F F' : Nat → Prop} {v v' : Value} {D D' : List Int}
theorem Lo.low (h : Lo K w0 w p t F n v D) (hb : Below w.heap.size w w') : Lo K w0 w' p t F n v D := ⟨h.a.below hb, h.o.below hb (Nat.le_refl _), h.d⟩
theorem Lo.alloc (h : Lo K w0 w p t F n v D) (o : Obj) : Lo K w0 (w.alloc o) p t F n v D := h.low ((Below.refl _ w).alloc (Nat.le_refl _) o)
theorem Lo.drewN (h : Lo K w0 w p t F n v D) (k : Nat) : Lo K w0 (w.drewN k) p t F n v D := ⟨h.a.drewN k, h.o, h.d⟩
theorem Lo.step (h : Lo K w0 w p t F n v D) (h' : Tr K w0 w' p t' F' n') (c : Chg F w w') (s : Sub F F' w) : Lo K w0 w' p t' F' n' v D :=
  ⟨h', own_keep h.o fun b hb => c.block b (h.o.lt b hb).2 (h.d b hb), fun b hb e => (s b e).elim (h.d b hb) (by have := (h.o.lt b hb).2; omega)⟩
theorem Lo.grow (h : Lo K w0 w p t F n v D) (hg : w.grownBy w' v.ownBlock) (o : OwnI w' w0.heap.size v' D') (hd : ∀ b, v'.ownBlock = some b → v.ownBlock = some b ∨ w.heap.size ≤ b) : Lo K w0 w' p t F n v' D' := by
  have hn : ∀ b, F b → some b ≠ v.ownBlock := fun b hb e => h.d b e.symm hb
  refine ⟨⟨K.keep h.a.h fun b hb => hg.block b (K.lt h.a.h b hb) (hn b hb), h.a.b.trans ⟨hg.os, hg.tape, hg.output, hg.size, fun b hb => hg.block b (Nat.lt_of_lt_of_le hb h.a.b.size) (fun e => by have := (h.o.lt b e.symm).1; omega)⟩, h.a.f, h.a.v, h.a.k, h.a.s⟩, o, fun b hb e => (hd b hb).elim (fun h' => h.d b h' e) (by have := K.lt h.a.h b e; omega)⟩
end
/-- The same, with the box of a number. -/
structure Lb (K : Kit) (w0 w : World) (p : Nat) (t : Ste) (F : Nat → Prop) (n : Nat) (v : Value) (D : List Int) (b : Nat) (z : Int) : Prop where
  l : Lo K w0 w p t F n v D
  x : Bk w b #[.int .i64 z] 3
  fx : ¬ F b
  ox : v.ownBlock ≠ some b
section
variable {K : Kit} {w0 w w' : World} {p n n' b : Nat} {t t' : Ste} {F F' : Nat → Prop} {v v' : Value} {D D' : List Int} {z : Int}
theorem Lo.box (h : Lo K w0 w p t F n v D) : Lb K w0 (w.alloc (.cells #[.int .i64 z] 3)) p t F n v D w.heap.size z :=
  ⟨h.alloc _, Bk.new w _ _, fun e => Nat.lt_irrefl _ (K.lt h.a.h _ e), fun e => Nat.lt_irrefl _ (h.o.lt _ e).2⟩
theorem Lb.low (h : Lb K w0 w p t F n v D b z) (hb : Below w.heap.size w w') : Lb K w0 w' p t F n v D b z := ⟨h.l.low hb, Bk.low hb h.x, h.fx, h.ox⟩
theorem Lb.alloc (h : Lb K w0 w p t F n v D b z) (o : Obj) : Lb K w0 (w.alloc o) p t F n v D b z := h.low ((Below.refl _ w).alloc (Nat.le_refl _) o)
theorem Lb.drewN (h : Lb K w0 w p t F n v D b z) (k : Nat) : Lb K w0 (w.drewN k) p t F n v D b z := ⟨h.l.drewN k, h.x, h.fx, h.ox⟩
theorem Lb.drew (h : Lb K w0 w p t F n v D b z) : Lb K w0 w.drew p t F n v D b z := h.drewN 1
theorem Lb.step (h : Lb K w0 w p t F n v D b z) (h' : Tr K w0 w' p t' F' n') (c : Chg F w w') (s : Sub F F' w) : Lb K w0 w' p t' F' n' v D b z :=
  ⟨h.l.step h' c s, by have := h.x; unfold Bk at *; rw [c.block _ h.x.lt h.fx]; exact this, fun e => (s _ e).elim h.fx (by have := h.x.lt; omega), h.ox⟩
theorem Lb.grow (h : Lb K w0 w p t F n v D b z) (hg : w.grownBy w' v.ownBlock) (o : OwnI w' w0.heap.size v' D') (hd : ∀ b, v'.ownBlock = some b → v.ownBlock = some b ∨ w.heap.size ≤ b) : Lb K w0 w' p t F n v' D' b z :=
  ⟨h.l.grow hg o hd, by have := h.x; unfold Bk at *; rw [hg.block _ h.x.lt (fun e => h.ox e.symm)]; exact this, h.fx, fun e => (hd b e).elim h.ox (by have := h.x.lt; omega)⟩
theorem Lb.c0 (h : Lb K w0 w p t F n v D b z) : w.cell? ⟨b, 0, none⟩ = some (.int .i64 z) := h.x.cell 0 _ rfl
end
set_option maxRecDepth 100000 in
set_option maxHeartbeats 8000000 in
theorem order_walk (K : Kit) (bs : List Int) (A : Option Addr) (c : Nat) (z : Int) (B : Nat) (w : World) (ha : ByS w B A bs) (hB : B ≤ w.heap.size) (hl : bs.length ≤ 140737488351232) (hlc : bs.length ≤ c) (hA : A = none → c = 0) (hok : ∀ x ∈ bs, 0 ≤ x ∧ x ≤ 255) (hz : 0 ≤ z ∧ z ≤ 255) (hk : K.V w) :
    Calls Tryd.prog 6 #[.slice A bs.length c, .int .u8 z] w fun e w' => e = .returned (.bool true) ∧ Below w.heap.size w w' := by
  have HV := Lib.hid hk
  have HA := Lib.hid ha
  have HOK := Lib.hid hok
  obtain ⟨i0, hi0, hz0, hz1, hz2⟩ := info_parts infoI
  obtain ⟨g1, g2⟩ := hz
  clear hk ha hok
  go_enter Tryd.func6, Tryd.ntmps6
  go_wp2_with fail
  refine (sanity_any K _ HV.out).mono ?_
  rintro e w1 ⟨rfl, hb⟩
  have B1 := Lib.hid hb
  clear hb
  go_wp2_with fail
  refine (new_at (w0 := w) HV.out B1.out).mono ?_
  rintro e w2 ⟨p, F, rfl, h, _⟩
  have TW := Lib.hid (show Lo K w w2 p st0 F 0 (.slice none 0 0) [] from ⟨h, OwnI.nil _ _, fun b hb => by simp [Value.ownBlock] at hb⟩)
  clear h
  obtain ⟨M, hmin⟩ : ∃ M : Nat, min (bs.length : Int) 20 = (M : Int) := ⟨min bs.length 20, by omega⟩
  have M20 : M ≤ 20 := by omega
  have Ml : M ≤ bs.length := by omega
  have Mi : (M : Int) ≤ bs.length := by omega
  have Mc : (M : Int) ≤ c := by omega
  go_wp2_with fail
  go_loopw [7, 21] (fun wv i wr => ∃ (k : Nat) (F : Nat → Prop) (t : Ste) (D : List Int), k ≤ M ∧ i = .int .i64 k ∧ Hid (Lo K w wr p t F k wv D) ∧ Hid (t.full = false ∧ t.l.map (·.1) = D ∧ ∀ x ∈ D, 0 ≤ x ∧ x < 4)) (fun _ i _ => M - (intOf i).toNat)
  case atStart => exact ⟨0, F, st0, [], by omega, rfl, TW, Lib.hid ⟨rfl, rfl, fun x hx => by cases hx⟩⟩
  case round =>
    clear TW
    obtain ⟨k, F, t, D, hk, rfl, TW, RR⟩ := hrel
    by_cases h1 : k < M
    · have hkl : k < bs.length := by omega
      obtain ⟨b, o, rfl, hb, c0⟩ := HA.out.below TW.out.a.b hB k _ (List.getElem?_eq_getElem hkl)
      obtain ⟨x1, x2⟩ := HOK.out _ (List.getElem_mem hkl)
      generalize bs[k] = y at *
      have h3 : (k : Int) < M := by omega
      have x3 : 0 ≤ y % 4 := Int.emod_nonneg _ (by omega)
      have x4 : y % 4 < 4 := Int.emod_lt_of_pos _ (by omega)
      have XI := Lib.hid (show I64 (y % 4) from ⟨by omega, by omega⟩)
      have XI1 := Lib.hid (show I64 (y % 4 + 1) from ⟨by omega, by omega⟩)
      obtain ⟨t', bb, e1, e2, e3, e4⟩ := order_step TW.out.a.k RR.out.1 RR.out.2.1 RR.out.2.2 x3 x4 (show 0 ≤ y % 4 + 1 by omega)
      obtain ⟨t2, f1, f2, f3⟩ := find_hit e4
      have LE := Lib.hid e1
      have FE := Lib.hid f1
      have R2 := Lib.hid (show t2.full = false ∧ t2.l.map (·.1) = addI (y % 4) D ∧ ∀ x ∈ addI (y % 4) D, 0 ≤ x ∧ x < 4 from ⟨f3.trans e2, by rw [f2]; exact e3, addI_small RR.out.2.2 x3 x4⟩)
      have dl : D.length ≤ 4 := few (by rw [← RR.out.2.1]; exact TW.out.a.k.nd) RR.out.2.2
      clear hb e1 e2 e3 e4 f1 f2 f3 RR
      obtain ⟨A2, k2, rfl, _, hcap, hs⟩ := TW.out.o.form
      clear hs
      go_wp2_with fail
      refine (learn_at TW.out.a XI.out XI1.out LE.out).mono ?_
      rintro e w4 ⟨F4, rfl, h, c, s⟩
      replace TW := Lib.hid (TW.out.step h c s)
      clear h c s
      go_wp2_with fail
      refine (find_at TW.out.a (by omega) XI.out FE.out).mono ?_
      rintro e w5 ⟨F5, rfl, h, c, s⟩
      replace TW := Lib.hid (TW.out.step h c s)
      clear h c s
      go_wp2_with fail
      obtain ⟨A3, k3, hv3, _, _, hs3⟩ := TW.out.o.form
      obtain ⟨rfl, rfl⟩ : A2 = A3 ∧ k2 = k3 := by injection hv3 with a b c; exact ⟨a, c⟩
      have S3 := Lib.hid hs3
      clear hv3 hs3
      by_cases hmem : y % 4 ∈ D
      · have AE := Lib.hid (show addI (y % 4) D = D from if_pos hmem)
        refine (contains_any _ A2 D k2 (y % 4) _ S3.out (by omega) true (by simp [hmem])).mono ?_
        rintro e w6 ⟨rfl, hw⟩
        subst hw
        clear hmem S3
        go_wp2_with fail
        go_roundw
        case rel => exact ⟨k + 1, F5, t2, D, by omega, by go_num, TW, by rw [← AE.out]; exact R2⟩
        case measure => simp [intOf]; omega
      · have AE := Lib.hid (show addI (y % 4) D = D ++ [y % 4] from if_neg hmem)
        refine (contains_any _ A2 D k2 (y % 4) _ S3.out (by omega) false (by simp [hmem])).mono ?_
        rintro e w6 ⟨rfl, hw⟩
        subst hw
        have HO := Lib.hid (TW.out.o.alloc (.cells #[.int .i64 (y % 4)] 3))
        have TX := Lib.hid (TW.out.alloc (.cells #[.int .i64 (y % 4)] 3))
        have WZ := Lib.hid TW.out.a.b.size
        clear hmem S3
        go_wp2_with (at_builtin; refine wpList_append_lies _ rfl _ _ 40 rfl w.heap.size 3 i0 (.int .i64 0) 1 8 Tryd.underlying40 hi0 hz0 hz1 hz2 rfl (by decide) (.slice A2 D.length k2) D.length _ rfl HO.out ⟨_, 0, none⟩ 1 1 [.int .i64 (y % 4)] rfl rfl (oneNewI _ _) (onesI [y % 4]) (by omega) (by unfold maxLen; omega) (by omega) (by rw [World.size_alloc]; have := WZ.out; omega) _ rfl ?_)
        intro g cap w7 hown hgrow hg hglt
        have HO' := Lib.hid (ownI_snoc hown)
        replace TW := Lib.hid (TX.out.grow hgrow HO'.out (fun b hb => by
          simp only [Value.ownBlock, Option.some.injEq] at hb
          rcases hg with hg | hg
          · exact .inl (by rw [hg, hb])
          · exact .inr (by have := World.size_alloc w5 (.cells #[.int .i64 (y % 4)] 3); omega)))
        clear hown hgrow hg hglt HO TX HO'
        go_wp2_with fail
        go_roundw
        case rel => exact ⟨k + 1, F5, t2, D ++ [y % 4], by omega, by go_num, by simpa using TW, by rw [← AE.out]; exact R2⟩
        case measure => simp [intOf]; omega
    · obtain rfl : k = M := by omega
      clear h1
      obtain ⟨hf, hD, hm⟩ := RR.out
      have dl : D.length ≤ 4 := few (by rw [← hD]; exact TW.out.a.k.nd) hm
      have x3 : 0 ≤ z % 4 := Int.emod_nonneg _ (by omega)
      have x4 : z % 4 < 4 := Int.emod_lt_of_pos _ (by omega)
      have XI := Lib.hid (show I64 (z % 4) from ⟨by omega, by omega⟩)
      have SH := Lib.hid (show t.shapes = D from hD)
      obtain ⟨t1, ht1⟩ : ∃ t1, (t.forget (z % 4)).2 = t1 := ⟨_, rfl⟩
      have K1 := Lib.hid (show t1.l.map (·.1) = D.filter fun y => !decide (y = z % 4) by rw [← ht1]; exact forget_keys hD _)
      have O1 := Lib.hid (show t1.Ok (20 + 20) by rw [← ht1]; exact forget_ok (TW.out.a.k.up (by omega)) _)
      have F1 := Lib.hid (show t1.full = false by rw [← ht1]; exact hf)
      obtain ⟨b1, hb1⟩ : ∃ b1, (lk (z % 4) t.l).isSome = b1 := ⟨_, rfl⟩
      have FE := Lib.hid (show t.forget (z % 4) = (b1, t1) by rw [← ht1, ← hb1]; rfl)
      have IN := Lib.hid (show decide (z % 4 ∈ D) = b1 by
        rw [← hb1, Bool.eq_iff_iff, decide_eq_true_eq, lk_some_iff, hD])
      obtain ⟨D', hD'⟩ : ∃ D', (D.filter fun y => !decide (y = z % 4)) = D' := ⟨_, rfl⟩
      have nm : z % 4 ∉ D' := by rw [← hD']; simp
      have dl' : D'.length ≤ 4 := by rw [← hD']; exact Nat.le_trans (List.length_filter_le _ _) dl
      have hm' : ∀ x ∈ D', 0 ≤ x ∧ x < 4 := fun x hx => hm x (by rw [← hD'] at hx; exact (List.mem_filter.1 hx).1)
      rw [hD'] at K1
      have SH1 := Lib.hid (show t1.shapes = D' from K1.out)
      obtain ⟨t2, ht2⟩ : ∃ t2, (t1.forget (z % 4)).2 = t2 := ⟨_, rfl⟩
      have FE2 := Lib.hid (show t1.forget (z % 4) = (false, t2) by
        rw [← ht2]; unfold Ste.forget
        have : (lk (z % 4) t1.l).isSome = false := by
          rw [Bool.eq_false_iff]; intro h; rw [lk_some_iff, K1.out] at h; exact nm h
        rw [this])
      have K2 := Lib.hid (show t2.l.map (·.1) = D' by
        rw [← ht2, forget_keys K1.out]
        exact List.filter_eq_self.2 fun x hx => by simp; exact fun e => nm (e ▸ hx))
      obtain ⟨t3, bb, e1, _, e3, _⟩ := order_step (t := t2) (by rw [← ht2]; exact forget_ok O1.out _) (by rw [← ht2]; exact F1.out) K2.out hm' x3 x4 (v := 9) (by omega)
      have LE := Lib.hid e1
      have SH3 := Lib.hid (show t3.shapes = D' ++ [z % 4] by rw [show D' ++ [z % 4] = addI (z % 4) D' from (if_neg nm).symm]; exact e3)
      have FD := Lib.hid hD'
      clear RR hf hD hm ht1 hb1 hD' ht2 e1 e3 K1 K2 O1 F1
      obtain ⟨A2, k2, rfl, _, _, _⟩ := TW.out.o.form
      go_wp2_with fail
      refine (shapes_at TW.out.a SH.out).mono ?_
      rintro e w4 ⟨v, rfl, ho, _, hb⟩
      obtain ⟨A5, c5, rfl, _, _, hs⟩ := ho.form
      have S5 := Lib.hid hs
      replace TW := Lib.hid (TW.out.low hb)
      clear hb ho hs
      obtain ⟨A3, k3, hv3, _, _, hs3⟩ := TW.out.o.form
      obtain ⟨rfl, rfl⟩ : A2 = A3 ∧ k2 = k3 := by injection hv3 with a b c; exact ⟨a, c⟩
      have S3 := Lib.hid hs3
      clear hv3 hs3
      go_wp2_with fail
      refine (equal_any _ _ A5 A2 D D c5 k2 _ S5.out S3.out (by omega) (by omega) true (by simp)).mono ?_
      rintro e w5 ⟨rfl, nq, rfl⟩
      replace TW := Lib.hid (TW.out.drewN nq)
      obtain ⟨w5, hw5⟩ : ∃ w5, w4.drewN nq = w5 := ⟨_, rfl⟩
      rw [hw5] at TW ⊢
      clear S5 S3 hw5
      go_wp2_with fail
      have LB := Lib.hid (TW.out.box (z := z % 4))
      clear TW
      obtain ⟨bx, hbx⟩ : ∃ bx, w5.heap.size = bx := ⟨_, rfl⟩
      obtain ⟨w6, hw6⟩ : ∃ w6, w5.alloc (.cells #[.int .i64 (z % 4)] 3) = w6 := ⟨_, rfl⟩
      rw [hw6, hbx] at LB
      rw [hw6, hbx]
      clear hw6 hbx
      obtain ⟨A3, k3, hv3, _, _, hs3⟩ := LB.out.l.o.form
      obtain ⟨rfl, rfl⟩ : A2 = A3 ∧ k2 = k3 := by injection hv3 with a b c; exact ⟨a, c⟩
      have S3 := Lib.hid hs3
      clear hv3 hs3
      refine (contains_any _ A2 D k2 (z % 4) _ S3.out (by omega) b1 IN.out).mono ?_
      rintro e w7 ⟨rfl, hw⟩
      subst hw
      clear S3
      have x0 := LB.out.c0
      go_wp2_with fail
      clear x0
      refine (forget_at LB.out.l.a XI.out FE.out).mono ?_
      rintro e w7 ⟨F7, rfl, h, c, s⟩
      replace LB := Lib.hid (LB.out.step h c s)
      clear h c s
      go_wp2_with fail
      refine (delete_any w.heap.size _ D (z % 4) bx _ LB.out.l.o dl LB.out.x.lt LB.out.ox LB.out.c0).mono ?_
      rintro e w8 ⟨v', rfl, ho, hvo, hg⟩
      rw [FD.out] at ho
      replace LB := Lib.hid (LB.out.grow hg ho (fun b hb => .inl (by rw [← hvo]; exact hb)))
      clear ho hvo hg
      obtain ⟨A6, k6, rfl, _, _, _⟩ := LB.out.l.o.form
      go_wp2_with fail
      refine (shapes_at LB.out.l.a SH1.out).mono ?_
      rintro e w9 ⟨v, rfl, ho, _, hb⟩
      obtain ⟨A7, c7, rfl, _, _, hs⟩ := ho.form
      have S5 := Lib.hid hs
      replace LB := Lib.hid (LB.out.low hb)
      clear hb ho hs
      obtain ⟨A3, k3, hv3, _, _, hs3⟩ := LB.out.l.o.form
      obtain ⟨rfl, rfl⟩ : A6 = A3 ∧ k6 = k3 := by injection hv3 with a b c; exact ⟨a, c⟩
      have S3 := Lib.hid hs3
      clear hv3 hs3
      go_wp2_with fail
      refine (equal_any _ _ A7 A6 D' D' c7 k6 _ S5.out S3.out (by omega) (by omega) true (by simp)).mono ?_
      rintro e wa ⟨rfl, nq2, rfl⟩
      replace LB := Lib.hid (LB.out.drewN nq2)
      obtain ⟨wb, hwb⟩ : ∃ wb, w9.drewN nq2 = wb := ⟨_, rfl⟩
      rw [hwb] at LB ⊢
      clear S5 S3 hwb
      have x0 := LB.out.c0
      go_wp2_with fail
      clear x0
      refine (forget_at LB.out.l.a XI.out FE2.out).mono ?_
      rintro e wc ⟨F8, rfl, h, c, s⟩
      replace LB := Lib.hid (LB.out.step h c s)
      clear h c s
      have x0 := LB.out.c0
      go_wp2_with fail
      clear x0
      refine (learn_at LB.out.l.a XI.out (i64 (by omega) (by omega)) LE.out).mono ?_
      rintro e wd ⟨F9, rfl, h, c, s⟩
      replace LB := Lib.hid (LB.out.step h c s)
      clear h c s
      have x0 := LB.out.c0
      go_wp2_with fail
      have hmx : Tryd.prog.follows .mixedOrders = true := by kernel_rfl
      have LD := Lib.hid LB.out.drew
      clear LB x0
      have S1 := Lib.hid (show wd.drew.cell? ⟨bx, 0, none⟩ = some (.int .i64 (z % 4)) from LD.out.c0)
      refine region_plain (fun v => v.cell? ⟨bx, 0, none⟩ = some (.int .i64 (z % 4))) hmx ?_
      generalize wd.drew = we at *
      refine wpAnyH_take (i := 0) (v := ?_) rfl (by kernel_rfl) (by kernel_rfl) (by kernel_rfl) (fun _ _ _ h => h) (.inl ⟨by kernel_rfl, fun v hS => ?_⟩) S1.out ?_
      rotate_left
      · have e0 := hS
        go_simp
        with_reducible rfl
      refine wpAnyH_take (i := 1) (v := ?_) rfl (by kernel_rfl) (by kernel_rfl) (by kernel_rfl) (fun _ _ _ h => h) (.inl ⟨by kernel_rfl, fun v hS => ?_⟩) S1.out ?_
      rotate_left
      · have e0 := hS
        go_simp
        with_reducible rfl
      refine wpAnyH_take (i := 2) (v := ?_) rfl (by kernel_rfl) (by kernel_rfl) (by kernel_rfl) (fun _ _ _ h => h) (.inl ⟨by kernel_rfl, fun v hS => ?_⟩) S1.out ?_
      rotate_left
      · have e0 := hS
        go_simp
        with_reducible rfl
      refine wpAnyH_take (i := 4) (v := ?_) rfl (by kernel_rfl) (by kernel_rfl) (by kernel_rfl) (fun _ _ _ h => h) (.inl ⟨by kernel_rfl, fun v hS => ?_⟩) S1.out ?_
      rotate_left
      · have e0 := hS
        go_simp
        with_reducible rfl
      refine wpAnyH_take (i := 5) (v := ?_) rfl (by kernel_rfl) (by kernel_rfl) (by kernel_rfl) (fun _ _ _ h => h) (.inl ⟨by kernel_rfl, fun v hS => ?_⟩) S1.out ?_
      rotate_left
      · have e0 := hS
        go_simp
        with_reducible rfl
      refine two_ready 3 6 rfl rfl (by kernel_rfl) (by kernel_rfl) (by kernel_rfl) ?_ ?_
      · go_simp
        refine (shapes_at LD.out.l.a SH3.out).mono ?_
        rintro e wf ⟨v, rfl, ho, _, hb⟩
        obtain ⟨A9, c9, rfl, _, _, hs⟩ := ho.form
        have FR := Lib.hid (OwnI.ge ho)
        have LW := Lib.hid (LD.out.low hb)
        have SN0 := Lib.hid hs
        have OB := Lib.hid (show ∀ b, (Value.slice A6 D'.length k6).ownBlock = some b → b < we.heap.size from fun b hb => (LD.out.l.o.lt b hb).2)
        clear ho hs hb LD
        refine ⟨LW.out.c0, ?_⟩
        refine one_ready 6 rfl (by kernel_rfl) (by kernel_rfl) ?_
        go_simp
        have LX := Lib.hid (LW.out.alloc (.cells #[.int .i64 (z % 4)] 3))
        have NEWS := Lib.hid (oneNewI wf (z % 4))
        have SZ := Lib.hid (World.size_alloc wf (.cells #[.int .i64 (z % 4)] 3))
        have SN := Lib.hid (show SlI (wf.alloc (.cells #[.int .i64 (z % 4)] 3)) (fun b => b < (wf.alloc (.cells #[.int .i64 (z % 4)] 3)).heap.size ∧ some b ≠ (Value.slice A6 D'.length k6).ownBlock) A9 (D' ++ [z % 4]) from
          SN0.out.keep fun b hb => ⟨⟨by rw [World.size_alloc]; omega, fun e => by have := OB.out b e.symm; omega⟩, Below.heap_alloc _ _ _ hb.2⟩)
        clear SN0 LW
        refine ⟨LX.out.c0, ?_⟩
        refine one_ready 7 rfl (by kernel_rfl) (by kernel_rfl) ?_
        refine wp_append_lies _ _ _ 40 rfl w.heap.size 3 i0 (.int .i64 0) 1 8 Tryd.underlying40 hi0 hz0 hz1 hz2 rfl (by decide) (.slice A6 D'.length k6) D'.length _ rfl LX.out.l.o ⟨wf.heap.size, 0, none⟩ 1 1 [.int .i64 (z % 4)] rfl rfl NEWS.out (onesI [z % 4]) (by omega) (by unfold maxLen; omega) (by omega) (by have := LX.out.l.a.b.size; omega) _ rfl ?_
        intro g cap wg hown hgrow hg hglt
        have HO' := Lib.hid (ownI_snoc hown)
        have LY := Lib.hid (LX.out.grow hgrow HO'.out (fun b hb => by
          simp only [Value.ownBlock, Option.some.injEq] at hb
          rcases hg with hg | hg
          · exact .inl (by rw [hg, hb])
          · exact .inr (by have := SZ.out; omega)))
        have S6 := Lib.hid (SN.out.keep (w' := wg) (Q := fun _ => True) (fun b hb => ⟨trivial, hgrow.block b hb.1 hb.2⟩))
        clear hown hgrow hg hglt LX SN NEWS
        refine ⟨LY.out.c0, ?_⟩
        refine one_ready 8 rfl (by kernel_rfl) (by kernel_rfl) ?_
        go_simp
        obtain ⟨A8, k8, hv8, _, _, hs8⟩ := LY.out.l.o.form
        obtain ⟨rfl, rfl⟩ : A8 = some ⟨g, 0, none⟩ ∧ k8 = cap := by injection hv8 with a b c; exact ⟨a.symm, c.symm⟩
        have S7 := Lib.hid hs8
        clear hv8 hs8
        have EQ := equal_any _ _ A9 (some ⟨g, 0, none⟩) (D' ++ [z % 4]) (D' ++ [z % 4]) c9 k8 wg S6.out S7.out (by rw [List.length_append, List.length_singleton]; omega) (by rw [List.length_append, List.length_singleton]; omega) true (by simp)
        rw [List.length_append, List.length_singleton] at EQ
        refine EQ.mono ?_
        rintro e wh ⟨rfl, nq3, rfl⟩
        have LZ := Lib.hid (LY.out.drewN nq3)
        clear EQ LY S6 S7
        refine ⟨LZ.out.c0, ?_⟩
        refine one_ready 9 rfl (by kernel_rfl) (by kernel_rfl) ?_
        go_simp
        refine ⟨LZ.out.c0, ?_⟩
        refine one_ready 10 rfl (by kernel_rfl) (by kernel_rfl) ?_
        go_simp
        refine ⟨LZ.out.c0, rfl, ?_⟩
        go_wp2_with fail
        go_ret
        exact ⟨rfl, LZ.out.l.a.b⟩
      · go_simp
        have LE2 := Lib.hid (LD.out.alloc (.cells #[.int .i64 (z % 4)] 3))
        have OB := Lib.hid (show ∀ b, (Value.slice A6 D'.length k6).ownBlock = some b → b < we.heap.size from fun b hb => (LD.out.l.o.lt b hb).2)
        clear LD
        refine ⟨LE2.out.c0, ?_⟩
        refine one_ready 3 rfl (by kernel_rfl) (by kernel_rfl) ?_
        go_simp
        refine (shapes_at LE2.out.l.a SH3.out).mono ?_
        rintro e wf ⟨v, rfl, ho, _, hb⟩
        obtain ⟨A9, c9, rfl, _, _, hs⟩ := ho.form
        have LX := Lib.hid (LE2.out.low hb)
        have SZ := Lib.hid (Nat.le_refl wf.heap.size)
        have NEWS := Lib.hid (show ∀ j u, [Value.int .i64 (z % 4)][j]? = some u → wf.cell? ((⟨we.heap.size, 0, none⟩ : Addr).add j) = some u from fun j u h => by
          have := oneNewI we (z % 4) j u h
          rw [← this]
          exact hb.cell (p := (⟨we.heap.size, 0, none⟩ : Addr).add j) (by
            have : ((⟨we.heap.size, 0, none⟩ : Addr).add j).block = we.heap.size := by unfold Addr.add; split <;> rfl
            rw [this, World.size_alloc]; omega))
        have SN := Lib.hid (show SlI wf (fun b => b < wf.heap.size ∧ some b ≠ (Value.slice A6 D'.length k6).ownBlock) A9 (D' ++ [z % 4]) from
          hs.keep fun b hb => ⟨⟨hb.2, fun e => by have := OB.out b e.symm; have := World.size_alloc we (.cells #[.int .i64 (z % 4)] 3); omega⟩, rfl⟩)
        clear ho hs hb LE2
        refine ⟨LX.out.c0, ?_⟩
        refine one_ready 7 rfl (by kernel_rfl) (by kernel_rfl) ?_
        refine wp_append_lies _ _ _ 40 rfl w.heap.size 3 i0 (.int .i64 0) 1 8 Tryd.underlying40 hi0 hz0 hz1 hz2 rfl (by decide) (.slice A6 D'.length k6) D'.length _ rfl LX.out.l.o ⟨we.heap.size, 0, none⟩ 1 1 [.int .i64 (z % 4)] rfl rfl NEWS.out (onesI [z % 4]) (by omega) (by unfold maxLen; omega) (by omega) (by have := LX.out.l.a.b.size; omega) _ rfl ?_
        intro g cap wg hown hgrow hg hglt
        have HO' := Lib.hid (ownI_snoc hown)
        have LY := Lib.hid (LX.out.grow hgrow HO'.out (fun b hb => by
          simp only [Value.ownBlock, Option.some.injEq] at hb
          rcases hg with hg | hg
          · exact .inl (by rw [hg, hb])
          · exact .inr (by have := SZ.out; omega)))
        have S6 := Lib.hid (SN.out.keep (w' := wg) (Q := fun _ => True) (fun b hb => ⟨trivial, hgrow.block b hb.1 hb.2⟩))
        clear hown hgrow hg hglt LX SN NEWS
        refine ⟨LY.out.c0, ?_⟩
        refine one_ready 8 rfl (by kernel_rfl) (by kernel_rfl) ?_
        go_simp
        obtain ⟨A8, k8, hv8, _, _, hs8⟩ := LY.out.l.o.form
        obtain ⟨rfl, rfl⟩ : A8 = some ⟨g, 0, none⟩ ∧ k8 = cap := by injection hv8 with a b c; exact ⟨a.symm, c.symm⟩
        have S7 := Lib.hid hs8
        clear hv8 hs8
        have EQ := equal_any _ _ A9 (some ⟨g, 0, none⟩) (D' ++ [z % 4]) (D' ++ [z % 4]) c9 k8 wg S6.out S7.out (by rw [List.length_append, List.length_singleton]; omega) (by rw [List.length_append, List.length_singleton]; omega) true (by simp)
        rw [List.length_append, List.length_singleton] at EQ
        refine EQ.mono ?_
        rintro e wh ⟨rfl, nq3, rfl⟩
        have LZ := Lib.hid (LY.out.drewN nq3)
        clear EQ LY S6 S7
        refine ⟨LZ.out.c0, ?_⟩
        refine one_ready 9 rfl (by kernel_rfl) (by kernel_rfl) ?_
        go_simp
        refine ⟨LZ.out.c0, ?_⟩
        refine one_ready 10 rfl (by kernel_rfl) (by kernel_rfl) ?_
        go_simp
        refine ⟨LZ.out.c0, rfl, ?_⟩
        go_wp2_with fail
        go_ret
        exact ⟨rfl, LZ.out.l.a.b⟩
end Go.Proofs.YtpgjmmlgaanelaaDoor.Ch
