/-
  Merge of package shape.
-/
import Derived.Test.YtjodmjadpooipaaGreatDoorKn
import Derived.BigRegion
namespace Go.Proofs.YtjodmjadpooipaaGreatDoor.Sh
open Go Go.RowKit

theorem lk_tie {t : Tre} {x y : Nat} (hy : y < t.L.length) (f : Int) (nm : ByteArray) : lkC (t.tie x y) f nm = if f = y then none else lkC t f nm := by
  unfold lkC
  by_cases hf : 0 ≤ f
  · obtain ⟨f, rfl⟩ := Int.eq_ofNat_of_zero_le hf
    rw [show ((f : Int).toNat) = f from rfl, tie_sh t x hy]
    by_cases e : f = y
    · subst e; rw [if_pos rfl, if_pos rfl, if_neg (fun h => by cases h.2)]
    · rw [if_neg e, if_neg (show ¬ (f : Int) = y by omega)]
  · rw [if_neg (fun h => hf h.1), if_neg (show ¬ f = y by omega), if_neg (fun h => hf h.1)]
theorem part_cont {t : Tre} {x y : Nat} {D D1 : DataW Unit} (hy : y < t.L.length) (h : Cont D t) (hp : Part D D1 (fun _ => false) (y : Int)) : Cont D1 (t.tie x y) := fun f nm hf hn => by
  rw [lk_tie hy]
  obtain ⟨h1, h2⟩ := hp f nm hf hn
  by_cases e : f = y
  · rw [if_pos e]
    refine ⟨?_, fun a ha => by cases ha⟩
    cases hh : Maps.has D1 (keyL f nm)
    · rfl
    · have := h2 e hh; cases this
  · rw [if_neg e, (h1 e).1]
    exact ⟨(h f nm hf hn).1, fun a ha zd => by rw [(h1 e).2]; exact (h f nm hf hn).2 a ha zd⟩
/-- An alias more. -/
theorem tieC_at {w w' : World} {p : Nat} {t : Tre} {F : Nat → Prop} {vR : Value} {mb g c : Nat} {D D1 : DataW Unit} {hd : Nat → Ld} (h : CodeAt w p t F (.slice (some ⟨g, 0, none⟩) t.L.length c) vR mb D hd) {x y : Nat} (hy : y < t.L.length)
    (hg : (w.setCell ⟨g, y * 3 + 2, none⟩ (.int .i64 (x : Int))).grownBy w' (some mb)) (hm : w'.ownsMap Tryz.prog 77 (plainElem Tryz.prog 3) mb 65536 D1) (hc : Cont D1 (t.tie x y)) :
    CodeAt w' p (t.tie x y) F (.slice (some ⟨g, 0, none⟩) t.L.length c) vR mb D1 hd := by
  have hz : (w.setCell ⟨g, y * 3 + 2, none⟩ (.int .i64 (x : Int))).heap.size = w.heap.size := by simp [World.setCell]
  have near : ∀ b, b < w.heap.size → b ≠ mb → w'.heap[b]? = (w.setCell ⟨g, y * 3 + 2, none⟩ (.int .i64 (x : Int))).heap[b]? := fun b hb hne => hg.block b (by omega) (fun e => hne (by injection e))
  have far : ∀ b, b < w.heap.size → b ≠ mb → b ≠ g → w'.heap[b]? = w.heap[b]? := fun b hb hm hb2 => (near b hb hm).trans (Below.heap_setCell w _ _ b (fun e => hb2 e))
  have hL : (t.tie x y).L.length = t.L.length := by simp [Tre.tie]
  obtain ⟨xs, o, hx⟩ := h.rows
  have S := tie_sh t x hy
  have SN : ∀ s, ((t.tie x y).sh s).names = (t.sh s).names ∧ ((t.tie x y).sh s).cls = (t.sh s).cls := fun s => by
    rw [S]; by_cases e : s = y
    · subst e; rw [if_pos rfl]; exact ⟨rfl, rfl⟩
    · rw [if_neg e]; exact ⟨rfl, rfl⟩
  have gF : F g := h.fL g rfl
  have gm : g ≠ mb := fun e => map_ne_own o h.map (by rw [e]; rfl)
  have pg : p ≠ g := fun e => bk_ne o h.hp (by decide) (by rw [e]; rfl)
  have pm : p ≠ mb := map_ne_bk h.hp h.map
  refine ⟨fun b hb => by have := h.lt b hb; have := hg.size; omega, ?_, h.fp, ⟨xs.set (y * 3 + 2) (.int .i64 (x : Int)), ?_, fun s hs i u hu => ?_⟩, h.fL, ?_, h.fR, fun s hs => ?_, fun s hs => h.nils s (by omega), hm, hc, h.fM⟩
  · unfold Bk; rw [far p h.hp.lt pm pg]; exact h.hp
  · rw [hL]
    exact own_keep (World.ownsRow.stored o _ _).1 fun b hb => by
      simp only [Value.ownBlock, Option.some.injEq] at hb
      subst hb
      exact near g (h.lt g gF) gm
  · rw [hL] at hs
    have hi : i < 3 := by have := (List.getElem?_eq_some_iff.1 hu).1; exact this
    have hlen : xs.length = t.L.length * 3 := o.1
    by_cases e : s * 3 + i = y * 3 + 2
    · have es : s = y := by omega
      have ei : i = 2 := by omega
      subst es; subst ei
      rw [List.getElem?_set_self (by omega)]
      rw [S, if_pos rfl] at hu
      injection hu with hu
      rw [← hu]; rfl
    · rw [List.getElem?_set_ne (fun e' => e e'.symm)]
      refine hx s hs i u ?_
      rw [S] at hu
      by_cases es : s = y
      · subst es
        rw [if_pos rfl] at hu
        rcases i with _ | _ | _ | i
        · exact hu
        · exact hu
        · exact absurd rfl e
        · omega
      · rw [if_neg es] at hu; exact hu
  · exact own_keep h.roots fun b hb => far b (h.lt b (h.fR b hb)) (fun e => map_ne_own h.roots h.map (by rw [← e]; exact hb)) (fun e => by subst e; exact own_ne o h.roots (by decide) _ rfl hb)
  · rw [hL] at hs
    rw [(SN s).1]
    refine (h.names s hs).keep fun b hb => ?_
    have e3 := far b (h.lt b hb.1) (fun e => by
      obtain ⟨cs, hc⟩ := hb.2
      obtain ⟨es, clock, hb', _⟩ := h.map
      rw [← e, hc] at hb'; cases hb') (fun e => by subst e; exact str_ne o hb.2 (by decide) rfl)
    obtain ⟨cs, hc⟩ := hb.2
    exact ⟨⟨hb.1, cs, by rw [e3]; exact hc⟩, e3⟩
theorem World.setCell_size (w : World) (a : Addr) (v : Value) : (w.setCell a v).heap.size = w.heap.size := by simp [World.setCell]
set_option maxRecDepth 100000 in
set_option maxHeartbeats 8000000 in
theorem code_merge (w : World) (p : Nat) (t : Tre) (F : Nat → Prop) (m : Nat) (a b : Int) (h : CodeH w p t F) (hw : t.WF m) (h64 : ∀ s, (t.sh s).names.length ≤ 200) (ha : I64 a) (hb : I64 b) :
    Calls Tryz.prog 27 #[.pointer (some ⟨p, 0, none⟩), .int .i64 a, .int .i64 b] w (CodeTo w p F (t.merge a b).2 (.int .i64 (t.merge a b).1)) := by
  have W := Lib.hid hw
  have H64 := Lib.hid h64
  have few := hw.few
  obtain ⟨R, hR⟩ : ∃ R, t.merge a b = R := ⟨_, rfl⟩
  rw [hR]
  have HR := Lib.hid hR
  obtain ⟨X, hX⟩ : ∃ X, w.heap.size = X := ⟨_, rfl⟩
  -- the box of b
  obtain ⟨W1, hW1⟩ : ∃ W1, (w.alloc (.cells #[.int .i64 b] 3)) = W1 := ⟨_, rfl⟩
  have B1 := Lib.hid (show Below w.heap.size w W1 by rw [← hW1]; exact (Below.refl _ w).alloc (Nat.le_refl _) _)
  have X1 := Lib.hid (show Bk W1 X #[.int .i64 b] 3 by rw [← hW1, ← hX]; exact Bk.new w _ _)
  have XF := Lib.hid (show ¬ F X from fun e => by have := h.lt X e; omega)
  have H1 := Lib.hid (h.below B1.out)
  obtain ⟨ca, hca⟩ : ∃ c, t.canonI a = c := ⟨_, rfl⟩
  obtain ⟨cb, hcb⟩ : ∃ c, t.canonI b = c := ⟨_, rfl⟩
  have CA := Lib.hid (show Calls Tryz.prog 16 #[.pointer (some ⟨p, 0, none⟩), .int .i64 a] W1.drew fun e w' => e = .returned (.int .i64 ca) ∧ W1.drew = w' by
    rw [← hca]; exact code_canon _ p t F m a (H1.out.keep fun _ _ => rfl) hw ha)
  have CB := Lib.hid (show Calls Tryz.prog 16 #[.pointer (some ⟨p, 0, none⟩), .int .i64 b] W1.drew fun e w' => e = .returned (.int .i64 cb) ∧ W1.drew = w' by
    rw [← hcb]; exact code_canon _ p t F m b (H1.out.keep fun _ _ => rfl) hw hb)
  have x0 := X1.out.cell 0 (.int .i64 b) rfl
  have xf := X1.out.frozen 0
  have HCA := Lib.hid hca
  have HCB := Lib.hid hcb
  obtain ⟨W2, hW2⟩ : ∃ W2, W1.drew.setCell ⟨X, 0, none⟩ (.int .i64 cb) = W2 := ⟨_, rfl⟩
  have B2 := Lib.hid (show Below w.heap.size w W2 by rw [← hW2]; exact B1.out.drew.setCell (p := ⟨X, 0, none⟩) (by show _ ≤ X; omega) _)
  have X2 := Lib.hid (show Bk W2 X #[.int .i64 cb] 3 by rw [← hW2]; exact Bk.set (show Bk W1.drew X #[.int .i64 b] 3 from X1.out) 0 _)
  have H2 := Lib.hid (h.below B2.out)
  have y0 := X2.out.cell 0 (.int .i64 cb) rfl
  clear h hw h64 hR hca hcb
  by_cases hbad : ca = -1 ∨ cb = -1
  · have RE := Lib.hid (show R = (1, t) by
      rw [← HR.out]
      refine merge_err ?_
      cases e : t.alike a b
      · rfl
      · obtain ⟨e1, e2, _⟩ := alike_iff.1 e
        have f1 := HCA.out
        have f2 := HCB.out
        unfold Tre.canonI at f1 f2
        rw [if_pos e1] at f1
        rw [if_pos e2] at f2
        omega)
    have G := Lib.hid (CodeTo.low (v := .int .i64 1) H2.out B2.out)
    go_enter Tryz.func27, Tryz.ntmps27
    go_wp2_with fail
    go_region_law (first
      | (go_simp; go_at_call 16; (with_reducible refine CA.out.mono ?_); rintro e w' ⟨rfl, rfl⟩)
      | (go_simp; go_at_call 16; (with_reducible refine CB.out.mono ?_); rintro e w' ⟨rfl, rfl⟩))
    all_goals
      by_cases e : ca = -1
      · subst e
        go_wp2_with fail
        go_ret
        rw [RE.out]; exact G.out
      · have e3 : (ca == -1) = false := by rw [beq_eq_false_iff_ne]; exact e
        obtain rfl : cb = -1 := hbad.resolve_left e
        clear hbad e
        go_wp2_with fail
        go_ret
        rw [RE.out]; exact G.out
  · obtain ⟨na, nb⟩ : ¬ ca = -1 ∧ ¬ cb = -1 := ⟨fun e => hbad (.inl e), fun e => hbad (.inr e)⟩
    have ta : t.there a = true := by
      cases e : t.there a
      · exact absurd (HCA.out.symm.trans (by unfold Tre.canonI; rw [e]; rfl)) na
      · rfl
    have tb : t.there b = true := by
      cases e : t.there b
      · exact absurd (HCB.out.symm.trans (by unfold Tre.canonI; rw [e]; rfl)) nb
      · rfl
    obtain ⟨a, rfl⟩ := Int.eq_ofNat_of_zero_le (there_iff.1 ta).1
    obtain ⟨b, rfl⟩ := Int.eq_ofNat_of_zero_le (there_iff.1 tb).1
    have al : a < t.L.length := (there_iff.1 ta).2
    have bl : b < t.L.length := (there_iff.1 tb).2
    obtain ⟨ua, hua⟩ : ∃ n, t.canon a = n := ⟨_, rfl⟩
    obtain ⟨ub, hub⟩ : ∃ n, t.canon b = n := ⟨_, rfl⟩
    have ual : ua < t.L.length := by rw [← hua]; exact canon_lt W.out al
    have ubl : ub < t.L.length := by rw [← hub]; exact canon_lt W.out bl
    obtain rfl : ca = (ua : Int) := by rw [← HCA.out, canonI_nat al, hua]
    obtain rfl : cb = (ub : Int) := by rw [← HCB.out, canonI_nat bl, hub]
    have AL : t.alike (a : Int) (b : Int) = true ↔ (t.sh ub).cls = (t.sh ua).cls ∧ (t.sh ua).names = (t.sh ub).names := by
      rw [alike_iff, ← hua, ← hub, canon_cls W.out, canon_cls W.out, canon_names W.out, canon_names W.out]
      exact ⟨fun h => ⟨h.2.2.1.symm, h.2.2.2⟩, fun h => ⟨ta, tb, h.1.symm, h.2⟩⟩
    have MM : t.alike (a : Int) (b : Int) = true → R = (0, if ua = ub then t else t.tie ua ub) := fun e => by
      rw [← HR.out]; unfold Tre.merge; rw [if_neg (by rw [e]; decide)]; rw [show (a : Int).toNat = a from rfl, show (b : Int).toNat = b from rfl, hua, hub]
    have ME : t.alike (a : Int) (b : Int) = false → R = (1, t) := fun e => by rw [← HR.out]; exact merge_err e
    have e1 : ((ua : Int) == -1) = false := by rw [beq_eq_false_iff_ne]; exact na
    have e2 : ((ub : Int) == -1) = false := by rw [beq_eq_false_iff_ne]; exact nb
    obtain ⟨hsrt, vL, vR, mb, D, hd, h⟩ := H2.out
    have HA := Lib.hid h
    have SRT := Lib.hid hsrt
    have c0 := h.c0
    obtain ⟨g, cL, rfl, hcap, gF, gl, gfr, hrow⟩ := h.row ubl
    obtain ⟨b0, b1, b2⟩ := hrow ub ubl
    obtain ⟨a0, a1, a2⟩ := hrow ua ual
    have SA := Lib.hid (show SlS W2 F (hd ua).at (t.sh ua).names from (h.names ua ual).imp fun b hb => hb.1)
    have SB := Lib.hid (show SlS W2 F (hd ub).at (t.sh ub).names from (h.names ub ubl).imp fun b hb => hb.1)
    have LT := Lib.hid h.lt
    have uai : (ua : Int) < t.L.length := by omega
    have ubi : (ub : Int) < t.L.length := by omega
    have Xl : X < W2.heap.size := X2.out.lt
    have pl : p < W2.heap.size := h.hp.lt
    obtain ⟨L, hL⟩ : ∃ L, W2.heap.size = L := ⟨_, rfl⟩
    have XL : X < L := by omega
    have pL : p < L := by omega
    have gL : g < L := by omega
    obtain ⟨W3, hW3⟩ : ∃ W3, (W2.alloc (.cells #[.int .i64 (t.sh ub).cls, .slice (hd ub).at (t.sh ub).names.length (hd ub).nc, .int .i64 (aliV (t.sh ub))] 65)).drew = W3 := ⟨_, rfl⟩
    have z2 := B2.out.size
    have B23 := Lib.hid (show Below W2.heap.size W2 W3 by rw [← hW3]; exact ((Below.refl _ W2).alloc (Nat.le_refl _) _).drew)
    have B3 := Lib.hid (B2.out.trans (B23.out.mono z2))
    have H3 := Lib.hid (h.keep fun b hb => B23.out.block b (LT.out b hb))
    have X3 := Lib.hid (X2.out.below B23.out Xl)
    have L3 := Lib.hid (show Bk W3 L #[.int .i64 (t.sh ub).cls, .slice (hd ub).at (t.sh ub).names.length (hd ub).nc, .int .i64 (aliV (t.sh ub))] 65 by rw [← hW3, ← hL]; exact Bk.new W2 _ _)
    have A3 := Lib.hid (show SlS W3.drew F (hd ua).at (t.sh ua).names from SA.out.keep fun b hb => ⟨hb, B23.out.block b (LT.out b hb)⟩)
    have S3 := Lib.hid (show SlS W3.drew F (hd ub).at (t.sh ub).names from SB.out.keep fun b hb => ⟨hb, B23.out.block b (LT.out b hb)⟩)
    have d0 := H3.out.c0
    have s0 := (B23.out.cell (p := ⟨g, ua * 3, none⟩) gl).trans a0
    have s1 := (B23.out.cell (p := ⟨g, ua * 3 + 1, none⟩) gl).trans a1
    have s2 := (B23.out.cell (p := ⟨g, ua * 3 + 2, none⟩) gl).trans a2
    have l0 := L3.out.cell 0 (.int .i64 (t.sh ub).cls) rfl
    have l1 := L3.out.cell 1 (.slice (hd ub).at (t.sh ub).names.length (hd ub).nc) rfl
    have z3 := B3.out.size
    have GF := Lib.hid gF
    obtain ⟨f, hf⟩ : ∃ f, decide (((t.sh ua).cls : Int) = (t.sh ub).cls ∧ (t.sh ua).names = (t.sh ub).names) = f := ⟨_, rfl⟩
    have HF := Lib.hid hf
    clear gF hf
    have n1 := H64.out ua
    have n2 := H64.out ub
    have AL := Lib.hid AL
    have MM := Lib.hid MM
    have ME := Lib.hid ME
    clear h hrow hbad ta tb hua hub na nb hsrt
    go_enter Tryz.func27, Tryz.ntmps27
    go_wp2_with fail
    go_region_law (first
      | (go_simp; go_at_call 16; (with_reducible refine CA.out.mono ?_); rintro e w' ⟨rfl, rfl⟩)
      | (go_simp; go_at_call 16; (with_reducible refine CB.out.mono ?_); rintro e w' ⟨rfl, rfl⟩))
    all_goals
      go_wp2_with fail
      go_region
      go_wp2_with fail
    all_goals
      go_region_held3 (fun w' => w'.cell? ⟨p, 0, none⟩ = some (.slice (some ⟨g, 0, none⟩) t.L.length cL) ∧ w'.cell? ⟨g, ua * 3, none⟩ = some (.int .i64 (t.sh ua).cls) ∧ w'.cell? ⟨g, ua * 3 + 1, none⟩ = some (.slice (hd ua).at (t.sh ua).names.length (hd ua).nc) ∧ w'.cell? ⟨g, ua * 3 + 2, none⟩ = some (.int .i64 (aliV (t.sh ua))) ∧ w'.cell? ⟨L, 0, none⟩ = some (.int .i64 (t.sh ub).cls) ∧ w'.cell? ⟨L, 1, none⟩ = some (.slice (hd ub).at (t.sh ub).names.length (hd ub).nc)) (first | exact ⟨d0, s0, s1, s2, l0, l1⟩ | exact ⟨e0, t0, t1, t2, m0, m1⟩) (
        (go_at_call 39
         (refine (is_any F F _ _ _ _ _ _ _ _ _ W3.drew A3.out S3.out (fun b hb => H3.out.lt b hb) (fun b hb => H3.out.lt b hb) (by omega) (by omega) f HF.out).mono ?_)
         rintro e w4 ⟨rfl, hb4⟩
         have B34 := Lib.hid (show Below W3.heap.size W3 w4 from ⟨hb4.os, hb4.tape, hb4.output, hb4.size, hb4.block⟩)
         have gl3 : g < W3.heap.size := H3.out.lt g GF.out
         have e0 := (B34.out.cell (p := ⟨p, 0, none⟩) H3.out.hp.lt).trans d0
         have t0 := (B34.out.cell (p := ⟨g, ua * 3, none⟩) gl3).trans s0
         have t1 := (B34.out.cell (p := ⟨g, ua * 3 + 1, none⟩) gl3).trans s1
         have t2 := (B34.out.cell (p := ⟨g, ua * 3 + 2, none⟩) gl3).trans s2
         have m0 := (B34.out.cell (p := ⟨L, 0, none⟩) L3.out.lt).trans l0
         have m1 := (B34.out.cell (p := ⟨L, 1, none⟩) L3.out.lt).trans l1
         clear hb4))
    all_goals
      cases f
      · have R1 := Lib.hid (show R = (1, t) from ME.out (by
          cases e : t.alike (a : Int) (b : Int)
          · rfl
          · have e1 := AL.out.1 e
            have e2 := of_decide_eq_false HF.out
            exact absurd ⟨by rw [e1.1], e1.2⟩ e2))
        have G := Lib.hid (CodeTo.low (v := .int .i64 1) ((H3.out.codeH SRT.out).below B34.out) (B3.out.trans (B34.out.mono z3)))
        go_wp2_with fail
        go_ret
        rw [R1.out]; exact G.out
      · have e3 := of_decide_eq_true HF.out
        have M := MM.out (AL.out.2 ⟨by have := e3.1; omega, e3.2⟩)
        clear e3
        have X4 := Lib.hid (X3.out.below B34.out X3.out.lt)
        have x4 := X4.out.cell 0 (.int .i64 (ub : Int)) rfl
        by_cases hc : ua = ub
        · subst hc
          rw [if_pos rfl] at M
          have M := Lib.hid M
          have e5 : ((ua : Int) == (ua : Int)) = true := beq_self_eq_true _
          have G := Lib.hid (CodeTo.low (v := .int .i64 0) ((H3.out.codeH SRT.out).below B34.out) (B3.out.trans (B34.out.mono z3)))
          clear HA H2 SRT MM ME AL W H64 HF LT
          go_wp2_with fail
          go_ret
          first | exact G.out | (rw [M.out]; exact G.out)
        · rw [if_neg hc] at M
          have M := Lib.hid M
          have e5 : ((ua : Int) == (ub : Int)) = false := by rw [beq_eq_false_iff_ne]; omega
          have H4 := Lib.hid (H3.out.keep fun b hb => B34.out.block b (H3.out.lt b hb))
          have fz : w4.frozen? ⟨g, ub * 3 + 2, none⟩ = false := by
            obtain ⟨g', c', hv, _, _, _, f4, _⟩ := H4.out.row ubl
            obtain ⟨rfl, _⟩ : g = g' ∧ cL = c' := by simpa using hv
            exact f4 _
          have z34 := B34.out.size
          have u2 : w4.cell? ⟨g, ub * 3 + 2, none⟩ = some (.int .i64 (aliV (t.sh ub))) := by
            obtain ⟨g', c', hv, _, _, _, _, r4⟩ := H4.out.row ubl
            obtain ⟨rfl, _⟩ : g = g' ∧ cL = c' := by simpa using hv
            exact (r4 ub ubl).2.2
          obtain ⟨w5, hw5⟩ : ∃ w5, w4.setCell ⟨g, ub * 3 + 2, none⟩ (.int .i64 (ua : Int)) = w5 := ⟨_, rfl⟩
          have N5 : ∀ b, b ≠ g → w5.heap[b]? = w4.heap[b]? := fun b hb => by rw [← hw5]; exact Below.heap_setCell w4 _ _ b hb
          obtain ⟨xl, ho, _⟩ := H4.out.rows
          have gm : g ≠ mb := fun e => map_ne_own ho H4.out.map (by rw [e]; rfl)
          have pg : p ≠ g := fun e => bk_ne ho H4.out.hp (by decide) (by rw [e]; rfl)
          have Xg : X ≠ g := fun e => XF.out (by rw [e]; exact GF.out)
          have Xm : X ≠ mb := fun e => XF.out (by rw [e]; exact H4.out.fM)
          have x5 : w5.cell? ⟨X, 0, none⟩ = some (.int .i64 (ub : Int)) := by rw [World.cell?_of_block (N5 X Xg)]; exact x4
          have p5 : w5.cell? ⟨p, 2, none⟩ = some (.map (some mb)) := by rw [World.cell?_of_block (N5 p pg)]; exact H4.out.c2
          have s5 : w5.heap.size = w4.heap.size := by rw [← hw5]; exact World.setCell_size _ _ _
          have m5 : w5.ownsMap Tryz.prog 77 (plainElem Tryz.prog 3) mb 65536 D := map_keep H4.out.map (N5 mb (fun e => gm e.symm))
          have Xl4 := X4.out.lt
          have Xl5 : X < w5.heap.size := by omega
          have CT := Lib.hid (delete_any w5.drew mb 65536 D m5 X (ub : Int) ⟨by omega, by omega⟩ x5 Xl5 Xm)
          have HW5 := Lib.hid hw5
          have B04 := Lib.hid (B3.out.trans (B34.out.mono z3))
          have z04 := B04.out.size
          clear m5 N5 ho gm pg Xg Xm hw5
          go_wp2_with fail
          go_region
          all_goals
            have w5e : (w4.setCell ⟨g, ub * 3 + 2, none⟩ (.int .i64 (ua : Int))) = w5 := HW5.out
            go_wp2_with fail
            refine CT.out.mono ?_
            rintro e w6 ⟨rfl, ⟨D1, m6, pt⟩, g6⟩
            have FIN := Lib.hid (show CodeTo w p F (t.tie ua ub) (.int .i64 0) (.returned (.int .i64 0)) w6 from
              ⟨F, rfl, (tieC_at H4.out ubl (by rw [w5e]; exact ⟨g6.os, g6.tape, g6.output, g6.size, g6.block⟩) m6 (part_cont ubl H4.out.cont pt)).codeH (srt_tie SRT.out ubl),
                (Chg.of_below B04.out).trans ((Chg.set w4 ⟨g, ub * 3 + 2, none⟩ (.int .i64 (ua : Int)) GF.out).trans (G := fun b => b = mb) ⟨by rw [w5e]; exact g6.os, by rw [w5e]; exact g6.tape, by rw [w5e]; exact g6.output, by rw [w5e]; exact g6.size, fun b hb hne => by rw [w5e] at hb ⊢; exact g6.block b hb (fun e => hne (by injection e))⟩ (fun x hx => by subst hx; exact .inl H4.out.fM)) (fun x hx => .inl hx), fun b hb => .inl hb⟩)
            clear m6 pt g6
            go_wp2_with fail
            go_ret
            first | exact FIN.out | (rw [M.out]; exact FIN.out)
end Go.Proofs.YtjodmjadpooipaaGreatDoor.Sh
