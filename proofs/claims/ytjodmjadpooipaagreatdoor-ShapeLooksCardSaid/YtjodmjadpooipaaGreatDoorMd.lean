/-
  lines: the rows of the text of a tree.
-/
import Derived.Test.YtjodmjadpooipaaGreatDoorMa
import Derived.Test.YtjodmjadpooipaaGreatDoorLa
namespace Go.Proofs.YtjodmjadpooipaaGreatDoor.Sh
open Go Go.RowKit Go.Shelf

attribute [local go_sem] Oper.semAt_some

/-- Behind some rounds of the first loop. -/
def LoopL (w : World) (X : Nat) (R : List (List ByteArray)) (W : World) : Prop := ∃ v gs cs, Bk W X #[v] 87 ∧ RowsAt W (X + 1) v R gs cs ∧ Below w.heap.size w W
theorem LoopL.next {w wr w7 w8 : World} {X Lb vc g c g8 c8 : Nat} {VA : Option Addr} {R : List (List ByteArray)} {r : List ByteArray} {gs cs : Nat → Nat} (hX : w.heap.size = X) (hL : wr.heap.size = Lb) (hXL : X < Lb) (bx : Bk wr X #[.slice VA R.length vc] 87) (rw : RowsAt wr (X + 1) (.slice VA R.length vc) R gs cs) (hb : Below w.heap.size w wr)
    (h7 : Below Lb wr w7) (o7 : OwnS w7 Lb (.slice (some ⟨g, 0, none⟩) r.length c) r) (h8 : (w7.alloc (.cells #[.slice (some ⟨g, 0, none⟩) r.length c] 41)).grownBy w8 (Value.slice VA R.length vc).ownBlock)
    (o8 : w8.ownsRow (X + 1) 41 1 (.slice (some ⟨g8, 0, none⟩) (R.length + 1) c8) (R.length + 1) ((List.range R.length).map (rowV R gs cs) ++ [.slice (some ⟨g, 0, none⟩) r.length c])) :
    LoopL w X (R ++ [r]) (w8.setCell ⟨X, 0, none⟩ (.slice (some ⟨g8, 0, none⟩) (R.length + 1) c8)) ∧ Bk w8 X #[.slice VA R.length vc] 87 := by
  have z7 := h7.size
  have hXv : (Value.slice VA R.length vc).ownBlock ≠ some X := fun e => by have := (rw.blkV X e).1; omega
  have h7a : Below Lb wr (w7.alloc (.cells #[.slice (some ⟨g, 0, none⟩) r.length c] 41)) := h7.alloc (by omega) _
  have b8 : Bk w8 X #[.slice VA R.length vc] 87 := by
    have h := bx.below h7a (by omega)
    unfold Bk at h ⊢
    rw [h8.block X (Array.getElem?_eq_some_iff.1 h).1 (fun e => hXv e.symm)]
    exact h
  have r7 : RowsAt (w7.alloc (.cells #[.slice (some ⟨g, 0, none⟩) r.length c] 41)) (X + 1) (.slice VA R.length vc) R gs cs := rw.below (hL ▸ h7a)
  have r8 := r7.push h8 o8 ((OwnS.below o7 ((Below.refl w7.heap.size w7).alloc (Nat.le_refl _) (.cells #[.slice (some ⟨g, 0, none⟩) r.length c] 41)) (Nat.le_refl _)).mono (by omega)) (fun s hs => by
    have h1 := (rw.blk hs).2
    have h2 := (o7.lt g rfl).1
    omega)
  have bb : Below w.heap.size w w8 := (hb.trans (h7a.mono (by omega))).grown h8 (by have := h7a.size; rw [World.size_alloc] at this ⊢; omega) (fun j e => by have := (rw.blkV j e).1; omega)
  refine ⟨⟨_, _, _, b8.set 0 _, r8.keep fun b hb' _ => Below.heap_setCell _ _ _ b (fun e => ?_), bb.setCell (p := ⟨X, 0, none⟩) (by rw [hX]; exact Nat.le_refl _) _⟩, b8⟩
  have e' : b = X := e
  omega
theorem cont_next {t : Tre} (hs : Srt t) {D : DataW Unit} {pre rest : List (Ky × Nat)} {x : Ky × Nat} (h : Cont D t) (hL : trs t t.L.length = pre ++ x :: rest) (hx : wfK x.1) :
    Maps.has D (kyL x.1) = true ∧ ∀ zd, D.atKey (kyL x.1) zd = .lit (.int .i64 (x.2 : Int)) := by
  have hm : lkC t x.1.1 x.1.2 = some x.2 := (trs_lk hs).1 (by rw [hL]; simp)
  obtain ⟨h1, h2⟩ := h x.1.1 x.1.2 hx.1 hx.2
  exact ⟨h1.trans (by rw [hm]; rfl), fun zd => h2 _ hm zd⟩
/-- Between two rounds of the second loop. -/
def LinesI (t : Tre) (w W6 : World) (X p Bt N : Nat) (VA : Option Addr) (vc : Nat) (pre : List (Ky × Nat)) (Y : World) : Prop :=
  ∃ gs cs, Bk Y X #[.slice VA N vc] 87 ∧ RowsAt Y (X + 1) (.slice VA N vc) (rowsP t pre) gs cs ∧ Below w.heap.size w Y ∧ Bk Y Bt #[.pointer (some ⟨p, 0, none⟩)] 25 ∧ W6.heap.size ≤ Y.heap.size
theorem LinesI.own (t : Tre) (w W6 : World) (X p Bt N : Nat) (VA : Option Addr) (vc : Nat) (B : Nat) (hB : w.heap.size ≤ B) : OwnFrom B (LinesI t w W6 X p Bt N VA vc) := fun pre Y Z row hs hg hr => by
  obtain ⟨gs, cs, b1, b2, b3, b4, b5⟩ := hs
  refine ⟨gs, cs, bk_ownB B X _ (fun (_ : Unit) => _) () Y Z row b1 hg hr, RowsAt.walked B _ _ _ _ _ () Y Z row b2 hg hr, b3.grown hg b3.size (fun j e => Nat.le_trans hB (hr j e).1), bk_ownB B Bt _ (fun (_ : Unit) => _) () Y Z row b4 hg hr, Nat.le_trans b5 hg.size⟩
theorem own_cells {w : World} {base : Nat} {e : TypeId} {size n b : Nat} {v : Value} {xs : List Value} (h : w.ownsRow base e size v n xs) (hb : v.ownBlock = some b) : ∃ cur, w.heap[b]? = some (.cells cur e (0, 0)) := by
  rcases h.2 with ⟨rfl, _⟩ | ⟨g, cap, cur, rfl, _, hg, _⟩
  · cases hb
  · injection hb with hb
    have hb : g = b := hb
    subst hb
    exact ⟨cur, hg⟩
theorem KTr.other {Y Z : World} {b : Nat} {cur : Array Value} {e : TypeId} (hg : Y.grownBy Z (some b)) (hc : Y.heap[b]? = some (.cells cur e (0, 0))) (he : e ≠ 77) : KTr Y Z :=
  KTr.grown hg fun r e2 cs fr h => by
    injection e2 with e2
    subst e2
    rw [hc] at h
    injection h with h
    injection h with _ h
    exact he h
theorem keeps_cells {Y Z : World} {b : Nat} {cur : Array Value} {e : TypeId} (hg : Y.grownBy Z (some b)) (hc : Y.heap[b]? = some (.cells cur e (0, 0))) : KeepsOthers Y Z :=
  KeepsOthers.of_grownBy hg fun j o e2 ho => by
    injection e2 with e2
    subst e2
    rw [hc] at ho
    injection ho with ho
    subst ho
    rfl
/-- Behind a round's body. -/
theorem LinesI.next {t : Tre} {w W6 Y y2 y3 : World} {X p Bt N G vc s g3 c3 : Nat} {pre : List (Ky × Nat)} {x : Ky × Nat} {gs cs : Nat → Nat} {r : List ByteArray} (hX : w.heap.size = X) (hN : t.L.length = N) (sl : s < t.L.length) (hw : w.heap.size ≤ Y.heap.size)
    (b1 : Bk Y X #[.slice (some ⟨G, 0, none⟩) N vc] 87) (b2 : RowsAt Y (X + 1) (.slice (some ⟨G, 0, none⟩) N vc) (rowsP t pre) gs cs) (b3 : Below w.heap.size w Y) (b4 : Bk Y Bt #[.pointer (some ⟨p, 0, none⟩)] 25) (b5 : W6.heap.size ≤ Y.heap.size)
    (d2 : Below Y.heap.size Y y2) (g23 : y2.grownBy y3 (some (gs s))) (o3 : OwnS y3 (X + 1) (.slice (some ⟨g3, 0, none⟩) r.length c3) r) (h3 : gs s = g3 ∨ g3 = y2.heap.size) (hr : rowsP t (pre ++ [x]) = (rowsP t pre).set s r) (B : Nat) :
    (KeepsFrom B Y (y3.setCell ⟨G, s, none⟩ (.slice (some ⟨g3, 0, none⟩) r.length c3)) ∧ KTr Y (y3.setCell ⟨G, s, none⟩ (.slice (some ⟨g3, 0, none⟩) r.length c3)) ∧
      LinesI t w W6 X p Bt N (some ⟨G, 0, none⟩) vc (pre ++ [x]) (y3.setCell ⟨G, s, none⟩ (.slice (some ⟨g3, 0, none⟩) r.length c3))) ∧ y3.frozen? ⟨G, s, none⟩ = false := by
  have sR : s < (rowsP t pre).length := by rw [rowsP_len]; exact sl
  have r2 := b2.below d2
  have gsB := b2.blk sR
  have GB := b2.blkV G rfl
  have Gne : G ≠ gs s := fun e => b2.ne sR (by rw [← e]; rfl)
  obtain ⟨cur, hcur⟩ := r2.strs sR
  have o2 := r2.row.kept g23 (.inr (r2.ne sR))
  obtain ⟨curG, hcurG⟩ := own_cells o2 (b := G) rfl
  have e42 : (rowsP t pre).length = N := by rw [rowsP_len, hN]
  have fz : y3.frozen? ⟨G, s, none⟩ = false := by rw [e42] at o2; exact World.ownsRow.frozenAt o2 s
  have hst : y3.grownBy (y3.setCell ⟨G, s, none⟩ (.slice (some ⟨g3, 0, none⟩) r.length c3)) (some G) := by rw [e42] at o2; exact (World.ownsRow.stored o2 s _).2
  have put := r2.put sR (by rw [e42]) g23 o3 h3
  rw [← hr] at put
  have z2 := d2.size
  have far : ∀ b, b < Y.heap.size → b ≠ gs s → b ≠ G → (y3.setCell ⟨G, s, none⟩ (.slice (some ⟨g3, 0, none⟩) r.length c3)).heap[b]? = Y.heap[b]? := fun b hb h1 h2 =>
    (Below.heap_setCell _ _ _ b (fun e => h2 e)).trans ((g23.block b (by omega) (fun e => h1 (by injection e))).trans (d2.block b hb))
  have stY := b2.strs sR
  refine ⟨⟨(((KeepsOthers.of_grownBy (below_grown d2) (fun _ _ e => by cases e)).trans (keeps_cells g23 hcur)).trans (keeps_cells hst hcurG)).from B,
    KTr.trans (KTr.grown (below_grown d2) (fun r e => by cases e)) (KTr.trans (KTr.other g23 hcur (by decide)) (KTr.other hst hcurG (by decide))),
    _, _, ?_, put, ((b3.trans (d2.mono (by omega))).grown g23 (by omega) (fun j e => by injection e with e; omega)).grown hst (by have := g23.size; omega) (fun j e => by injection e with e; omega), ?_, ?_⟩, fz⟩
  · unfold Bk
    rw [far X b1.lt (by omega) (by omega)]
    exact b1
  · unfold Bk
    rw [far Bt b4.lt (fun e => str_ne_bk b4 stY (by decide) e.symm) (fun e => bk_ne b2.row b4 (by decide) (by rw [e]; rfl))]
    exact b4
  · have h1 := g23.size
    have h2 := hst.size
    omega
theorem rowP_len {t : Tre} {pre : List (Ky × Nat)} {s n : Nat} (h64 : (t.sh s).names.length ≤ 200) (hn : pre.length ≤ n) : (rowP t pre s).length ≤ 204 + n := by
  unfold rowP row0
  have h1 : (tailW (t.sh s)).length ≤ 2 := by unfold tailW; split <;> simp
  have h2 := List.length_filter_le (fun x : Ky × Nat => x.1.1 = (s : Int)) pre
  simp only [List.length_append, List.length_map, List.length_cons, List.length_nil]
  omega
set_option maxRecDepth 100000 in
set_option maxHeartbeats 8000000 in
theorem code_lines (w : World) (p : Nat) (t : Tre) (F : Nat → Prop) (m : Nat) (h : CodeH w p t F) (hw : t.WF m) (hG : Pw w) (hN : 0 < t.L.length) (h64 : ∀ s, (t.sh s).names.length ≤ 200) (hsz : ∀ s, ∀ x ∈ (t.sh s).names, x.size ≤ 1) :
    Calls Tryz.prog 48 #[.pointer (some ⟨p, 0, none⟩)] w fun e w' => ∃ v gs cs, e = .returned v ∧ RowsAt w' (w.heap.size + 1) v (rowsT t) gs cs ∧ Below w.heap.size w w' := by
  have few := hw.few
  have W := Lib.hid hw
  have H64 := Lib.hid h64
  have HSZ := Lib.hid hsz
  have HG := Lib.hid hG
  have HH := Lib.hid h
  obtain ⟨X, hX⟩ : ∃ X, w.heap.size = X := ⟨_, rfl⟩
  obtain ⟨N, hNe⟩ : ∃ N, t.L.length = N := ⟨_, rfl⟩
  obtain ⟨hsrt, vL, vR, mb, D, hd, h⟩ := h
  have HA := Lib.hid h
  have SRT := Lib.hid hsrt
  have c0 := h.c0
  obtain ⟨g, cL, rfl, hcap, gF, gl, gfr, hrow⟩ := h.row hN
  have HROW := Lib.hid hrow
  have pl : p < X := by rw [← hX]; exact h.lt p h.fp
  rw [hNe] at few hN c0 hcap
  rw [hX] at gl
  obtain ⟨W0, hW0⟩ : ∃ W0, w.alloc (.cells #[.slice none 0 0] 87) = W0 := ⟨_, rfl⟩
  have B0 := Lib.hid (show Below X w W0 by rw [← hW0, ← hX]; exact (Below.refl _ w).alloc (Nat.le_refl _) _)
  have X0 := Lib.hid (show Bk W0 X #[.slice none 0 0] 87 by rw [← hW0, ← hX]; exact Bk.new w _ _)
  have c0 : W0.cell? ⟨p, 0, none⟩ = some (.slice (some ⟨g, 0, none⟩) N cL) := (B0.out.cell (p := ⟨p, 0, none⟩) pl).trans c0
  clear hw h64 hsz hG h hsrt hrow
  refine (callsIn_wide (n := 16)).1 ?_
  refine callsIn_of_wp_marks Tryz.func48 rfl trivial ?_ rfl
  simp only [Tryz.ntmps48, List.size_toArray, List.length_cons, List.length_nil, Nat.reduceAdd, Nat.reduceSub, Array.replicate_succ, Array.replicate_zero, List.push_toArray, List.append_toArray, List.nil_append, List.cons_append]
  refine calm_in (wpIn_wide.2 ?_)
  go_wp2_with fail
  go_loopw [14] (fun i wr => ∃ k : Nat, k ≤ N ∧ i = .int .i64 k ∧ Hid (LoopL w X ((rowsP t []).take k) wr)) (fun i _ => N - (intOf i).toNat)
  case atStart => exact ⟨0, by omega, rfl, Lib.hid ⟨_, fun _ => 0, fun _ => 0, X0.out, RowsAt.nil _ _ _ _, hX ▸ B0.out⟩⟩
  case round =>
    obtain ⟨k, hk, rfl, hl⟩ := hrel
    by_cases hlt : k < N
    · have hki : (k : Int) < N := by omega
      obtain ⟨RK, hRK⟩ : ∃ RK, (rowsP t []).take k = RK := ⟨_, rfl⟩
      rw [hRK] at hl
      have EK := Lib.hid hRK
      have RT := Lib.hid (show RK.length = k by rw [← hRK, List.length_take, rowsP_len]; omega)
      clear hRK
      obtain ⟨v, gs, cs, bx, rw, hb⟩ := hl.out
      obtain ⟨VA, vc, rfl⟩ := own_slice rw.row
      have BX := Lib.hid bx
      have RW := Lib.hid rw
      have HB := Lib.hid hb
      obtain ⟨r0, r1, r2⟩ := HROW.out k (by omega)
      have q0 : wr.cell? ⟨g, k * 3, none⟩ = some (.int .i64 (t.sh k).cls) := (hb.cell (p := ⟨g, k * 3, none⟩) (by rw [hX]; exact gl)).trans r0
      have q1 : wr.cell? ⟨g, k * 3 + 1, none⟩ = some (.slice (hd k).at (t.sh k).names.length (hd k).nc) := (hb.cell (p := ⟨g, k * 3 + 1, none⟩) (by rw [hX]; exact gl)).trans r1
      have q2 : wr.cell? ⟨g, k * 3 + 2, none⟩ = some (.int .i64 (aliV (t.sh k))) := (hb.cell (p := ⟨g, k * 3 + 2, none⟩) (by rw [hX]; exact gl)).trans r2
      clear r0 r1 r2 bx rw hb hl
      obtain ⟨Lb, hLb⟩ : ∃ Lb, wr.heap.size = Lb := ⟨_, rfl⟩
      obtain ⟨x, hx⟩ : ∃ x, t.sh k = x := ⟨_, rfl⟩
      rw [hx] at q0 q1 q2
      have xc : x.cls ≤ 200 := by have h1 := W.out.cl k (by omega); have h2 := m_few W.out; rw [hx] at h1; omega
      have xa : ∀ a, x.ali = some a → a ≤ 200 := fun a ha => by have h1 := (W.out.al k a (by rw [hx]; exact ha)).1; omega
      have xn : x.names.length ≤ 200 := by rw [← hx]; exact H64.out k
      have SN := Lib.hid (show SlS w F (hd k).at x.names by rw [← hx]; exact (HA.out.names k (by omega)).imp fun b hb => hb.1)
      have NZ := Lib.hid (show (hd k).at = none → (hd k).nc = 0 from fun e => HA.out.nils k (by omega) (by cases h : (hd k).nA with | none => rfl | some q => rw [Ld.at, h] at e; cases e))
      obtain ⟨W1, hW1⟩ : ∃ W1, wr.alloc (.cells #[.int .i64 x.cls, .slice (hd k).at x.names.length (hd k).nc, .int .i64 (aliV x)] 65) = W1 := ⟨_, rfl⟩
      have B1 := Lib.hid (show Below Lb wr W1 by rw [← hW1, ← hLb]; exact (Below.refl _ wr).alloc (Nat.le_refl _) _)
      have L1 := Lib.hid (show Bk W1 Lb #[.int .i64 x.cls, .slice (hd k).at x.names.length (hd k).nc, .int .i64 (aliV x)] 65 by rw [← hW1, ← hLb]; exact Bk.new wr _ _)
      have hmx : Tryz.prog.follows .mixedOrders = true := by kernel_rfl
      have S1 := Lib.hid (show W1.drew.cell? ⟨Lb, 0, none⟩ = some (.int .i64 x.cls) ∧ W1.drew.cell? ⟨Lb, 1, none⟩ = some (.slice (hd k).at x.names.length (hd k).nc) from ⟨L1.out.cell 0 _ rfl, L1.out.cell 1 _ rfl⟩)
      go_wp2_with fail
      refine region_plain (fun v => v.cell? ⟨Lb, 0, none⟩ = some (.int .i64 x.cls) ∧ v.cell? ⟨Lb, 1, none⟩ = some (.slice (hd k).at x.names.length (hd k).nc)) hmx ?_
      refine wpAnyH_take (i := 0) (v := ?_) rfl (by kernel_rfl) (by kernel_rfl) (by kernel_rfl) (fun _ _ _ h => h) (.inl ⟨by kernel_rfl, fun v hS => ?_⟩) S1.out ?_
      rotate_left
      · obtain ⟨h0, h1⟩ := hS
        go_simp
        with_reducible rfl
      refine wpAnyH_take (i := 2) (v := ?_) rfl (by kernel_rfl) (by kernel_rfl) (by kernel_rfl) (fun _ _ _ h => h) (.inl ⟨by kernel_rfl, fun v hS => ?_⟩) S1.out ?_
      rotate_left
      · obtain ⟨h0, h1⟩ := hS
        go_simp
        with_reducible rfl
      refine wpAnyH_take (i := 3) (v := ?_) rfl (by kernel_rfl) (by kernel_rfl) (by kernel_rfl) (fun _ _ _ h => h) (.inl ⟨by kernel_rfl, fun v hS => ?_⟩) S1.out ?_
      rotate_left
      · obtain ⟨h0, h1⟩ := hS
        go_simp
        with_reducible rfl
      refine wpAnyH_take (i := 6) (v := ?_) rfl (by kernel_rfl) (by kernel_rfl) (by kernel_rfl) (fun _ _ _ h => h) (.inl ⟨by kernel_rfl, fun v hS => ?_⟩) S1.out ?_
      rotate_left
      · obtain ⟨h0, h1⟩ := hS
        go_simp
        with_reducible rfl
      refine wpAnyH_take (i := 7) (v := ?_) rfl (by kernel_rfl) (by kernel_rfl) (by kernel_rfl) (fun _ _ _ h => h) (.inl ⟨by kernel_rfl, fun v hS => ?_⟩) S1.out ?_
      rotate_left
      · obtain ⟨h0, h1⟩ := hS
        go_simp
        with_reducible rfl
      have zwr := HB.out.size
      obtain ⟨i0, hi0, hz0, hz1, hz2⟩ := info_parts infoS
      obtain ⟨j0, hj0, hy0, hy1, hy2⟩ := info_parts infoSS
      have xlt := BX.out.lt
      have LB := Lib.hid (show ∀ Y : World, Below Lb wr Y → Below w.heap.size w Y from fun Y hy => HB.out.trans (hy.mono (by omega)))
      have bW1 := B1.out.size
      have LT1 := Lib.hid (show Lb < W1.heap.size from L1.out.lt)
      refine one_ready 1 rfl (by kernel_rfl) (by kernel_rfl) ?_
      go_simp
      refine (itoa_c k (by omega) W1.drew (HG.out.below (LB.out _ B1.out).drew)).mono ?_
      rintro e w2 ⟨rfl, b2⟩
      have B2 := Lib.hid (show Below Lb wr w2 from B1.out.drew.trans (b2.mono (by show Lb ≤ W1.heap.size; omega)))
      have L2 := Lib.hid (show Bk w2 Lb #[.int .i64 x.cls, .slice (hd k).at x.names.length (hd k).nc, .int .i64 (aliV x)] 65 from (show Bk W1.drew Lb _ _ from L1.out).below b2 LT1.out)
      clear b2
      refine ⟨⟨L2.out.cell 0 _ rfl, L2.out.cell 1 _ rfl⟩, ?_⟩
      refine one_ready 4 rfl (by kernel_rfl) (by kernel_rfl) ?_
      go_simp
      refine (itoa_c x.cls (by omega) w2 (HG.out.below (LB.out _ B2.out))).mono ?_
      rintro e w3 ⟨rfl, b3⟩
      have B3 := Lib.hid (B2.out.trans (b3.mono (by have := B2.out.size; omega)))
      have L3 := Lib.hid (show Bk w3 Lb #[.int .i64 x.cls, .slice (hd k).at x.names.length (hd k).nc, .int .i64 (aliV x)] 65 from L2.out.below b3 L2.out.lt)
      clear b3
      refine ⟨⟨L3.out.cell 0 _ rfl, L3.out.cell 1 _ rfl⟩, ?_⟩
      obtain ⟨W4, hW4⟩ : ∃ W4, w3.alloc (.cells #[.string (numB k), .string (numB x.cls)] 9) = W4 := ⟨_, rfl⟩
      have z3 := B3.out.size
      have B4 := Lib.hid (show Below Lb wr W4 by rw [← hW4]; exact B3.out.alloc (by omega) _)
      have L4 := Lib.hid (show Bk W4 Lb #[.int .i64 x.cls, .slice (hd k).at x.names.length (hd k).nc, .int .i64 (aliV x)] 65 by rw [← hW4]; exact L3.out.alloc _)
      have O4 := Lib.hid (show OwnS W4 Lb (.slice (some ⟨w3.heap.size, 0, none⟩) 2 2) [numB k, numB x.cls] by rw [← hW4]; exact World.ownsRow_lit w3 #[.string (numB k), .string (numB x.cls)] 2 (by omega) (by unfold maxLen; omega) rfl)
      refine one_ready 5 rfl (by kernel_rfl) (by kernel_rfl) ?_
      go_simp
      refine ⟨⟨L4.out.cell 0 _ rfl, L4.out.cell 1 _ rfl⟩, ?_⟩
      refine one_ready 8 rfl (by kernel_rfl) (by kernel_rfl) ?_
      refine wp_append_names _ _ rfl Lb (.slice (some ⟨w3.heap.size, 0, none⟩) 2 2) [numB k, numB x.cls] x.names rfl O4.out (fun b => b < w.heap.size) (hd k).at (hd k).nc rfl (SN.out.keep fun b hb => ⟨HA.out.lt b hb, (LB.out _ B4.out).block b (HA.out.lt b hb)⟩) NZ.out (by simp; omega) (by have := B4.out.size; omega) (by simp) ?_
      intro g5 c5 w5 o5 g45 hg5
      obtain ⟨r1, hr1⟩ : ∃ r1, [numB k, numB x.cls] ++ x.names = r1 := ⟨_, rfl⟩
      rw [hr1] at o5 ⊢
      have R1L := Lib.hid (show r1.length = x.names.length + 2 by rw [← hr1]; simp)
      have B5 := Lib.hid (B4.out.grown g45 (by have := B4.out.size; omega) (fun j e => by injection e with e; have e : w3.heap.size = j := e; omega))
      have L5 := Lib.hid (show Bk w5 Lb #[.int .i64 x.cls, .slice (hd k).at x.names.length (hd k).nc, .int .i64 (aliV x)] 65 from (g45.block Lb L4.out.lt (fun e => by injection e with e; have e : Lb = w3.heap.size := e; have := L3.out.lt; omega)).trans L4.out)
      have O5 := Lib.hid o5
      clear o5 g45 hg5
      refine ⟨⟨L5.out.cell 0 _ rfl, L5.out.cell 1 _ rfl⟩, ?_⟩
      refine one_ready 9 rfl (by kernel_rfl) (by kernel_rfl) ?_
      go_simp
      refine ⟨⟨L5.out.cell 0 _ rfl, L5.out.cell 1 _ rfl⟩, rfl, ?_⟩
      have y2 := L5.out.cell 2 _ rfl
      cases ha : x.ali with
      | none =>
        have ea : aliV x = -1 := by unfold aliV; rw [ha]
        rw [ea] at y2
        go_wp2_with (at_builtin; refine wpList_append_lies _ rfl _ _ 41 rfl Lb 9 i0 (.string ⟨#[]⟩) 1 16 Tryz.underlying41 hi0 hz0 hz1 hz2 rfl (by decide) (.slice (some ⟨g5, 0, none⟩) r1.length c5) r1.length _ rfl (World.ownsRow.alloc O5.out _) ⟨w5.heap.size, 0, none⟩ 1 1 [.string (bsL [62])] rfl rfl (World.news_of_block (cs := #[.string (bsL [62])]) (t := 9) (fr := (0, 0)) (heap_alloc_new w5 _)) (by simp [Value.oneCell']) (by omega) (by have := R1L.out; unfold maxLen; omega) (by have := R1L.out; omega) (by have := B5.out.size; simp; omega) (w5.heap.size + 1) (by simp) ?_)
        obtain ⟨r, hr⟩ : ∃ r, r1 ++ [bsL [62]] = r := ⟨_, rfl⟩
        have hl : r1.length + 1 = r.length := by rw [← hr]; simp
        have RL := Lib.hid (show r.length = x.names.length + 2 + 1 by rw [← hl, R1L.out])
        intro g7 c7 w7 o7 g57 h7 h7l
        rw [hl] at o7 ⊢
        have B7 := Lib.hid (((B5.out.alloc (by have := B5.out.size; omega) _ : Below Lb wr (w5.alloc _)).grown g57 (by have := B5.out.size; simp; omega) (fun j e => by injection e with e; have e : g5 = j := e; have := (O5.out.lt g5 rfl).1; omega)))
        have O7 := Lib.hid (show OwnS w7 Lb (.slice (some ⟨g7, 0, none⟩) r.length c7) r by
          unfold OwnS
          rw [← hr, List.map_append]
          rw [← hr] at o7
          exact o7)
        have XB := Lib.hid (show Bk w7 X #[.slice VA RK.length vc] 87 from BX.out.below B7.out (by omega))
        have x0 := XB.out.cell 0 _ rfl
        have NX := Lib.hid (show (rowsP t []).take (k + 1) = RK ++ [r] by
          rw [List.take_succ_eq_append_getElem (by rw [rowsP_len]; omega), EK.out]
          congr 2
          have h1 := rowsP_at t [] (show k < t.L.length by omega)
          rw [List.getElem?_eq_getElem (by rw [rowsP_len]; omega)] at h1
          injection h1 with h1
          rw [h1, rowP_nil, ← hr, ← hr1]
          unfold row0 tailW
          rw [hx, ha])
        clear o7 g57 h7 h7l hl
        go_wp2_with (at_builtin; refine wpList_append_lies _ rfl _ _ 87 rfl (X + 1) 41 j0 (.slice none 0 0) 1 24 Tryz.underlying87 hj0 hy0 hy1 hy2 rfl (by decide) (.slice VA RK.length vc) RK.length _ rfl (own_keep RW.out.row fun b hb => ((B7.out.alloc (by have := B7.out.size; omega) _).block b (by have := (RW.out.blkV b hb).2; omega))) ⟨w7.heap.size, 0, none⟩ 1 1 [.slice (some ⟨g7, 0, none⟩) r.length c7] rfl rfl (World.news_of_block (cs := #[.slice (some ⟨g7, 0, none⟩) r.length c7]) (t := 41) (fr := (0, 0)) (heap_alloc_new w7 _)) (by simp [Value.oneCell']) (by omega) (by have := RT.out; unfold maxLen; omega) (by have := RT.out; omega) (by have := B7.out.size; simp; omega) (w7.heap.size + 1) (by simp) ?_)
        intro g8 c8 w8 o8 g78 h8 h8l
        obtain ⟨fin, xb8⟩ := LoopL.next hX hLb (by omega) BX.out RW.out HB.out B7.out O7.out g78 o8
        rw [← NX.out] at fin
        have FIN := Lib.hid fin
        have x8 := xb8.cell 0 _ rfl
        have xf8 := xb8.frozen 0
        clear o8 g78 h8 h8l fin xb8
        go_wp2_with fail
        go_roundw
        case rel => exact ⟨k + 1, by omega, by go_num, FIN⟩
        case measure => simp [intOf]; omega
      | some a =>
        have ea : aliV x = a := by unfold aliV; rw [ha]
        have eb : ((a : Int) == -1) = false := by rw [beq_eq_false_iff_ne]; omega
        have al := xa a ha
        rw [ea] at y2
        go_wp2_with fail
        refine (itoa_c a (by omega) w5 (HG.out.below (LB.out _ B5.out))).mono ?_
        rintro e w6 ⟨rfl, b6⟩
        have B6 := Lib.hid (B5.out.trans (b6.mono (by have := B5.out.size; omega)))
        have O6 := Lib.hid (OwnS.below O5.out b6 (Nat.le_refl _))
        clear b6
        go_wp2_with (at_builtin; refine wpList_append_lies _ rfl _ _ 41 rfl Lb 9 i0 (.string ⟨#[]⟩) 1 16 Tryz.underlying41 hi0 hz0 hz1 hz2 rfl (by decide) (.slice (some ⟨g5, 0, none⟩) r1.length c5) r1.length _ rfl (World.ownsRow.alloc O6.out _) ⟨w6.heap.size, 0, none⟩ 2 2 [.string (bsL [61]), .string (numB a)] rfl rfl (World.news_of_block (cs := #[.string (bsL [61]), .string (numB a)]) (t := 9) (fr := (0, 0)) (heap_alloc_new w6 _)) (by simp [Value.oneCell']) (by omega) (by have := R1L.out; unfold maxLen; omega) (by have := R1L.out; omega) (by have := B6.out.size; simp; omega) (w6.heap.size + 1) (by simp) ?_)
        obtain ⟨r, hr⟩ : ∃ r, r1 ++ [bsL [61], numB a] = r := ⟨_, rfl⟩
        have hl : r1.length + 2 = r.length := by rw [← hr]; simp
        have RL := Lib.hid (show r.length = x.names.length + 2 + 2 by rw [← hl, R1L.out])
        intro g7 c7 w7 o7 g57 h7 h7l
        rw [hl] at o7 ⊢
        have B7 := Lib.hid (((B6.out.alloc (by have := B6.out.size; omega) _ : Below Lb wr (w6.alloc _)).grown g57 (by have := B6.out.size; simp; omega) (fun j e => by injection e with e; have e : g5 = j := e; have := (O6.out.lt g5 rfl).1; omega)))
        have O7 := Lib.hid (show OwnS w7 Lb (.slice (some ⟨g7, 0, none⟩) r.length c7) r by
          unfold OwnS
          rw [← hr, List.map_append]
          rw [← hr] at o7
          exact o7)
        have XB := Lib.hid (show Bk w7 X #[.slice VA RK.length vc] 87 from BX.out.below B7.out (by omega))
        have x0 := XB.out.cell 0 _ rfl
        have NX := Lib.hid (show (rowsP t []).take (k + 1) = RK ++ [r] by
          rw [List.take_succ_eq_append_getElem (by rw [rowsP_len]; omega), EK.out]
          congr 2
          have h1 := rowsP_at t [] (show k < t.L.length by omega)
          rw [List.getElem?_eq_getElem (by rw [rowsP_len]; omega)] at h1
          injection h1 with h1
          rw [h1, rowP_nil, ← hr, ← hr1]
          unfold row0 tailW
          rw [hx, ha])
        clear o7 g57 h7 h7l hl
        go_wp2_with (at_builtin; refine wpList_append_lies _ rfl _ _ 87 rfl (X + 1) 41 j0 (.slice none 0 0) 1 24 Tryz.underlying87 hj0 hy0 hy1 hy2 rfl (by decide) (.slice VA RK.length vc) RK.length _ rfl (own_keep RW.out.row fun b hb => ((B7.out.alloc (by have := B7.out.size; omega) _).block b (by have := (RW.out.blkV b hb).2; omega))) ⟨w7.heap.size, 0, none⟩ 1 1 [.slice (some ⟨g7, 0, none⟩) r.length c7] rfl rfl (World.news_of_block (cs := #[.slice (some ⟨g7, 0, none⟩) r.length c7]) (t := 41) (fr := (0, 0)) (heap_alloc_new w7 _)) (by simp [Value.oneCell']) (by omega) (by have := RT.out; unfold maxLen; omega) (by have := RT.out; omega) (by have := B7.out.size; simp; omega) (w7.heap.size + 1) (by simp) ?_)
        intro g8 c8 w8 o8 g78 h8 h8l
        obtain ⟨fin, xb8⟩ := LoopL.next hX hLb (by omega) BX.out RW.out HB.out B7.out O7.out g78 o8
        rw [← NX.out] at fin
        have FIN := Lib.hid fin
        have x8 := xb8.cell 0 _ rfl
        have xf8 := xb8.frozen 0
        clear o8 g78 h8 h8l fin xb8
        go_wp2_with fail
        go_roundw
        case rel => exact ⟨k + 1, by omega, by go_num, FIN⟩
        case measure => simp [intOf]; omega
    · obtain rfl : N = k := by omega
      have HL0 := Lib.hid (show LoopL w X (rowsP t []) wr by have := hl.out; rwa [List.take_of_length_le (by rw [rowsP_len]; omega)] at this)
      clear hl
      obtain ⟨v0, gs0, cs0, bx, rw0, hb⟩ := HL0.out
      obtain ⟨VA, vc, rfl⟩ := own_slice rw0.row
      have RN := Lib.hid (show (rowsP t []).length = N by rw [rowsP_len, hNe])
      rw [RN.out] at bx rw0
      have xlt := bx.lt
      obtain ⟨L, hL⟩ : ∃ L, trs t t.L.length = L := ⟨_, rfl⟩
      have fewL : L.length ≤ 65536 := by
        have h1 := trs_len (fun s => Nat.le_trans (SRT.out.lim s) (show t.L.length ≤ 200 by omega)) t.L.length
        rw [hL] at h1
        omega
      have HL := Lib.hid hL
      have LK := Lib.hid (show ∀ s q, q ∈ (t.sh s).links → q.1.size ≤ 1 from fun s q hq => HSZ.out q.2 q.1 (by rw [(W.out.li s q hq).2.2]; simp))
      have WFK := Lib.hid (trs_wf (t := t) (n := t.L.length) (by omega) (fun s q hq => by have := LK.out s q hq; unfold maxLen; omega))
      obtain ⟨Bt, hBt⟩ : ∃ Bt, wr.heap.size = Bt := ⟨_, rfl⟩
      obtain ⟨W6, hW6⟩ : ∃ W6, wr.alloc (.cells #[.pointer (some ⟨p, 0, none⟩)] 25) = W6 := ⟨_, rfl⟩
      have z6 : W6.heap.size = Bt + 1 := by rw [← hW6, World.size_alloc, hBt]
      have B6 : Below wr.heap.size wr W6 := by rw [← hW6]; exact (Below.refl _ wr).alloc (Nat.le_refl _) _
      have BT6 := Lib.hid (show Bk W6 Bt #[.pointer (some ⟨p, 0, none⟩)] 25 by rw [← hW6, ← hBt]; exact Bk.new wr _ _)
      have BX6 := Lib.hid (show Bk W6 X #[.slice VA N vc] 87 from bx.below B6 xlt)
      have RW6 := Lib.hid (rw0.below B6)
      have HB6 := Lib.hid (show Below w.heap.size w W6 from hb.trans (B6.mono hb.size))
      have zX := hb.size
      clear bx rw0 hb c0 hL B6
      go_wp2_with fail
      refine (transitions_any _ _).mono ?_
      rintro e w' ⟨rfl, rfl⟩
      go_wp2_with fail
      refine (wpIn_wide (n := 16)).1 ?_
      refine wp_rangeRel rfl (by omega) (gf := 56) (lb := #[.pointer (some ⟨Bt, 0, none⟩)]) rfl trivial (enters_of Tryz.func56 (by kernel_rfl) rfl)
        (transitions1_seq 15 (by omega) t L HL.out SRT.out WFK.out fewL p mb Bt W6) KTr.trans KTr.put (Below.refl _ _) (fun _ => rfl)
        (LinesI t w W6 X p Bt N VA vc) (LinesI.own t w W6 X p Bt N VA vc _ (by omega)) ?rel ?start
        (fun x a' Y => ∃ Bx, W6.heap.size ≤ Bx ∧ Bk Y Bx #[.int .i64 x.1.1, .string x.1.2] 77 ∧ a' = { tmps := #[.pointer (some ⟨p, 0, none⟩), undef, .slice none 0 0, .pointer (some ⟨X, 0, none⟩), u4, u5, u6, .pointer (some ⟨Bx, 0, none⟩), .int .i64 (x.2 : Int), .pointer (some ⟨p, 0, none⟩), .pointer (some ⟨p, 0, none⟩), .pointer (some ⟨p, 0, none⟩), .slice (some ⟨g, 0, none⟩) N cL, .int .i64 (N : Int), .int .i64 (N : Int), .bool false, u16, u17, u18, u19, u20, u21, u22, u23, u24, u25, u26, u27, u28, u29, u30, u31, u32, u33, u34, u35, u36, u37, u38, u39, u40, u41, u42, u43, u44, .pointer (some ⟨p, 0, none⟩), .func (.func 56) #[] #[.pointer (some ⟨Bt, 0, none⟩)], keyV x.1.1 x.1.2, .int .i64 (x.2 : Int), undef, undef, undef, undef, undef, undef, undef, undef, undef, undef, undef, undef, undef, undef, undef, undef, undef, undef], defers := [] })
        (fun x a' => ?ax)
        ?assign ?body ?done
      case rel =>
        intro pre Y hi
        obtain ⟨gs, cs, b1, b2, b3, b4, b5⟩ := hi
        refine ⟨b4, (b3.cell (p := ⟨p, 2, none⟩) (HA.out.lt p HA.out.fp)).trans HA.out.c2, Nat.lt_of_lt_of_le (HA.out.lt p HA.out.fp) b3.size, D, map_keep HA.out.map (b3.block mb (HA.out.lt mb HA.out.fM)), fun _ => HA.out.cont, fun x rest hx => cont_next SRT.out HA.out.cont (HL.out.trans hx) (WFK.out _ ?_)⟩
        rw [HL.out, hx]
        simp
      case start => exact ⟨gs0, cs0, BX6.out, RW6.out, HB6.out, BT6.out, Nat.le_refl _⟩
      case ax =>
        intro s Y Z row hs hg hr
        obtain ⟨Bx, h1, h2, h3⟩ := hs
        exact ⟨Bx, h1, bk_ownB W6.heap.size Bx _ (fun (_ : Unit) => _) () Y Z row h2 hg hr, h3⟩
      case assign =>
        intro l pre x Y K hi hx hK
        have z : W6.heap.size ≤ Y.heap.size := by obtain ⟨_, _, _, _, _, _, z⟩ := hi; exact z
        have hi2 := LinesI.own t w W6 X p Bt N VA vc W6.heap.size (by omega) pre Y _ none hi (World.grownBy_alloc Y (.cells #[.int .i64 x.1.1, .string x.1.2] 77) none) (by simp)
        have hK2 := Lib.hid (fun a' => hK a' _ ((KeepsOthers.alloc _ _).from _) (KTr.grown (World.grownBy_alloc Y (.cells #[.int .i64 x.1.1, .string x.1.2] 77) none) (by simp)) hi2)
        have bx := Bk.new Y #[.int .i64 x.1.1, .string x.1.2] 77
        clear hK hi hi2
        dsimp only [encT, keyV]
        gi_wp2
        exact hK2.out _ ⟨Y.heap.size, by omega, bx, rfl⟩
      case body =>
        intro l pre x a' Y hi hax hx
        obtain ⟨gs, cs, bx, rw1, hb, bt, z⟩ := hi
        obtain ⟨Bx, hBx, bX, rfl⟩ := hax
        have hmx : Tryz.prog.follows .mixedOrders = true := by kernel_rfl
        have xm : x ∈ L := hx.subset (by simp)
        obtain ⟨s, sl, es, sn, sm⟩ := trs_mem.1 (show (x.1, x.2) ∈ trs t t.L.length by rw [HL.out]; exact xm)
        have pf : pre.length ≤ 65536 := by have := hx.length_le; simp at this; omega
        obtain ⟨⟨f, nm⟩, to⟩ := x
        dsimp only at es sm bX ⊢
        subst es
        have tl := (W.out.li s _ sm).1
        have ns : nm.size ≤ 1 := LK.out s _ sm
        have nu := numB_size to (by omega)
        have hn1 : ¬ 9223372036854775807 < nm.size + 1 := by omega
        have hn2 : ¬ 9223372036854775807 < nm.size + 1 + (numB to).size := by omega
        obtain ⟨G, c, hv, gr, gfz, gB, gl⟩ := rw1.at (s := s) (by rw [rowsP_len]; exact sl)
        rw [rowsP_len, hNe] at hv
        injection hv with hv1 _ hv2
        subst hv1 hv2
        obtain ⟨RV, hRV⟩ : ∃ RV, rowP t pre s = RV := ⟨_, rfl⟩
        have eRV : (rowsP t pre).getD s [] = RV := by rw [List.getD_eq_getElem?_getD, rowsP_at t pre sl, Option.getD_some, hRV]
        unfold rowV at gr
        rw [eRV] at gr
        have RVL := Lib.hid (show RV.length ≤ 65800 by rw [← hRV]; have := rowP_len (t := t) (s := s) (H64.out s) pf; omega)
        have RVN := Lib.hid (show rowP t (pre ++ [((↑s, nm), to)]) s = RV ++ [linkS (nm, to)] by rw [← hRV]; exact rowP_next t pre _ s rfl)
        have RSN := Lib.hid (show rowsP t (pre ++ [((↑s, nm), to)]) = (rowsP t pre).set s (RV ++ [linkS (nm, to)]) by rw [← hRV]; exact rowsP_next t pre _ s rfl)
        have OR := Lib.hid (show OwnS Y (X + 1) (.slice (some ⟨gs s, 0, none⟩) RV.length (cs s)) RV by
          have h := rw1.own s (by rw [rowsP_len]; exact sl)
          unfold rowV at h
          rw [eRV] at h
          exact h)
        have ST := Lib.hid (rw1.strs (s := s) (by rw [rowsP_len]; exact sl))
        have BXR := Lib.hid bx
        have RW1 := Lib.hid rw1
        have HB := Lib.hid hb
        have BT := Lib.hid bt
        have x0 := bx.cell 0 _ rfl
        have k0 := bX.cell 0 (.int .i64 (s : Int)) rfl
        have k1 := bX.cell 1 (.string nm) rfl
        have sl' : (s : Int) < N := by omega
        have BXX := Lib.hid bX
        have xlt2 := bx.lt
        have S1 := Lib.hid (show Y.drew.cell? ⟨X, 0, none⟩ = some (.slice (some ⟨G, 0, none⟩) N vc) ∧ Y.drew.cell? ⟨Bx, 0, none⟩ = some (.int .i64 (s : Int)) ∧ Y.drew.cell? ⟨Bx, 1, none⟩ = some (.string nm) ∧ Y.drew.cell? ⟨G, s, none⟩ = some (.slice (some ⟨gs s, 0, none⟩) RV.length (cs s)) from ⟨x0, k0, k1, gr⟩)
        clear bx rw1 hb bt bX x0 k0 k1 gr hRV eRV hx sm xm sn
        unfold keyV
        gi_wp2
        refine region_roundE (fun v => v.cell? ⟨X, 0, none⟩ = some (.slice (some ⟨G, 0, none⟩) N vc) ∧ v.cell? ⟨Bx, 0, none⟩ = some (.int .i64 (s : Int)) ∧ v.cell? ⟨Bx, 1, none⟩ = some (.string nm) ∧ v.cell? ⟨G, s, none⟩ = some (.slice (some ⟨gs s, 0, none⟩) RV.length (cs s))) 17 hmx ?hd ?hQ ?_
        case hd =>
          intro i o hi c hc
          have := List.mem_of_getElem? (by simpa using hi)
          simp only [List.mem_cons, List.not_mem_nil, or_false] at this
          rcases this with rfl | rfl | rfl | rfl | rfl | rfl | rfl | rfl | rfl | rfl | rfl | rfl | rfl | rfl | rfl | rfl | rfl | rfl <;> cases hc
        case hQ => rintro ⟨_, _, h⟩; exact h
        refine anyBut_take (i := 0) (u := ?_) rfl (by kernel_rfl) (by kernel_rfl) (by kernel_rfl) (by kernel_rfl) (fun _ _ _ h => h) (.inl ⟨by kernel_rfl, fun v hS => ?_⟩) S1.out ?_
        rotate_left
        · obtain ⟨h0, h1, h2, h3⟩ := hS
          go_simp
          with_reducible rfl
        refine anyBut_take (i := 1) (u := ?_) rfl (by kernel_rfl) (by kernel_rfl) (by kernel_rfl) (by kernel_rfl) (fun _ _ _ h => h) (.inl ⟨by kernel_rfl, fun v hS => ?_⟩) S1.out ?_
        rotate_left
        · obtain ⟨h0, h1, h2, h3⟩ := hS
          go_simp
          with_reducible rfl
        refine anyBut_take (i := 2) (u := ?_) rfl (by kernel_rfl) (by kernel_rfl) (by kernel_rfl) (by kernel_rfl) (fun _ _ _ h => h) (.inl ⟨by kernel_rfl, fun v hS => ?_⟩) S1.out ?_
        rotate_left
        · obtain ⟨h0, h1, h2, h3⟩ := hS
          go_simp
          with_reducible rfl
        refine anyBut_take (i := 3) (u := ?_) rfl (by kernel_rfl) (by kernel_rfl) (by kernel_rfl) (by kernel_rfl) (fun _ _ _ h => h) (.inl ⟨by kernel_rfl, fun v hS => ?_⟩) S1.out ?_
        rotate_left
        · obtain ⟨h0, h1, h2, h3⟩ := hS
          go_simp
          with_reducible rfl
        refine anyBut_take (i := 4) (u := ?_) rfl (by kernel_rfl) (by kernel_rfl) (by kernel_rfl) (by kernel_rfl) (fun _ _ _ h => h) (.inl ⟨by kernel_rfl, fun v hS => ?_⟩) S1.out ?_
        rotate_left
        · obtain ⟨h0, h1, h2, h3⟩ := hS
          go_simp
          with_reducible rfl
        refine anyBut_take (i := 5) (u := ?_) rfl (by kernel_rfl) (by kernel_rfl) (by kernel_rfl) (by kernel_rfl) (fun _ _ _ h => h) (.inl ⟨by kernel_rfl, fun v hS => ?_⟩) S1.out ?_
        rotate_left
        · obtain ⟨h0, h1, h2, h3⟩ := hS
          go_simp
          with_reducible rfl
        refine anyBut_take (i := 6) (u := ?_) rfl (by kernel_rfl) (by kernel_rfl) (by kernel_rfl) (by kernel_rfl) (fun _ _ _ h => h) (.inl ⟨by kernel_rfl, fun v hS => ?_⟩) S1.out ?_
        rotate_left
        · obtain ⟨h0, h1, h2, h3⟩ := hS
          go_simp
          with_reducible rfl
        refine anyBut_take (i := 7) (u := ?_) rfl (by kernel_rfl) (by kernel_rfl) (by kernel_rfl) (by kernel_rfl) (fun _ _ _ h => h) (.inl ⟨by kernel_rfl, fun v hS => ?_⟩) S1.out ?_
        rotate_left
        · obtain ⟨h0, h1, h2, h3⟩ := hS
          go_simp
          with_reducible rfl
        refine anyBut_take (i := 8) (u := ?_) rfl (by kernel_rfl) (by kernel_rfl) (by kernel_rfl) (by kernel_rfl) (fun _ _ _ h => h) (.inl ⟨by kernel_rfl, fun v hS => ?_⟩) S1.out ?_
        rotate_left
        · obtain ⟨h0, h1, h2, h3⟩ := hS
          go_simp
          with_reducible rfl
        refine anyBut_take (i := 9) (u := ?_) rfl (by kernel_rfl) (by kernel_rfl) (by kernel_rfl) (by kernel_rfl) (fun _ _ _ h => h) (.inl ⟨by kernel_rfl, fun v hS => ?_⟩) S1.out ?_
        rotate_left
        · obtain ⟨h0, h1, h2, h3⟩ := hS
          go_simp
          with_reducible rfl
        refine anyBut_take (i := 11) (u := ?_) rfl (by kernel_rfl) (by kernel_rfl) (by kernel_rfl) (by kernel_rfl) (fun _ _ _ h => h) (.inl ⟨by kernel_rfl, fun v hS => ?_⟩) S1.out ?_
        rotate_left
        · obtain ⟨h0, h1, h2, h3⟩ := hS
          go_simp
          with_reducible rfl
        refine anyBut_take (i := 10) (u := ?_) rfl (by kernel_rfl) (by kernel_rfl) (by kernel_rfl) (by kernel_rfl) (fun _ _ _ h => h) (.inl ⟨by kernel_rfl, fun v hS => ?_⟩) S1.out ?_
        rotate_left
        · obtain ⟨h0, h1, h2, h3⟩ := hS
          go_simp
          with_reducible rfl
        refine anyBut_one 12 rfl (by kernel_rfl) (by kernel_rfl) ?_
        go_simp
        refine (itoa_c to (by omega) Y.drew (HG.out.below HB.out.drew)).mono ?_
        rintro e y1 ⟨rfl, b1⟩
        have D1 := Lib.hid (show Below Y.heap.size Y y1 from ((Below.refl _ Y).drew.trans b1))
        have zD := b1.size
        have S2 := Lib.hid (show (y1.cell? ⟨X, 0, none⟩ = some (.slice (some ⟨G, 0, none⟩) N vc) ∧ y1.cell? ⟨Bx, 0, none⟩ = some (.int .i64 (s : Int)) ∧ y1.cell? ⟨Bx, 1, none⟩ = some (.string nm) ∧ y1.cell? ⟨G, s, none⟩ = some (.slice (some ⟨gs s, 0, none⟩) RV.length (cs s))) from ⟨(D1.out.cell (p := ⟨X, 0, none⟩) xlt2).trans S1.out.1, (D1.out.cell (p := ⟨Bx, 0, none⟩) BXX.out.lt).trans S1.out.2.1, (D1.out.cell (p := ⟨Bx, 1, none⟩) BXX.out.lt).trans S1.out.2.2.1, (D1.out.cell (p := ⟨G, s, none⟩) gl).trans S1.out.2.2.2⟩)
        clear b1
        refine ⟨by first | exact S2.out | exact .inr S2.out, ?_⟩
        refine anyBut_one 13 rfl (by kernel_rfl) (by kernel_rfl) ?_
        go_simp
        refine ⟨by first | exact S2.out | exact .inr S2.out, ?_⟩
        have eLS : nm ++ ⟨#[58]⟩ ++ numB to = linkS (nm, to) := rfl
        obtain ⟨y2, hy2⟩ : ∃ y2, y1.alloc (.cells #[.string (linkS (nm, to))] 9) = y2 := ⟨_, rfl⟩
        have D2 := Lib.hid (show Below Y.heap.size Y y2 by rw [← hy2]; exact D1.out.alloc (by have := D1.out.size; omega) _)
        have z12 : y2.heap.size = y1.heap.size + 1 := by rw [← hy2, World.size_alloc]
        have NB := Lib.hid (show Bk y2 y1.heap.size #[.string (linkS (nm, to))] 9 by rw [← hy2]; exact Bk.new y1 _ _)
        have RW2 := Lib.hid (RW1.out.below D2.out)
        have OR2 := Lib.hid (OwnS.below OR.out D2.out (Nat.le_refl _))
        have S3 := Lib.hid (show (y2.cell? ⟨X, 0, none⟩ = some (.slice (some ⟨G, 0, none⟩) N vc) ∧ y2.cell? ⟨Bx, 0, none⟩ = some (.int .i64 (s : Int)) ∧ y2.cell? ⟨Bx, 1, none⟩ = some (.string nm) ∧ y2.cell? ⟨G, s, none⟩ = some (.slice (some ⟨gs s, 0, none⟩) RV.length (cs s))) from ⟨(D2.out.cell (p := ⟨X, 0, none⟩) xlt2).trans S1.out.1, (D2.out.cell (p := ⟨Bx, 0, none⟩) BXX.out.lt).trans S1.out.2.1, (D2.out.cell (p := ⟨Bx, 1, none⟩) BXX.out.lt).trans S1.out.2.2.1, (D2.out.cell (p := ⟨G, s, none⟩) gl).trans S1.out.2.2.2⟩)
        obtain ⟨i0, hi0, hz0, hz1, hz2⟩ := info_parts infoS
        refine anyBut_one 14 rfl (by kernel_rfl) (by kernel_rfl) ?_
        go_simp
        refine ⟨by first | exact S3.out | exact .inr S3.out, ?_⟩
        refine anyBut_one 15 rfl (by kernel_rfl) (by kernel_rfl) ?_
        refine wp_append_lies _ _ _ 41 rfl (X + 1) 9 i0 (.string ⟨#[]⟩) 1 16 Tryz.underlying41 hi0 hz0 hz1 hz2 rfl (by decide) (.slice (some ⟨gs s, 0, none⟩) RV.length (cs s)) RV.length _ rfl OR2.out ⟨y1.heap.size, 0, none⟩ 1 1 [.string (linkS (nm, to))] rfl rfl (World.news_of_block (cs := #[.string (linkS (nm, to))]) (t := 9) (fr := (0, 0)) NB.out) (by simp [Value.oneCell']) (by omega) (by have := RVL.out; unfold maxLen; omega) (by have := RVL.out; omega) (by have := D2.out.size; omega) y2.heap.size rfl ?_
        intro g3 c3 y3 o3 g23 h3 h3l
        obtain ⟨r, hr⟩ : ∃ r, RV ++ [linkS (nm, to)] = r := ⟨_, rfl⟩
        have hlr : RV.length + 1 = r.length := by rw [← hr]; simp
        rw [hlr] at o3 ⊢
        have O3 : OwnS y3 (X + 1) (.slice (some ⟨g3, 0, none⟩) r.length c3) r := by
          unfold OwnS
          rw [← hr, List.map_append]
          rw [← hr] at o3
          exact o3
        obtain ⟨fin, fz⟩ := LinesI.next (W6 := W6) hX hNe sl HB.out.size BXR.out RW1.out HB.out BT.out z D2.out g23 O3 (h3.imp_left fun e => by injection e) (hr ▸ RSN.out) (Bt + 1)
        have FIN := Lib.hid fin
        have sR : s < (rowsP t pre).length := by rw [rowsP_len]; exact sl
        have gsB := RW1.out.blk sR
        have far : ∀ b, b < Y.heap.size → b ≠ gs s → y3.heap[b]? = Y.heap[b]? := fun b hb h1 => (g23.block b (by have := D2.out.size; omega) (fun e => h1 (by injection e))).trans (D2.out.block b hb)
        have bne : Bx ≠ gs s := fun e => str_ne_bk BXX.out ST.out (by decide) e.symm
        have Gne : G ≠ gs s := fun e => RW1.out.ne sR (by rw [← e]; rfl)
        have S4 := Lib.hid (show (y3.cell? ⟨X, 0, none⟩ = some (.slice (some ⟨G, 0, none⟩) N vc) ∧ y3.cell? ⟨Bx, 0, none⟩ = some (.int .i64 (s : Int)) ∧ y3.cell? ⟨Bx, 1, none⟩ = some (.string nm) ∧ y3.cell? ⟨G, s, none⟩ = some (.slice (some ⟨gs s, 0, none⟩) RV.length (cs s))) from ⟨(World.cell?_of_block (far X xlt2 (by omega))).trans S1.out.1, (World.cell?_of_block (far Bx BXX.out.lt bne)).trans S1.out.2.1, (World.cell?_of_block (far Bx BXX.out.lt bne)).trans S1.out.2.2.1, (World.cell?_of_block (far G gl Gne)).trans S1.out.2.2.2⟩)
        have cG := S4.out.2.2.2
        clear o3 g23 h3 h3l O3 far fin hr hlr
        refine ⟨.inr S4.out, ?_⟩
        refine anyBut_take (i := 16) (u := ?_) rfl (by kernel_rfl) (by kernel_rfl) (by kernel_rfl) (by kernel_rfl) (fun _ _ _ h => h) (.inl ⟨by kernel_rfl, fun v hS => ?_⟩) S4.out ?_
        rotate_left
        · obtain ⟨h0, h1, h2, h3⟩ := hS
          go_simp
          with_reducible rfl
        refine anyBut_one 17 rfl (by kernel_rfl) (by kernel_rfl) ?_
        go_simp
        first
          | exact ⟨rfl, FIN.out⟩
          | exact ⟨.inl rfl, rfl, FIN.out⟩
      case done =>
        intro D0 xs Y hD hS hi hK
        subst hS
        obtain ⟨gs, cs, b1, b2, b3, b4, b5⟩ := hi
        have x0 := b1.cell 0 _ rfl
        have HK := Lib.hid hK
        have R2 := Lib.hid (show RowsAt Y (X + 1) (.slice VA N vc) (rowsT t) gs cs by unfold rowsT; rw [HL.out]; exact b2)
        have B3 := Lib.hid b3
        clear b1 b2 b3 b4 b5 hK
        go_wp2_with fail
        refine ⟨by simp, .inl ⟨_, _, rfl, run_takeDeferred HK.out, ?_⟩⟩
        refine ⟨_, results_tmp rfl _ _ _, _, gs, cs, rfl, ?_, ?_⟩
        · rw [hX]
          exact RowsAt.walked 0 _ _ _ _ _ () Y _ (some D0) R2.out (grownBy_putObj' Y D0 _) (fun r e => by cases e; exact ⟨Nat.zero_le _, _, HK.out, rfl⟩)
        · exact B3.out.grown (grownBy_putObj' Y D0 _) B3.out.size (fun j e => by injection e; omega)
end Go.Proofs.YtjodmjadpooipaaGreatDoor.Sh
