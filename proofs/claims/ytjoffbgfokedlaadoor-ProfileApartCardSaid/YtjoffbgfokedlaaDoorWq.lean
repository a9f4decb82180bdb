/-
  The walk of ProfileApart.
-/
import Derived.Test.YtjoffbgfokedlaaDoorMq
import Derived.Test.YtjoffbgfokedlaaDoorPt
import Derived.Test.YtjoffbgfokedlaaDoorSe
import Derived.Test.YtjoffbgfokedlaaDoorMf
namespace Go.Proofs.YtjoffbgfokedlaaDoor.Pf
open Go Go.RowKit

theorem one_ready {P : Program} {ops : Array Oper} {Q : Exit → Go.Act → World → Prop} {S : World → Prop} {md : Region.Mode} {fuel : Nat} {listed : Array Bool} {a : Go.Act} {w : World} (i : Nat) {o : Oper} (ho : ops[i]? = some o) (hr : Region.ready md ops listed = [i]) (hw : Region.wanted o (yielded ops a.tmps) = true)
    (h : o.wp P a w (fun a' w' => S w' ∧ wpAnyH P md ops Q S fuel (listed.setIfInBounds i true) a' w') Q) : wpAnyH P md ops Q S (fuel + 1) listed a w := by
  refine wpAnyH_all hr (by simp) (fun j hj => ?_)
  obtain rfl : j = i := by simpa using hj
  unfold wpOp
  simp only [ho, hw, if_true]
  exact .inl h
theorem region_plain {P : Program} {ops : Array Oper} {Q : Exit → Go.Act → World → Prop} (S : World → Prop) {id : Nat} {a : Go.Act} {w : World} (hm : P.follows .mixedOrders = true)
    (h : wpAnyH P .any ops Q S ops.size (Array.replicate ops.size false) a w.drew) : (Code.region id ops true).wp P Q a w :=
  wp_region_any hm (wpAny_of_held _ _ _ _ h)
section
variable {K : Kit} {w0 w w' : World} {p n p2 n2 : Nat} {t t2 : Pst} {F F' F2 : Nat → Prop}
theorem do_at (h : Tr K w0 w p t F n) (hn : n + 9 ≤ 100000) (x : Act) (hx : x.OK) {t' : Pst} {c : Int} (r : doP t x = (c, t')) :
    Calls Tryd.prog 12 #[.pointer (some ⟨p, 0, none⟩), actV x] w fun e w' => ∃ F', e = .returned (.int .i64 c) ∧ Tr K w0 w' p t' F' (n + 9) ∧ Gd F w w' F' :=
  (do_any h hn x hx).mono fun _e _w' ⟨F', h1, h2, h3⟩ => by rw [r] at h1 h2; exact ⟨F', h1, h2, h3⟩
theorem Tr.grownO (h : Tr K w0 w p t F n) {o : Option Nat} (hg : w.grownBy w' o) (hF : ∀ b, o = some b → ¬ F b ∧ w0.heap.size ≤ b) : Tr K w0 w' p t F n :=
  ⟨K.keep h.h fun x hx => hg.block x (K.lt h.h x hx) fun e => (hF x e.symm).1 hx, ⟨hg.os.trans h.b.os, hg.tape.trans h.b.tape, hg.output.trans h.b.output, Nat.le_trans h.b.size hg.size, fun k hk => (hg.block k (Nat.lt_of_lt_of_le hk h.b.size) (fun e => by have := (hF k e.symm).2; omega)).trans (h.b.block k hk)⟩, h.f, h.v, h.k, h.s⟩
theorem Tw.grown (h : Tw K w0 w p t F n p2 t2 F2 n2) {o : Option Nat} (hg : w.grownBy w' o) (hF : ∀ b, o = some b → ¬ F b ∧ ¬ F2 b ∧ w0.heap.size ≤ b) : Tw K w0 w' p t F n p2 t2 F2 n2 :=
  ⟨h.x.grownO hg fun b e => ⟨(hF b e).1, (hF b e).2.2⟩, h.y.grownO hg fun b e => (hF b e).2, h.d⟩
theorem SlD.imp {P P' : Nat → Prop} {A : Option Addr} {l : List Dec} (h : SlD w P A l) (hP : ∀ b, P b → P' b) : SlD w P' A l := fun j x hx => by
  obtain ⟨g, h0, h1, h2⟩ := h j x hx
  exact ⟨g, h0, hP g h1, h2⟩
theorem SlD.lowP {m : Nat} {A : Option Addr} {l : List Dec} (h : SlD w (fun g => g < m) A l) (hm : m ≤ w.heap.size) (hb : Below w.heap.size w w') : SlD w' (fun g => g < m) A l := h.keepP fun b hb' => hb.block b (by omega)
/-- The place that is asked for lies in a block that no profile has. -/
structure AtB (w : World) (b : Nat) (F F2 : Nat → Prop) : Prop where
  k : Bk w b #[.int .i64 1, .int .i64 1] 43
  x : ¬ F b
  y : ¬ F2 b
theorem AtB.low {b : Nat} (h : AtB w b F F2) (hb : Below w.heap.size w w') : AtB w' b F F2 := ⟨Bk.low hb h.k, h.x, h.y⟩
theorem gd_bk {b : Nat} {c : Array Value} {T : TypeId} (h : Bk w b c T) (hF : ¬ F b) (g : Gd F w w' F') : Bk w' b c T ∧ ¬ F' b := by
  obtain ⟨g1, g2⟩ := g.off (G := fun x => x = b) (fun x hx => hx ▸ h.lt) (fun x hx e => hF (e ▸ hx))
  exact ⟨bkKeep h (g1 b rfl), fun e => g2 b e rfl⟩
theorem AtB.one {b : Nat} (h : AtB w b F F2) (g : Gd F w w' F') : AtB w' b F' F2 := by
  obtain ⟨a, c⟩ := gd_bk h.k h.x g
  exact ⟨a, c, h.y⟩
theorem AtB.two {b : Nat} (h : AtB w b F F2) (g : Gd F2 w w' F') : AtB w' b F F' := by
  obtain ⟨a, c⟩ := gd_bk h.k h.y g
  exact ⟨a, h.x, c⟩
theorem OwnD.low {b : Nat} {v : Value} {l : List Dec} (h : OwnD w b v l) (hb : Below w.heap.size w w') : OwnD w' b v l := rown_keep h fun g hg => hb.block g (h.lt g hg).2
end
set_option maxRecDepth 100000 in
set_option maxHeartbeats 8000000 in
theorem apart_walk (K : Kit) (a b c d : Int) (ia : I64 a) (ib : I64 b) (ic : I64 c) (id' : I64 d) (acts : List Act) (A : Option Addr) (c1 B : Nat) {w : World} (hacts : ActS w B A acts) (hB : B ≤ w.heap.size) (hl : acts.length ≤ 5864062014634) (hok : ∀ x ∈ acts, x.OK) (hv : K.V w) :
    Calls Tryd.prog 5 #[.agg #[.int .i64 a, .int .i64 b, .int .i64 c, .int .i64 d], .slice A acts.length c1] w fun e w' => e = .returned (.bool true) ∧ Below w.heap.size w w' := by
  have HV := Lib.hid hv
  have hmx : Tryd.prog.follows .mixedOrders = true := by kernel_rfl
  have HA := Lib.hid hacts
  have HO := Lib.hid hok
  have LB := Lib.hid hB
  have IS := Lib.hid (And.intro ia (And.intro ib (And.intro ic id')))
  have BB := Lib.hid ((Below.refl _ w).alloc (Nat.le_refl _) (.cells #[.int .i64 a, .int .i64 b, .int .i64 c, .int .i64 d] 23))
  have BX := Lib.hid (Bk.new w #[.int .i64 a, .int .i64 b, .int .i64 c, .int .i64 d] 23)
  clear hv hacts hok hB ia ib ic id'
  go_enter Tryd.func5, Tryd.ntmps5
  go_wp2_with fail
  refine (sanity_any K _ (K.vkeep HV.out BB.out)).mono ?_
  rintro e v1 ⟨rfl, h⟩
  have B1 := Lib.hid (BB.out.trans (h.mono BB.out.size))
  have X1 := Lib.hid (Bk.low h BX.out)
  have x0 := X1.out.cell 0 (.int .i64 a) rfl
  have x1 := X1.out.cell 1 (.int .i64 b) rfl
  have x2 := X1.out.cell 2 (.int .i64 c) rfl
  have x3 := X1.out.cell 3 (.int .i64 d) rfl
  clear h BX BB
  go_wp2_with fail
  refine (made_any K w v1 HV.out B1.out a b c d IS.out.1 IS.out.2.1 IS.out.2.2.1 IS.out.2.2.2).mono ?_
  rintro e v2 ⟨p, F, q, G, rfl, h1, _, h3, _, _, _⟩
  have T2 := Lib.hid h1
  have B2 := Lib.hid (B1.out.trans (h3.mono B1.out.size))
  have X2 := Lib.hid (Bk.low h3 X1.out)
  replace x0 := X2.out.cell 0 (.int .i64 a) rfl
  replace x1 := X2.out.cell 1 (.int .i64 b) rfl
  replace x2 := X2.out.cell 2 (.int .i64 c) rfl
  replace x3 := X2.out.cell 3 (.int .i64 d) rfl
  clear h1 h3 X1 B1
  go_wp2_with fail
  refine (made_any K w v2 HV.out B2.out a b c d IS.out.1 IS.out.2.1 IS.out.2.2.1 IS.out.2.2.2).mono ?_
  rintro e v3 ⟨p2, F2, q2, G2, rfl, h1, _, h3, _, _, h4⟩
  have T3 := Lib.hid (show Tw K w v3 p (st0L a b c d) F 0 p2 (st0L a b c d) F2 0 from ⟨T2.out.below h3, h1, fun x hx hy => by
    have := K.lt T2.out.h x hx
    have := h4 x hy
    omega⟩)
  have R3 := Lib.hid (rel0 (st0L a b c d) rfl)
  generalize st0L a b c d = t0 at *
  clear h1 h3 h4 x0 x1 x2 x3 X2 B2 IS T2
  obtain ⟨v4, hv4⟩ : ∃ v, v3.alloc (.cells #[.int .i64 1, .int .i64 1] 43) = v := ⟨_, rfl⟩
  obtain ⟨b0, hb0⟩ : ∃ b, v3.heap.size = b := ⟨_, rfl⟩
  have T4 := Lib.hid (show Tw K w v4 p t0 F 0 p2 t0 F2 0 by rw [← hv4]; exact T3.out.below ((Below.refl _ v3).alloc (Nat.le_refl _) _))
  have AT := Lib.hid (show AtB v4 b0 F F2 by
    rw [← hv4, ← hb0]
    exact ⟨Bk.new v3 _ _, fun e => Nat.lt_irrefl _ (K.lt T3.out.x.h _ e), fun e => Nat.lt_irrefl _ (K.lt T3.out.y.h _ e)⟩)
  clear T3
  go_wp2_with fail
  clear hv4 hb0
  go_loopw [11] (fun i wr => ∃ (k : Nat) (t o : Pst) (F F2 : Nat → Prop), k ≤ acts.length ∧ k ≤ 60 ∧ i = .int .i64 k ∧ Hid (Tw K w wr p t F (9 * k) p2 o F2 (9 * k)) ∧ Hid (Rel t o) ∧ Hid (AtB wr b0 F F2)) (fun i _ => acts.length - (intOf i).toNat)
  case atStart => exact ⟨0, t0, t0, F, F2, by omega, by omega, rfl, T4, R3, AT⟩
  case round =>
    clear T4 R3 AT
    obtain ⟨k, t, o, F, F2, hk, hk6, rfl, T, R, AT⟩ := hrel
    by_cases hgo : k < acts.length ∧ k < 60
    · obtain ⟨hlt, hlt6⟩ := hgo
      obtain ⟨x, hx⟩ : ∃ x, acts[k]? = some x := ⟨_, List.getElem?_eq_getElem hlt⟩
      have XO := Lib.hid (HO.out x (List.mem_of_getElem? hx))
      obtain ⟨ab, ao, rfl, hab, y0, y1, y2⟩ := HA.out k x hx
      have AB := Lib.hid (show ab < w.heap.size from Nat.lt_of_lt_of_le hab LB.out)
      have Y := Lib.hid (And.intro y0 (And.intro y1 y2))
      clear y0 y1 y2 hab hx
      have h3 : (k : Int) < acts.length := by omega
      have h4 : (k : Int) < 60 := by omega
      have hk0 : (0 : Int) ≤ k := by omega
      have y0 := (T.out.x.b.cell (p := ⟨ab, ao + k * 3, none⟩) AB.out).trans Y.out.1
      have y1 := (T.out.x.b.cell (p := ⟨ab, ao + k * 3 + 1, none⟩) AB.out).trans Y.out.2.1
      have y2 := (T.out.x.b.cell (p := ⟨ab, ao + k * 3 + 2, none⟩) AB.out).trans Y.out.2.2
      go_wp2_with fail
      obtain ⟨z, t', hz⟩ : ∃ z t', doP t x = (z, t') := ⟨_, _, rfl⟩
      refine (do_at T.out.x (by omega) x XO.out hz).mono ?_
      rintro e w4 ⟨F4, rfl, h1, h2⟩
      have T4 := Lib.hid (T.out.one h1 h2)
      have A4 := Lib.hid (AT.out.one h2)
      clear h1 h2 T AT
      replace y0 := (T4.out.x.b.cell (p := ⟨ab, ao + k * 3, none⟩) AB.out).trans Y.out.1
      replace y1 := (T4.out.x.b.cell (p := ⟨ab, ao + k * 3 + 1, none⟩) AB.out).trans Y.out.2.1
      replace y2 := (T4.out.x.b.cell (p := ⟨ab, ao + k * 3 + 2, none⟩) AB.out).trans Y.out.2.2
      have e0 := A4.out.k.cell 0 (.int .i64 1) rfl
      have e1 := A4.out.k.cell 1 (.int .i64 1) rfl
      obtain ⟨px, py, hpl⟩ : ∃ px py, x.plc = (px, py) := ⟨_, _, rfl⟩
      have PA := Lib.hid (fun W => place_any x XO.out W)
      rw [hpl, show plcV (px, py) = .agg #[.int .i64 px, .int .i64 py] from rfl] at PA
      go_wp2_with fail
      by_cases hA : x.plc = aA
      · have EQ : ∀ W, (binOp .eql 43 (.agg #[.int .i64 px, .int .i64 py]) (.agg #[.int .i64 1, .int .i64 1])).run Tryd.prog W = .ok (.bool true) W := fun W => by
          rw [eqlP, decide_eq_true (by rw [← hpl]; exact hA)]
        obtain ⟨s1, s2⟩ := rel_do R.out x hA
        obtain ⟨z', o', hz'⟩ : ∃ z t', doP o x = (z, t') := ⟨_, _, rfl⟩
        rw [hz, hz'] at s1 s2
        simp only at s1 s2
        subst s1
        have RN := Lib.hid s2
        have HZ := Lib.hid hz'
        replace T4 := Lib.hid (T4.out.below ((Below.refl w4.heap.size w4).drew))
        replace A4 := Lib.hid (A4.out.low ((Below.refl w4.heap.size w4).drew))
        clear s2 hz hz' hA hpl R
        go_region_held3 (fun w' => w'.cell? ⟨ab, ao + k * 3, none⟩ = some (.int .i64 x.what) ∧ w'.cell? ⟨ab, ao + k * 3 + 1, none⟩ = some (.int .i64 x.a) ∧ w'.cell? ⟨ab, ao + k * 3 + 2, none⟩ = some (.int .i64 x.b) ∧ w'.cell? ⟨b0, 0, none⟩ = some (.int .i64 1) ∧ w'.cell? ⟨b0, 1, none⟩ = some (.int .i64 1)) (first | exact ⟨y0, y1, y2, e0, e1⟩ | go_keep) ((first
          | (go_at_call 21
             (with_reducible refine (PA.out _).mono ?_)
             rintro e w5 ⟨rfl, hb⟩
             replace T4 := Lib.hid (T4.out.below hb)
             replace A4 := Lib.hid (A4.out.low hb)
             replace y0 := (T4.out.x.b.cell (p := ⟨ab, ao + k * 3, none⟩) AB.out).trans Y.out.1
             replace y1 := (T4.out.x.b.cell (p := ⟨ab, ao + k * 3 + 1, none⟩) AB.out).trans Y.out.2.1
             replace y2 := (T4.out.x.b.cell (p := ⟨ab, ao + k * 3 + 2, none⟩) AB.out).trans Y.out.2.2
             replace e0 := A4.out.k.cell 0 (.int .i64 1) rfl
             replace e1 := A4.out.k.cell 1 (.int .i64 1) rfl
             clear hb)
          | (go_at_call 12
             (with_reducible refine (do_at T4.out.y (by omega) x XO.out HZ.out).mono ?_)
             rintro e w6 ⟨F', rfl, h1, h2⟩
             have T6 := Lib.hid (T4.out.two h1 h2)
             have A6 := Lib.hid (A4.out.two h2)
             replace y0 := (T6.out.x.b.cell (p := ⟨ab, ao + k * 3, none⟩) AB.out).trans Y.out.1
             replace y1 := (T6.out.x.b.cell (p := ⟨ab, ao + k * 3 + 1, none⟩) AB.out).trans Y.out.2.1
             replace y2 := (T6.out.x.b.cell (p := ⟨ab, ao + k * 3 + 2, none⟩) AB.out).trans Y.out.2.2
             replace e0 := A6.out.k.cell 0 (.int .i64 1) rfl
             replace e1 := A6.out.k.cell 1 (.int .i64 1) rfl
             clear h1 h2 T4 A4)))
        all_goals
          clear y0 y1 y2 e0 e1
          go_wp2_with fail
          go_roundw
          case rel => exact ⟨k + 1, t', o', F4, F', hlt, hlt6, by go_num, T6, RN, A6⟩
          case measure => simp [intOf]; omega
      · have EQ : ∀ W, (binOp .eql 43 (.agg #[.int .i64 px, .int .i64 py]) (.agg #[.int .i64 1, .int .i64 1])).run Tryd.prog W = .ok (.bool false) W := fun W => by
          rw [eqlP, decide_eq_false (by rw [← hpl]; exact hA)]
        have RN := Lib.hid (show Rel t' o by have := rel_don R.out x hA; rw [hz] at this; exact this)
        replace T4 := Lib.hid (T4.out.below ((Below.refl w4.heap.size w4).drew))
        replace A4 := Lib.hid (A4.out.low ((Below.refl w4.heap.size w4).drew))
        clear hz hA hpl R
        have S1 := Lib.hid (show (fun w' : World => w'.cell? ⟨ab, ao + k * 3, none⟩ = some (.int .i64 x.what) ∧ w'.cell? ⟨ab, ao + k * 3 + 1, none⟩ = some (.int .i64 x.a) ∧ w'.cell? ⟨ab, ao + k * 3 + 2, none⟩ = some (.int .i64 x.b) ∧ w'.cell? ⟨b0, 0, none⟩ = some (.int .i64 1) ∧ w'.cell? ⟨b0, 1, none⟩ = some (.int .i64 1)) w4.drew from ⟨y0, y1, y2, e0, e1⟩)
        refine region_plain (fun w' : World => w'.cell? ⟨ab, ao + k * 3, none⟩ = some (.int .i64 x.what) ∧ w'.cell? ⟨ab, ao + k * 3 + 1, none⟩ = some (.int .i64 x.a) ∧ w'.cell? ⟨ab, ao + k * 3 + 2, none⟩ = some (.int .i64 x.b) ∧ w'.cell? ⟨b0, 0, none⟩ = some (.int .i64 1) ∧ w'.cell? ⟨b0, 1, none⟩ = some (.int .i64 1)) hmx ?_
        refine wpAnyH_take (i := 0) (v := ?_) rfl (by kernel_rfl) (by kernel_rfl) (by kernel_rfl) (fun _ _ _ h => h) (.inl ⟨by kernel_rfl, fun v hS => ?_⟩) S1.out ?_
        rotate_left
        · obtain ⟨e0, e1, e2, e3, e4⟩ := hS
          go_simp
          with_reducible rfl
        refine wpAnyH_take (i := 1) (v := ?_) rfl (by kernel_rfl) (by kernel_rfl) (by kernel_rfl) (fun _ _ _ h => h) (.inl ⟨by kernel_rfl, fun v hS => ?_⟩) S1.out ?_
        rotate_left
        · obtain ⟨e0, e1, e2, e3, e4⟩ := hS
          go_simp
          with_reducible rfl
        refine wpAnyH_take (i := 2) (v := ?_) rfl (by kernel_rfl) (by kernel_rfl) (by kernel_rfl) (fun _ _ _ h => h) (.inl ⟨by kernel_rfl, fun v hS => ?_⟩) S1.out ?_
        rotate_left
        · obtain ⟨e0, e1, e2, e3, e4⟩ := hS
          go_simp
          with_reducible rfl
        refine wpAnyH_take (i := 3) (v := ?_) rfl (by kernel_rfl) (by kernel_rfl) (by kernel_rfl) (fun _ _ _ h => h) (.inl ⟨by kernel_rfl, fun v hS => ?_⟩) S1.out ?_
        rotate_left
        · obtain ⟨e0, e1, e2, e3, e4⟩ := hS
          go_simp
          with_reducible rfl
        refine wpAnyH_take (i := 5) (v := ?_) rfl (by kernel_rfl) (by kernel_rfl) (by kernel_rfl) (fun _ _ _ h => h) (.inl ⟨by kernel_rfl, fun v hS => ?_⟩) S1.out ?_
        rotate_left
        · obtain ⟨e0, e1, e2, e3, e4⟩ := hS
          go_simp
          with_reducible rfl
        refine one_ready 4 rfl (by kernel_rfl) (by kernel_rfl) ?_
        go_simp
        refine (PA.out _).mono ?_
        rintro e w5 ⟨rfl, hb⟩
        have T5 := Lib.hid (T4.out.below hb)
        have A5 := Lib.hid (A4.out.low hb)
        have S2 := Lib.hid (show (fun w' : World => w'.cell? ⟨ab, ao + k * 3, none⟩ = some (.int .i64 x.what) ∧ w'.cell? ⟨ab, ao + k * 3 + 1, none⟩ = some (.int .i64 x.a) ∧ w'.cell? ⟨ab, ao + k * 3 + 2, none⟩ = some (.int .i64 x.b) ∧ w'.cell? ⟨b0, 0, none⟩ = some (.int .i64 1) ∧ w'.cell? ⟨b0, 1, none⟩ = some (.int .i64 1)) w5 from ⟨(T5.out.x.b.cell (p := ⟨ab, ao + k * 3, none⟩) AB.out).trans Y.out.1, (T5.out.x.b.cell (p := ⟨ab, ao + k * 3 + 1, none⟩) AB.out).trans Y.out.2.1, (T5.out.x.b.cell (p := ⟨ab, ao + k * 3 + 2, none⟩) AB.out).trans Y.out.2.2, A5.out.k.cell 0 (.int .i64 1) rfl, A5.out.k.cell 1 (.int .i64 1) rfl⟩)
        clear hb
        refine ⟨S2.out, ?_⟩
        refine wpAnyH_take (i := 6) (v := ?_) rfl (by kernel_rfl) (by kernel_rfl) (by kernel_rfl) (fun _ _ _ h => h) (.inl ⟨by kernel_rfl, fun v hS => ?_⟩) S2.out ?_
        rotate_left
        · obtain ⟨e0, e1, e2, e3, e4⟩ := hS
          go_simp
          with_reducible rfl
        refine wpAnyH_take (i := 7) (v := ?_) rfl (by kernel_rfl) (by kernel_rfl) (by kernel_rfl) (fun _ _ _ h => h) (.inl ⟨by kernel_rfl, fun v hS => ?_⟩) S2.out ?_
        rotate_left
        · obtain ⟨e0, e1, e2, e3, e4⟩ := hS
          go_simp
          with_reducible rfl
        refine wpAnyH_take (i := 8) (v := undef) rfl (by kernel_rfl) (by kernel_rfl) (by kernel_rfl) (fun _ _ _ h => h) (.inr ⟨by kernel_rfl, rfl⟩) S2.out ?_
        refine wpAnyH_take (i := 9) (v := undef) rfl (by kernel_rfl) (by kernel_rfl) (by kernel_rfl) (fun _ _ _ h => h) (.inr ⟨by kernel_rfl, rfl⟩) S2.out ?_
        refine wpAnyH_take (i := 10) (v := undef) rfl (by kernel_rfl) (by kernel_rfl) (by kernel_rfl) (fun _ _ _ h => h) (.inr ⟨by kernel_rfl, rfl⟩) S2.out ?_
        refine wpAnyH_take (i := 11) (v := undef) rfl (by kernel_rfl) (by kernel_rfl) (by kernel_rfl) (fun _ _ _ h => h) (.inr ⟨by kernel_rfl, rfl⟩) S2.out ?_
        refine wpAnyH_take (i := 12) (v := undef) rfl (by kernel_rfl) (by kernel_rfl) (by kernel_rfl) (fun _ _ _ h => h) (.inr ⟨by kernel_rfl, rfl⟩) S2.out ?_
        refine wpAnyH_take (i := 13) (v := undef) rfl (by kernel_rfl) (by kernel_rfl) (by kernel_rfl) (fun _ _ _ h => h) (.inr ⟨by kernel_rfl, rfl⟩) S2.out ?_
        refine wpAnyH_take (i := 14) (v := undef) rfl (by kernel_rfl) (by kernel_rfl) (by kernel_rfl) (fun _ _ _ h => h) (.inr ⟨by kernel_rfl, rfl⟩) S2.out ?_
        refine wpAnyH_take (i := 15) (v := undef) rfl (by kernel_rfl) (by kernel_rfl) (by kernel_rfl) (fun _ _ _ h => h) (.inr ⟨by kernel_rfl, rfl⟩) S2.out ?_
        refine one_ready 16 rfl (by kernel_rfl) (by kernel_rfl) ?_
        go_simp
        refine ⟨S2.out, rfl, ?_⟩
        have TN := Lib.hid (show Tw K w w5 p t' F4 (9 * (k + 1)) p2 o F2 (9 * (k + 1)) from ⟨T5.out.x, T5.out.y.up (by omega) (by omega), T5.out.d⟩)
        clear y0 y1 y2 e0 e1
        go_wp2_with fail
        go_roundw
        case rel => exact ⟨k + 1, t', o, F4, F2, hlt, hlt6, by go_num, TN, RN, A5⟩
        case measure => simp [intOf]; omega
    · have two : (acts.length : Int) ≤ (k : Int) ∨ ((k : Int) < acts.length ∧ (60 : Int) ≤ (k : Int)) := by
        by_cases h : k < acts.length
        · exact .inr ⟨by omega, by omega⟩
        · exact .inl (by omega)
      clear HA HO hgo
      obtain ⟨n, hn⟩ : ∃ n, 9 * k = n := ⟨_, rfl⟩
      have n540 : n ≤ 540 := by omega
      rw [hn] at T
      clear hn
      obtain ⟨i1, hi1, hi2, hi3, hi4⟩ := info_parts infoD
      rcases two with hd | ⟨hd, hd6⟩
      all_goals
        go_wp2_with fail
        refine (decs_at T.out.x (l := t.D) rfl).mono ?_
        rintro e V4 ⟨v4, rfl, ho, h, hbl⟩
        obtain ⟨A4, c4, rfl, _, _, hsl⟩ := ho.form
        have T4 := Lib.hid (T.out.below hbl)
        have A4' := Lib.hid (AT.out.low hbl)
        have SL := Lib.hid hsl
        have LD := Lib.hid (show t.D.length ≤ n from T.out.x.k.dec)
        have NF := Lib.hid (show ∀ b, V4.heap.size ≤ b → ¬ F b ∧ ¬ F2 b ∧ w.heap.size ≤ b from fun b hb => ⟨fun e => by have := K.lt T4.out.x.h b e; omega, fun e => by have := K.lt T4.out.y.h b e; omega, by have := T4.out.x.b.size; omega⟩)
        have AB0 := Lib.hid (show b0 < V4.heap.size from A4'.out.k.lt)
        have OW := Lib.hid (show OwnD V4 V4.heap.size (.slice none 0 0) (keepA (t.D.take 0)) from World.ownsRow_nil _ _ _ _)
        obtain ⟨bs, hbs⟩ : ∃ b, V4.heap.size = b := ⟨_, rfl⟩
        rw [hbs] at SL NF OW AB0
        have ZV := Lib.hid (show bs ≤ V4.heap.size by omega)
        clear ho h hbl hsl T AT hbs
        generalize wr.heap.size = bq at SL
        go_wp2_with fail
        go_loopw [66, 13] (fun i u wr => ∃ (j : Nat) (v : Value), j ≤ t.D.length ∧ i = .int .i64 j ∧ v = u ∧ Hid (OwnD wr bs v (keepA (t.D.take j))) ∧ Hid (Tw K w wr p t F n p2 o F2 n) ∧ Hid (AtB wr b0 F F2) ∧ Hid (SlD wr (fun g => bq ≤ g ∧ g < bs) A4 t.D) ∧ Hid (bs ≤ wr.heap.size)) (fun i _ _ => t.D.length - (intOf i).toNat)
        case atStart => exact ⟨0, _, by omega, rfl, rfl, OW, T4, A4', SL, ZV⟩
        case round =>
          clear T4 A4' SL OW ZV
          obtain ⟨j, v, hj, rfl, rfl, OW, T, AT, SL, WZ⟩ := hrel
          by_cases hlt : j < t.D.length
          · obtain ⟨d, hdj⟩ : ∃ d, t.D[j]? = some d := ⟨_, List.getElem?_eq_getElem hlt⟩
            have TK := Lib.hid (keepA_take hdj)
            obtain ⟨g, rfl, ⟨hg1, hg2⟩, y0, y1, y2, y3⟩ := SL.out j d hdj
            obtain ⟨⟨px, py⟩, dt, dy⟩ := d
            obtain ⟨y, hy⟩ : ∃ y, bsL dy = y := ⟨_, rfl⟩
            simp only at y0 y1 y2 y3
            rw [hy] at y3
            have h3 : (j : Int) < t.D.length := by omega
            have hk0 : (0 : Int) ≤ j := by omega
            have jb : (j : Int) < 541 := by have := LD.out; omega
            have KL := Lib.hid (show (keepA (t.D.take j)).length ≤ 1000 by
              have h1 : (keepA (t.D.take j)).length ≤ (t.D.take j).length := List.length_filter_le _ _
              rw [List.length_take] at h1
              have := LD.out
              omega)
            obtain ⟨V5, hV5⟩ : ∃ V, wr.alloc (.cells #[.int .i64 px, .int .i64 py, .int .i64 dt, .string y] 49) = V := ⟨_, rfl⟩
            obtain ⟨bx, hbx⟩ : ∃ b, wr.heap.size = b := ⟨_, rfl⟩
            have XB := Lib.hid (show Bk V5 bx #[.int .i64 px, .int .i64 py, .int .i64 dt, .string y] 49 by rw [← hV5, ← hbx]; exact Bk.new wr _ _)
            have BE := Lib.hid (show Below wr.heap.size wr V5 by rw [← hV5]; exact (Below.refl _ wr).alloc (Nat.le_refl _) _)
            have Z5 := Lib.hid (Nat.le_trans WZ.out BE.out.size)
            have SL5 := Lib.hid (SL.out.keepP fun b hb => BE.out.block b (by have := WZ.out; omega))
            have OW5 := Lib.hid (OW.out.low BE.out)
            have T5 := Lib.hid (T.out.below BE.out)
            have A5 := Lib.hid (AT.out.low BE.out)
            have e0 := A5.out.k.cell 0 (.int .i64 1) rfl
            have e1 := A5.out.k.cell 1 (.int .i64 1) rfl
            have z0 := XB.out.cell 0 (.int .i64 px) rfl
            have z1 := XB.out.cell 1 (.int .i64 py) rfl
            have z2 := XB.out.cell 2 (.int .i64 dt) rfl
            have z3 := XB.out.cell 3 (.string y) rfl
            clear BE OW T AT SL WZ hdj
            by_cases hA : ((px, py) : Plc) = aA
            · have KE := Lib.hid (show keepA (t.D.take (j + 1)) = keepA (t.D.take j) ++ [⟨(px, py), dt, dy⟩] by rw [TK.out, if_pos hA])
              obtain ⟨kl, hkl⟩ : ∃ kl, keepA (t.D.take j) = kl := ⟨_, rfl⟩
              rw [hkl] at KE OW5 KL
              have OW6 := Lib.hid (World.ownsRow.alloc OW5.out (.cells #[.int .i64 px, .int .i64 py, .int .i64 dt, .string y] 49))
              have BE6 := Lib.hid ((Below.refl V5.heap.size V5).alloc (Nat.le_refl _) (.cells #[.int .i64 px, .int .i64 py, .int .i64 dt, .string y] 49))
              clear TK hkl OW5
              obtain ⟨rfl, rfl⟩ : px = 1 ∧ py = 1 := ⟨congrArg Prod.fst hA, congrArg Prod.snd hA⟩
              clear hA
              go_wp2_with (at_builtin; refine wpList_append_own _ rfl _ _ 36 rfl bs 49 i1 _ 4 40 Tryd.underlying36 hi1 hi2 hi3 hi4 rfl (by decide) v kl.length (flatD kl) rfl OW6.out ⟨V5.heap.size, 0, none⟩ 1 1 (cellsD ⟨(1, 1), dt, dy⟩) rfl ?qc1 ?qc2 ?qc3 ?qc4 ?qc5 ?qc6 ?_)
              case qc1 => rfl
              case qc2 => exact notes_of hy (Bk.new V5 _ _)
              case qc3 =>
                intro u hu
                simp [cellsD] at hu
                rcases hu with rfl | rfl | rfl | rfl <;> rfl
              case qc4 => have := KL.out; unfold maxLen; omega
              case qc5 => have := KL.out; omega
              case qc6 => rw [World.size_alloc]; have := Z5.out; omega
              intro v' w7 hown hgrow _
              have GE := Lib.hid (fun x (hx : v.ownBlock = some x) => (World.ownsRow.lt OW6.out x hx).1)
              have OWN := Lib.hid (show OwnD w7 bs v' (keepA (t.D.take (j + 1))) by
                rw [KE.out]
                unfold OwnD
                rw [List.length_append, flatD_snoc]
                exact hown)
              have TN := Lib.hid ((T5.out.below BE6.out).grown hgrow fun x e => NF.out x (GE.out x e))
              have A6 := Lib.hid (A5.out.low BE6.out)
              have AN := Lib.hid (show AtB w7 b0 F F2 from ⟨bkKeep A6.out.k (hgrow.block b0 A6.out.k.lt fun e => by have := GE.out b0 e.symm; have := AB0.out; omega), A6.out.x, A6.out.y⟩)
              have SLN := Lib.hid ((SL5.out.keepP fun x hx => BE6.out.block x (by have := Z5.out; omega)).keepP fun x hx => hgrow.block x (by have := Z5.out; have := BE6.out.size; omega) fun e => by have := GE.out x e.symm; omega)
              have ZN := Lib.hid (Nat.le_trans Z5.out (Nat.le_trans BE6.out.size hgrow.size))
              clear hown hgrow GE OW6 T5 A5 A6 SL5 Z5 BE6 e0 e1 z0 z1 z2 z3
              go_wp2_with fail
              go_roundw
              case rel => exact ⟨j + 1, _, hlt, by go_num, rfl, OWN, TN, AN, SLN, ZN⟩
              case measure => simp [intOf]; omega
            · have OWN := Lib.hid (show OwnD V5 bs v (keepA (t.D.take (j + 1))) by rw [TK.out, if_neg hA]; exact OW5.out)
              have way : (¬ px = 1) ∨ (px = 1 ∧ ¬ py = 1) := by
                by_cases h1 : px = 1
                · exact .inr ⟨h1, fun h2 => hA (by rw [h1, h2]; rfl)⟩
                · exact .inl h1
              clear OW5 TK hA
              rcases way with hx | ⟨rfl, hx⟩
              all_goals
                go_wp2_with fail
                go_roundw
                case rel => exact ⟨j + 1, _, hlt, by go_num, rfl, OWN, T5, A5, SL5, Z5⟩
                case measure => simp [intOf]; omega
          · obtain rfl : j = t.D.length := by omega
            rw [List.take_length] at OW
            obtain ⟨A5, c5, rfl, _, _, hsw⟩ := OW.out.form
            have SW := Lib.hid (hsw.imp (P' := fun g => g < wr.heap.size) fun x hx => hx.2)
            have h3 : ¬ (t.D.length : Int) < t.D.length := by omega
            clear hsw OW SL WZ
            go_wp2_with fail
            refine (decs_at T.out.y R.out.eD).mono ?_
            rintro e V6 ⟨v6, rfl, ho, _, hb⟩
            obtain ⟨A6, c6, rfl, _, _, hsg⟩ := ho.form
            obtain ⟨bz, hbz⟩ : ∃ b, V6.heap.size = b := ⟨_, rfl⟩
            have SG := Lib.hid (show SlD V6 (fun g => g < bz) A6 (keepA t.D) from hsg.imp fun x hx => by rw [← hbz]; exact hx.2)
            have SW6 := Lib.hid (show SlD V6 (fun g => g < bz) A5 (keepA t.D) from (SW.out.lowP (Nat.le_refl _) hb).imp fun x (hx : x < wr.heap.size) => show x < bz from Nat.lt_of_lt_of_le hx (hbz ▸ hb.size))
            have T6 := Lib.hid (T.out.below hb)
            have A6' := Lib.hid (AT.out.low hb)
            have Z6 := Lib.hid (show bz ≤ V6.heap.size from Nat.le_of_eq hbz.symm)
            obtain ⟨z, hz⟩ : ∃ z, t.tier aA = z := ⟨_, rfl⟩
            have OA := Lib.hid (show okP aA from ⟨⟨by decide, by decide⟩, by decide, by decide⟩)
            have TX := Lib.hid (fun W (h : Tw K w W p t F n p2 o F2 n) => show Calls Tryd.prog 18 #[.pointer (some ⟨p, 0, none⟩), .agg #[.int .i64 1, .int .i64 1]] W fun e w' => e = .returned (.int .i64 z) ∧ Below W.heap.size W w' from (tier_at h.x OA.out hz).mono fun _ _ ⟨h1, _, h3⟩ => ⟨h1, h3⟩)
            have TY := Lib.hid (fun W (h : Tw K w W p t F n p2 o F2 n) => show Calls Tryd.prog 18 #[.pointer (some ⟨p2, 0, none⟩), .agg #[.int .i64 1, .int .i64 1]] W fun e w' => e = .returned (.int .i64 z) ∧ Below W.heap.size W w' from (tier_at h.y OA.out ((rel_tier R.out).trans hz)).mono fun _ _ ⟨h1, _, h3⟩ => ⟨h1, h3⟩)
            have e0 := A6'.out.k.cell 0 (.int .i64 1) rfl
            have e1 := A6'.out.k.cell 1 (.int .i64 1) rfl
            have KL := Lib.hid (show (keepA t.D).length ≤ 1000 by
              have h1 : (keepA t.D).length ≤ t.D.length := List.length_filter_le _ _
              have := LD.out
              omega)
            clear ho hsg hb T AT SW hbz
            go_wp2_with fail
            clear R hz
            have DW := Lib.hid ((Below.refl V6.heap.size V6).drew)
            replace T6 := Lib.hid (T6.out.below DW.out)
            replace A6' := Lib.hid (A6'.out.low DW.out)
            replace SG := Lib.hid (SG.out.lowP Z6.out DW.out)
            replace SW6 := Lib.hid (SW6.out.lowP Z6.out DW.out)
            replace Z6 := Lib.hid (Nat.le_trans Z6.out DW.out.size)
            clear DW
            go_region_held3 (fun w' => w'.cell? ⟨b0, 0, none⟩ = some (.int .i64 1) ∧ w'.cell? ⟨b0, 1, none⟩ = some (.int .i64 1)) (first | exact ⟨e0, e1⟩ | go_keep) ((first
              | (go_at_call 18
                 (first | (with_reducible refine (TX.out _ T6.out).mono ?_) | (with_reducible refine (TY.out _ T6.out).mono ?_))
                 rintro e w7 ⟨rfl, hb⟩
                 replace T6 := Lib.hid (T6.out.below hb)
                 replace A6' := Lib.hid (A6'.out.low hb)
                 replace SG := Lib.hid (SG.out.lowP Z6.out hb)
                 replace SW6 := Lib.hid (SW6.out.lowP Z6.out hb)
                 replace Z6 := Lib.hid (Nat.le_trans Z6.out hb.size)
                 replace e0 := A6'.out.k.cell 0 (.int .i64 1) rfl
                 replace e1 := A6'.out.k.cell 1 (.int .i64 1) rfl
                 clear hb)))
            all_goals
              clear e0 e1
              go_wp2_with fail
              go_loopw [97] (fun i wr => ∃ j : Nat, j ≤ (keepA t.D).length ∧ i = .int .i64 j ∧ Hid (SlD wr (fun g => g < bz) A6 (keepA t.D)) ∧ Hid (SlD wr (fun g => g < bz) A5 (keepA t.D)) ∧ Hid (Below w.heap.size w wr)) (fun i _ => (keepA t.D).length - (intOf i).toNat)
              case atStart => exact ⟨0, by omega, rfl, SG, SW6, Lib.hid T6.out.x.b⟩
              case round =>
                clear SG SW6 T6 A6' Z6
                obtain ⟨j, hj, rfl, SG, SW, WB⟩ := hrel
                by_cases hlt : j < (keepA t.D).length
                · obtain ⟨dd, hdj⟩ : ∃ dd, (keepA t.D)[j]? = some dd := ⟨_, List.getElem?_eq_getElem hlt⟩
                  obtain ⟨g1, rfl, _, y0, y1, y2, y3⟩ := SG.out j dd hdj
                  obtain ⟨g2, rfl, _, z0, z1, z2, z3⟩ := SW.out j dd hdj
                  obtain ⟨⟨px, py⟩, dt, dy⟩ := dd
                  obtain ⟨y, hy⟩ : ∃ y, bsL dy = y := ⟨_, rfl⟩
                  simp only at y0 y1 y2 y3 z0 z1 z2 z3
                  rw [hy] at y3 z3
                  clear hy hdj
                  have h5 : (j : Int) < (keepA t.D).length := by omega
                  have jb : (j : Int) < 1000 := by have := KL.out; omega
                  have hk0 : (0 : Int) ≤ j := by omega
                  go_wp2_with fail
                  go_quiet (fail)
                  have SGN := Lib.hid (show SlD (wr.drewN nq) (fun g => g < bz) (some ⟨g1, 0, none⟩) (keepA t.D) from SG.out)
                  have SWN := Lib.hid (show SlD (wr.drewN nq) (fun g => g < bz) (some ⟨g2, 0, none⟩) (keepA t.D) from SW.out)
                  have WBN := Lib.hid (show Below w.heap.size w (wr.drewN nq) from WB.out.trans ⟨rfl, rfl, rfl, Nat.le_refl _, fun _ _ => rfl⟩)
                  clear y0 y1 y2 y3 z0 z1 z2 z3
                  go_wp2_with fail
                  go_roundw
                  case rel => exact ⟨j + 1, hlt, by go_num, SGN, SWN, WBN⟩
                  case measure => simp [intOf]; omega
                · have h5 : ¬ (j : Int) < (keepA t.D).length := by omega
                  go_wp2_with fail
                  go_ret
                  exact ⟨rfl, WB.out⟩
end Go.Proofs.YtjoffbgfokedlaaDoor.Pf
