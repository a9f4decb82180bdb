/-
  The landed profile: Left, Failed, Tier.
-/
import Derived.Test.YtjoffbgfokedlaaDoorSw
namespace Go.Proofs.YtjoffbgfokedlaaDoor.Pf
open Go Go.RowKit Go.Maps

set_option maxRecDepth 100000 in
set_option maxHeartbeats 8000000 in
theorem left_new (w : World) (p : Nat) (t : Pst) (F : Nat → Prop) (n : Nat) (a : Plc) (e : Int) (h : ProfH w p t F) (hk : t.Ok n) (ha : okP a) (hp : lk a t.L = none) :
    Calls Tryd.prog 24 #[.pointer (some ⟨p, 0, none⟩), plcV a, .int .i64 e] w (To ProfH w p F (t.left a e).2 (.bool (t.left a e).1)) := by
  obtain ⟨mb, v, f, h⟩ := h
  have HX := Lib.hid (hk.get a)
  have B1 := Lib.hid ((Below.refl _ w).alloc (Nat.le_refl _) (.cells #[.int .i64 a.1, .int .i64 a.2] 43))
  have LO := Lib.hid (code_loop _ (h.below B1.out) ha)
  have hnk := lk_none.1 hp
  have XX := Lib.hid (show t.get a = sp0 by unfold Pst.get; rw [hp]; rfl)
  have PO := Lib.hid (show ptrO t.L f a = none from if_neg hnk)
  rw [PO.out] at LO
  have SM := Lib.hid (fun W (hb : Below w.heap.size w W) => Rdy.same h hb)
  clear hnk
  have EQ := Lib.hid (show t.left a e = (false, t) by unfold Pst.left; rw [XX.out]; rfl)
  obtain ⟨ax, ay⟩ := a
  unfold plcV at *
  simp only at B1 LO
  clear h hk ha hp
  go_enter Tryd.func24, Tryd.ntmps24
  go_wp2_with fail
  refine LO.out.mono ?_
  rintro e W1 ⟨rfl, hb⟩
  have BW := Lib.hid (B1.out.trans (hb.mono B1.out.size))
  have S0 := Lib.hid (SM.out W1 BW.out)
  clear hb LO PO SM
  go_wp2_with fail
  go_ret
  rw [EQ.out]; exact (S0.out.to (.bool false))
set_option maxRecDepth 100000 in
set_option maxHeartbeats 8000000 in
theorem left_tier (w : World) (p : Nat) (t : Pst) (F : Nat → Prop) (n : Nat) (a : Plc) (e : Int) (h : ProfH w p t F) (hk : t.Ok n) (ha : okP a) (hp : lk a t.L ≠ none) (h1 : ¬ (t.get a).tier = 2) :
    Calls Tryd.prog 24 #[.pointer (some ⟨p, 0, none⟩), plcV a, .int .i64 e] w (To ProfH w p F (t.left a e).2 (.bool (t.left a e).1)) := by
  obtain ⟨mb, v, f, h⟩ := h
  have HX := Lib.hid (hk.get a)
  have B1 := Lib.hid ((Below.refl _ w).alloc (Nat.le_refl _) (.cells #[.int .i64 a.1, .int .i64 a.2] 43))
  have LO := Lib.hid (code_loop _ (h.below B1.out) ha)
  obtain ⟨x, hx⟩ : ∃ x, lk a t.L = some x := Option.ne_none_iff_exists'.1 hp
  have XX := Lib.hid (show t.get a = x by unfold Pst.get; rw [hx]; rfl)
  have PO := Lib.hid (show ptrO t.L f a = some ⟨(f a).b, 0, none⟩ from if_pos (lk_key hx))
  rw [PO.out] at LO
  have RD := Lib.hid (fun W (hb : Below w.heap.size w W) => Rdy.there h hx hb)
  have SM := Lib.hid (fun W (hb : Below w.heap.size w W) => Rdy.same h hb)
  obtain ⟨d, hd⟩ : ∃ d, f a = d := ⟨_, rfl⟩
  rw [hd] at LO
  have HD := Lib.hid hd
  rw [XX.out] at HX
  clear hx hd
  have EQ := Lib.hid (show t.left a e = (false, t) by unfold Pst.left; rw [if_neg (fun h => h1 h.1)])
  rw [XX.out] at h1
  have k1 : (x.tier != 2) = true := by simpa using h1
  obtain ⟨ax, ay⟩ := a
  unfold plcV at *
  simp only at B1 LO
  clear h hk ha hp h1
  go_enter Tryd.func24, Tryd.ntmps24
  go_wp2_with fail
  refine LO.out.mono ?_
  rintro e W1 ⟨rfl, hb⟩
  have BW := Lib.hid (B1.out.trans (hb.mono B1.out.size))
  have R0 := Lib.hid (RD.out W1 BW.out)
  have S0 := Lib.hid (SM.out W1 BW.out)
  clear hb RD LO PO SM
  obtain ⟨⟨z0, z1, z2, z4, z5⟩, ⟨c0, c1, c2, c3⟩, fz, nbp, npb, bl, pl⟩ := R0.out.cells HD.out
  go_wp2_with fail
  go_ret
  rw [EQ.out]; exact (S0.out.to (.bool false))
set_option maxRecDepth 100000 in
set_option maxHeartbeats 8000000 in
theorem left_neg (w : World) (p : Nat) (t : Pst) (F : Nat → Prop) (n : Nat) (a : Plc) (e : Int) (h : ProfH w p t F) (hk : t.Ok n) (ha : okP a) (hp : lk a t.L ≠ none) (h1 : (t.get a).tier = 2) (h2 : ¬ 0 ≤ e) :
    Calls Tryd.prog 24 #[.pointer (some ⟨p, 0, none⟩), plcV a, .int .i64 e] w (To ProfH w p F (t.left a e).2 (.bool (t.left a e).1)) := by
  obtain ⟨mb, v, f, h⟩ := h
  have HX := Lib.hid (hk.get a)
  have B1 := Lib.hid ((Below.refl _ w).alloc (Nat.le_refl _) (.cells #[.int .i64 a.1, .int .i64 a.2] 43))
  have LO := Lib.hid (code_loop _ (h.below B1.out) ha)
  obtain ⟨x, hx⟩ : ∃ x, lk a t.L = some x := Option.ne_none_iff_exists'.1 hp
  have XX := Lib.hid (show t.get a = x by unfold Pst.get; rw [hx]; rfl)
  have PO := Lib.hid (show ptrO t.L f a = some ⟨(f a).b, 0, none⟩ from if_pos (lk_key hx))
  rw [PO.out] at LO
  have RD := Lib.hid (fun W (hb : Below w.heap.size w W) => Rdy.there h hx hb)
  have SM := Lib.hid (fun W (hb : Below w.heap.size w W) => Rdy.same h hb)
  obtain ⟨d, hd⟩ : ∃ d, f a = d := ⟨_, rfl⟩
  rw [hd] at LO
  have HD := Lib.hid hd
  rw [XX.out] at HX
  clear hx hd
  have EQ := Lib.hid (show t.left a e = (false, t) by unfold Pst.left; rw [if_neg (fun h => h2 h.2)])
  rw [XX.out] at h1
  have k1 : (x.tier != 2) = false := by simpa using h1
  have k2 : decide (e < 0) = true := decide_eq_true (by omega)
  obtain ⟨ax, ay⟩ := a
  unfold plcV at *
  simp only at B1 LO
  clear h hk ha hp h1 h2
  go_enter Tryd.func24, Tryd.ntmps24
  go_wp2_with fail
  refine LO.out.mono ?_
  rintro e W1 ⟨rfl, hb⟩
  have BW := Lib.hid (B1.out.trans (hb.mono B1.out.size))
  have R0 := Lib.hid (RD.out W1 BW.out)
  have S0 := Lib.hid (SM.out W1 BW.out)
  clear hb RD LO PO SM
  obtain ⟨⟨z0, z1, z2, z4, z5⟩, ⟨c0, c1, c2, c3⟩, fz, nbp, npb, bl, pl⟩ := R0.out.cells HD.out
  go_wp2_with fail
  go_ret
  rw [EQ.out]; exact (S0.out.to (.bool false))
set_option maxRecDepth 100000 in
set_option maxHeartbeats 8000000 in
theorem left_less (w : World) (p : Nat) (t : Pst) (F : Nat → Prop) (n : Nat) (a : Plc) (e : Int) (h : ProfH w p t F) (hG : Pw w) (hk : t.Ok n) (hn : n ≤ 1000000) (ha : okP a) (he : I64 e) (hp : lk a t.L ≠ none) (h1 : (t.get a).tier = 2) (h2 : 0 ≤ e) (h3 : (t.get a).ex e + 1 < t.c) :
    Calls Tryd.prog 24 #[.pointer (some ⟨p, 0, none⟩), plcV a, .int .i64 e] w (To ProfH w p F (t.left a e).2 (.bool (t.left a e).1)) := by
  obtain ⟨mb, v, f, h⟩ := h
  have HX := Lib.hid (hk.get a)
  have LIM := Lib.hid hk.lim
  have DEC := Lib.hid hk.dec
  have HG := Lib.hid hG
  have HI := Lib.hid h.hi
  have B1 := Lib.hid ((Below.refl _ w).alloc (Nat.le_refl _) (.cells #[.int .i64 a.1, .int .i64 a.2] 43))
  have LO := Lib.hid (code_loop _ (h.below B1.out) ha)
  obtain ⟨x, hx⟩ : ∃ x, lk a t.L = some x := Option.ne_none_iff_exists'.1 hp
  have XX := Lib.hid (show t.get a = x by unfold Pst.get; rw [hx]; rfl)
  have PO := Lib.hid (show ptrO t.L f a = some ⟨(f a).b, 0, none⟩ from if_pos (lk_key hx))
  rw [PO.out] at LO
  have RD := Lib.hid (fun W (hb : Below w.heap.size w W) => Rdy.there h hx hb)
  have SM := Lib.hid (fun W (hb : Below w.heap.size w W) => Rdy.same h hb)
  obtain ⟨d, hd⟩ : ∃ d, f a = d := ⟨_, rfl⟩
  rw [hd] at LO
  have HD := Lib.hid hd
  rw [XX.out] at HX
  clear hx hd
  have EQ := Lib.hid (show t.left a e = (false, (t.turn a ({ t.get a with ex := fun i => if i = e then (t.get a).ex e + 1 else (t.get a).ex i, en := (t.get a).en + 1 }, none)).2) by unfold Pst.left; rw [if_pos ⟨h1, h2⟩]; unfold leftS; rw [if_pos h3]; rfl)
  rw [XX.out] at EQ
  rw [XX.out] at h1 h3
  have k1 : (x.tier != 2) = false := by simpa using h1
  have k2 : decide (e < 0) = false := decide_eq_false (by omega)
  have x0 := HX.out.e0 e
  have x1 := HX.out.e1 e
  have HE := Lib.hid he
  have EN := Lib.hid (show x.en ≤ 1000000000 by have := HX.out.en; omega)
  obtain ⟨k, hkk⟩ : ∃ k, x.ex e = k := ⟨_, rfl⟩
  rw [hkk] at x0 x1 h3
  have KK := Lib.hid hkk
  have IK := Lib.hid (show I64 (k + 1) from ⟨by omega, by omega⟩)
  rw [hkk] at EQ
  have k3 : decide (k + 1 < t.c) = true := decide_eq_true h3
  obtain ⟨ax, ay⟩ := a
  unfold plcV at *
  simp only at B1 LO
  clear h hk ha hp h1 h2 h3 he hG hkk
  go_enter Tryd.func24, Tryd.ntmps24
  go_wp2_with fail
  refine LO.out.mono ?_
  rintro e W1 ⟨rfl, hb⟩
  have BW := Lib.hid (B1.out.trans (hb.mono B1.out.size))
  have R0 := Lib.hid (RD.out W1 BW.out)
  have S0 := Lib.hid (SM.out W1 BW.out)
  clear hb RD LO PO SM
  obtain ⟨⟨z0, z1, z2, z4, z5⟩, ⟨c0, c1, c2, c3⟩, fz, nbp, npb, bl, pl⟩ := R0.out.cells HD.out
  have L1 := R0.out.times HD.out HE.out
  rw [KK.out] at L1
  obtain ⟨W2, hu, hr⟩ := R0.out.exit HD.out HE.out IK.out EN.out
  have R1 := Lib.hid hr
  have L2 := R1.out.times HD.out HE.out
  simp only [if_true] at L2
  obtain ⟨⟨y0, y1, y2, y4, y5⟩, ⟨e0, e1, e2, e3⟩, gz, _, _, bl2, pl2⟩ := R1.out.cells HD.out
  simp only at y0 y1 y2
  clear hr fz gz
  have S1 := Lib.hid (R1.out.done)
  clear S0 R0 R1
  go_wp2_with fail
  go_ret
  rw [EQ.out]; exact (S1.out.to (.bool false))
set_option maxRecDepth 100000 in
set_option maxHeartbeats 8000000 in
theorem left_back (w : World) (p : Nat) (t : Pst) (F : Nat → Prop) (n : Nat) (a : Plc) (e : Int) (h : ProfH w p t F) (hG : Pw w) (hk : t.Ok n) (hn : n ≤ 1000000) (ha : okP a) (he : I64 e) (hp : lk a t.L ≠ none) (h1 : (t.get a).tier = 2) (h2 : 0 ≤ e) (h3 : ¬ (t.get a).ex e + 1 < t.c) :
    Calls Tryd.prog 24 #[.pointer (some ⟨p, 0, none⟩), plcV a, .int .i64 e] w (To ProfH w p F (t.left a e).2 (.bool (t.left a e).1)) := by
  obtain ⟨mb, v, f, h⟩ := h
  have HX := Lib.hid (hk.get a)
  have LIM := Lib.hid hk.lim
  have DEC := Lib.hid hk.dec
  have HG := Lib.hid hG
  have HI := Lib.hid h.hi
  have B1 := Lib.hid ((Below.refl _ w).alloc (Nat.le_refl _) (.cells #[.int .i64 a.1, .int .i64 a.2] 43))
  have LO := Lib.hid (code_loop _ (h.below B1.out) ha)
  obtain ⟨x, hx⟩ : ∃ x, lk a t.L = some x := Option.ne_none_iff_exists'.1 hp
  have XX := Lib.hid (show t.get a = x by unfold Pst.get; rw [hx]; rfl)
  have PO := Lib.hid (show ptrO t.L f a = some ⟨(f a).b, 0, none⟩ from if_pos (lk_key hx))
  rw [PO.out] at LO
  have RD := Lib.hid (fun W (hb : Below w.heap.size w W) => Rdy.there h hx hb)
  have SM := Lib.hid (fun W (hb : Below w.heap.size w W) => Rdy.same h hb)
  obtain ⟨d, hd⟩ : ∃ d, f a = d := ⟨_, rfl⟩
  rw [hd] at LO
  have HD := Lib.hid hd
  rw [XX.out] at HX
  clear hx hd
  have EQ := Lib.hid (show t.left a e = (true, (t.turn a (setB (t.get a) t.w 1 (tExit ++ numT e ++ tLeft ++ numT ((t.get a).ex e + 1) ++ tTimes))).2) by
    unfold Pst.left; rw [if_pos ⟨h1, h2⟩]; unfold leftS; rw [if_neg h3]
    refine Prod.ext ?_ rfl
    unfold Pst.turn setB
    split <;> rfl)
  rw [XX.out] at EQ
  rw [XX.out] at h1 h3
  have k1 : (x.tier != 2) = false := by simpa using h1
  have k2 : decide (e < 0) = false := decide_eq_false (by omega)
  have x0 := HX.out.e0 e
  have x1 := HX.out.e1 e
  have HE := Lib.hid he
  have EN := Lib.hid (show x.en ≤ 1000000000 by have := HX.out.en; omega)
  obtain ⟨k, hkk⟩ : ∃ k, x.ex e = k := ⟨_, rfl⟩
  rw [hkk] at x0 x1 h3
  have KK := Lib.hid hkk
  have IK := Lib.hid (show I64 (k + 1) from ⟨by omega, by omega⟩)
  rw [hkk] at EQ
  have k3 : decide (k + 1 < t.c) = false := decide_eq_false h3
  obtain ⟨l, hl⟩ : ∃ l, tExit ++ numT e ++ tLeft ++ numT (k + 1) ++ tTimes = l := ⟨_, rfl⟩
  rw [hl] at EQ
  have JS := Lib.hid (show l.length ≤ 1000 by
    have h1 := numT_len HE.out
    have h2 := numT_len IK.out
    have : tExit.length = 5 := rfl
    have : tLeft.length = 6 := rfl
    have : tTimes.length = 6 := rfl
    rw [← hl]; simp only [List.length_append]; omega)
  have JL := Lib.hid (show bExit.data.toList ++ 32 :: ((bsL (numT e)).data.toList ++ 32 :: (bLeft.data.toList ++ 32 :: ((bsL (numT (k + 1))).data.toList ++ 32 :: bTimes.data.toList))) = l by
    rw [← hl]
    simp [bs_list, tExit, tLeft, tTimes, bExit, bLeft, bTimes])
  have XD := Lib.hid (show t.D.length ≤ 1000000 by have := DEC.out; omega)
  have GI := Lib.hid (fun W (r : Chg F w W) => HG.out.chg r HI.out)
  have OX := Lib.hid (show Spot.Ok { x with ex := fun i => if i = e then k + 1 else x.ex i, en := x.en + 1 } (n + 1) from by
    have ho := HX.out.up (Nat.le_succ n)
    refine ⟨ho.t0, ho.t1, ho.c0, ho.c1, ho.k0, ho.k1, ho.f0, ho.f1, ho.g, fun i => ?_, fun i => ?_, Nat.succ_le_succ HX.out.en⟩
    · have := ho.e0 i
      simp only; split <;> omega
    · have := ho.e1 i
      simp only; split <;> omega)
  clear hl
  obtain ⟨ax, ay⟩ := a
  unfold plcV at *
  simp only at B1 LO
  clear h hk ha hp h1 h2 h3 he hG hkk
  go_enter Tryd.func24, Tryd.ntmps24
  go_wp2_with fail
  refine LO.out.mono ?_
  rintro e W1 ⟨rfl, hb⟩
  have BW := Lib.hid (B1.out.trans (hb.mono B1.out.size))
  have R0 := Lib.hid (RD.out W1 BW.out)
  have S0 := Lib.hid (SM.out W1 BW.out)
  clear hb RD LO PO SM
  obtain ⟨⟨z0, z1, z2, z4, z5⟩, ⟨c0, c1, c2, c3⟩, fz, nbp, npb, bl, pl⟩ := R0.out.cells HD.out
  have L1 := R0.out.times HD.out HE.out
  rw [KK.out] at L1
  obtain ⟨W2, hu, hr⟩ := R0.out.exit HD.out HE.out IK.out EN.out
  have R1 := Lib.hid hr
  have L2 := R1.out.times HD.out HE.out
  simp only [if_true] at L2
  obtain ⟨⟨y0, y1, y2, y4, y5⟩, ⟨e0, e1, e2, e3⟩, gz, _, _, bl2, pl2⟩ := R1.out.cells HD.out
  simp only at y0 y1 y2
  clear hr fz gz
  clear S0 R0
  go_wp2_with fail
  refine (itoa_c e HE.out _ (GI.out _ R1.out.chg)).mono ?_
  rintro e1 w3 ⟨rfl, hb⟩
  replace R1 := Lib.hid (R1.out.low hb)
  clear hb
  go_wp2_with fail
  refine (itoa_c (k + 1) IK.out _ (GI.out _ R1.out.chg)).mono ?_
  rintro e1 w4 ⟨rfl, hb⟩
  replace R1 := Lib.hid (R1.out.low hb)
  clear hb
  go_wp2_with fail
  refine (join_five _ bExit (bsL (numT e)) bLeft (bsL (numT (k + 1))) bTimes l _ (Bk.new _ _ _) JL.out (by have := JS.out; omega)).mono ?_
  rintro e1 w5 ⟨rfl, hb⟩
  replace R1 := Lib.hid ((R1.out.low ((Below.refl _ _).alloc (Nat.le_refl _) _)).low hb)
  clear hb
  go_wp2_with fail
  refine (code_setBack_at R1.out HD.out OX.out 1 (bsL l) (bs_list l) (by rw [bsL_size]; exact JS.out) XD.out t.w).mono ?_
  rintro e1 w6 ⟨rfl, ⟨y2, gz, e1⟩, hp⟩
  rw [setB_ex] at hp
  have G := Lib.hid (hp.to (.bool true))
  clear hp R1
  go_wp2_with fail
  go_ret
  rw [EQ.out]; exact G.out
set_option maxRecDepth 100000 in
set_option maxHeartbeats 8000000 in
theorem failed_new (w : World) (p : Nat) (t : Pst) (F : Nat → Prop) (n : Nat) (a : Plc) (e : Int) (h : ProfH w p t F) (hk : t.Ok n) (ha : okP a) (hp : lk a t.L = none) :
    Calls Tryd.prog 26 #[.pointer (some ⟨p, 0, none⟩), plcV a, .int .i64 e] w (To ProfH w p F (t.failed a e) (.tuple #[])) := by
  obtain ⟨mb, v, f, h⟩ := h
  have HX := Lib.hid (hk.get a)
  have B1 := Lib.hid ((Below.refl _ w).alloc (Nat.le_refl _) (.cells #[.int .i64 a.1, .int .i64 a.2] 43))
  have LO := Lib.hid (code_loop _ (h.below B1.out) ha)
  have hnk := lk_none.1 hp
  have XX := Lib.hid (show t.get a = sp0 by unfold Pst.get; rw [hp]; rfl)
  have PO := Lib.hid (show ptrO t.L f a = none from if_neg hnk)
  rw [PO.out] at LO
  have SM := Lib.hid (fun W (hb : Below w.heap.size w W) => Rdy.same h hb)
  clear hnk
  have EQ := Lib.hid (show t.failed a e = t by unfold Pst.failed; rw [XX.out]; rfl)
  obtain ⟨ax, ay⟩ := a
  unfold plcV at *
  simp only at B1 LO
  clear h hk ha hp
  go_enter Tryd.func26, Tryd.ntmps26
  go_wp2_with fail
  refine LO.out.mono ?_
  rintro e W1 ⟨rfl, hb⟩
  have BW := Lib.hid (B1.out.trans (hb.mono B1.out.size))
  have S0 := Lib.hid (SM.out W1 BW.out)
  clear hb LO PO SM
  go_wp2_with fail
  go_end0
  rw [EQ.out]; exact (S0.out.to (.tuple #[]))
set_option maxRecDepth 100000 in
set_option maxHeartbeats 8000000 in
theorem failed_zero_ (w : World) (p : Nat) (t : Pst) (F : Nat → Prop) (n : Nat) (a : Plc) (e : Int) (h : ProfH w p t F) (hk : t.Ok n) (ha : okP a) (hp : lk a t.L ≠ none) (h1 : (t.get a).tier = 0) :
    Calls Tryd.prog 26 #[.pointer (some ⟨p, 0, none⟩), plcV a, .int .i64 e] w (To ProfH w p F (t.failed a e) (.tuple #[])) := by
  obtain ⟨mb, v, f, h⟩ := h
  have HX := Lib.hid (hk.get a)
  have B1 := Lib.hid ((Below.refl _ w).alloc (Nat.le_refl _) (.cells #[.int .i64 a.1, .int .i64 a.2] 43))
  have LO := Lib.hid (code_loop _ (h.below B1.out) ha)
  obtain ⟨x, hx⟩ : ∃ x, lk a t.L = some x := Option.ne_none_iff_exists'.1 hp
  have XX := Lib.hid (show t.get a = x by unfold Pst.get; rw [hx]; rfl)
  have PO := Lib.hid (show ptrO t.L f a = some ⟨(f a).b, 0, none⟩ from if_pos (lk_key hx))
  rw [PO.out] at LO
  have RD := Lib.hid (fun W (hb : Below w.heap.size w W) => Rdy.there h hx hb)
  have SM := Lib.hid (fun W (hb : Below w.heap.size w W) => Rdy.same h hb)
  obtain ⟨d, hd⟩ : ∃ d, f a = d := ⟨_, rfl⟩
  rw [hd] at LO
  have HD := Lib.hid hd
  rw [XX.out] at HX
  clear hx hd
  have EQ := Lib.hid (show t.failed a e = t by unfold Pst.failed; rw [if_neg (fun h => by have := h.1; omega)])
  rw [XX.out] at h1
  have k1 : (x.tier == 0) = true := by simpa using h1
  obtain ⟨ax, ay⟩ := a
  unfold plcV at *
  simp only at B1 LO
  clear h hk ha hp h1
  go_enter Tryd.func26, Tryd.ntmps26
  go_wp2_with fail
  refine LO.out.mono ?_
  rintro e W1 ⟨rfl, hb⟩
  have BW := Lib.hid (B1.out.trans (hb.mono B1.out.size))
  have R0 := Lib.hid (RD.out W1 BW.out)
  have S0 := Lib.hid (SM.out W1 BW.out)
  clear hb RD LO PO SM
  obtain ⟨⟨z0, z1, z2, z4, z5⟩, ⟨c0, c1, c2, c3⟩, fz, nbp, npb, bl, pl⟩ := R0.out.cells HD.out
  go_wp2_with fail
  go_end0
  rw [EQ.out]; exact (S0.out.to (.tuple #[]))
set_option maxRecDepth 100000 in
set_option maxHeartbeats 8000000 in
theorem failed_gone_ (w : World) (p : Nat) (t : Pst) (F : Nat → Prop) (n : Nat) (a : Plc) (e : Int) (h : ProfH w p t F) (hk : t.Ok n) (ha : okP a) (hp : lk a t.L ≠ none) (h1 : (t.get a).tier = -1) :
    Calls Tryd.prog 26 #[.pointer (some ⟨p, 0, none⟩), plcV a, .int .i64 e] w (To ProfH w p F (t.failed a e) (.tuple #[])) := by
  obtain ⟨mb, v, f, h⟩ := h
  have HX := Lib.hid (hk.get a)
  have B1 := Lib.hid ((Below.refl _ w).alloc (Nat.le_refl _) (.cells #[.int .i64 a.1, .int .i64 a.2] 43))
  have LO := Lib.hid (code_loop _ (h.below B1.out) ha)
  obtain ⟨x, hx⟩ : ∃ x, lk a t.L = some x := Option.ne_none_iff_exists'.1 hp
  have XX := Lib.hid (show t.get a = x by unfold Pst.get; rw [hx]; rfl)
  have PO := Lib.hid (show ptrO t.L f a = some ⟨(f a).b, 0, none⟩ from if_pos (lk_key hx))
  rw [PO.out] at LO
  have RD := Lib.hid (fun W (hb : Below w.heap.size w W) => Rdy.there h hx hb)
  have SM := Lib.hid (fun W (hb : Below w.heap.size w W) => Rdy.same h hb)
  obtain ⟨d, hd⟩ : ∃ d, f a = d := ⟨_, rfl⟩
  rw [hd] at LO
  have HD := Lib.hid hd
  rw [XX.out] at HX
  clear hx hd
  have EQ := Lib.hid (show t.failed a e = t by unfold Pst.failed; rw [if_neg (fun h => by have := h.1; omega)])
  rw [XX.out] at h1
  have k1 : (x.tier == 0) = false := by rw [h1]; rfl
  have k2 : (x.tier == -1) = true := by simpa using h1
  obtain ⟨ax, ay⟩ := a
  unfold plcV at *
  simp only at B1 LO
  clear h hk ha hp h1
  go_enter Tryd.func26, Tryd.ntmps26
  go_wp2_with fail
  refine LO.out.mono ?_
  rintro e W1 ⟨rfl, hb⟩
  have BW := Lib.hid (B1.out.trans (hb.mono B1.out.size))
  have R0 := Lib.hid (RD.out W1 BW.out)
  have S0 := Lib.hid (SM.out W1 BW.out)
  clear hb RD LO PO SM
  obtain ⟨⟨z0, z1, z2, z4, z5⟩, ⟨c0, c1, c2, c3⟩, fz, nbp, npb, bl, pl⟩ := R0.out.cells HD.out
  go_wp2_with fail
  go_end0
  rw [EQ.out]; exact (S0.out.to (.tuple #[]))
set_option maxRecDepth 100000 in
set_option maxHeartbeats 8000000 in
theorem failed_ok_ (w : World) (p : Nat) (t : Pst) (F : Nat → Prop) (n : Nat) (a : Plc) (e : Int) (h : ProfH w p t F) (hk : t.Ok n) (ha : okP a) (hp : lk a t.L ≠ none) (h1 : 1 ≤ (t.get a).tier) (h2 : e = 0) :
    Calls Tryd.prog 26 #[.pointer (some ⟨p, 0, none⟩), plcV a, .int .i64 e] w (To ProfH w p F (t.failed a e) (.tuple #[])) := by
  obtain ⟨mb, v, f, h⟩ := h
  have HX := Lib.hid (hk.get a)
  have B1 := Lib.hid ((Below.refl _ w).alloc (Nat.le_refl _) (.cells #[.int .i64 a.1, .int .i64 a.2] 43))
  have LO := Lib.hid (code_loop _ (h.below B1.out) ha)
  obtain ⟨x, hx⟩ : ∃ x, lk a t.L = some x := Option.ne_none_iff_exists'.1 hp
  have XX := Lib.hid (show t.get a = x by unfold Pst.get; rw [hx]; rfl)
  have PO := Lib.hid (show ptrO t.L f a = some ⟨(f a).b, 0, none⟩ from if_pos (lk_key hx))
  rw [PO.out] at LO
  have RD := Lib.hid (fun W (hb : Below w.heap.size w W) => Rdy.there h hx hb)
  have SM := Lib.hid (fun W (hb : Below w.heap.size w W) => Rdy.same h hb)
  obtain ⟨d, hd⟩ : ∃ d, f a = d := ⟨_, rfl⟩
  rw [hd] at LO
  have HD := Lib.hid hd
  rw [XX.out] at HX
  clear hx hd
  have EQ := Lib.hid (show t.failed a e = t by unfold Pst.failed; rw [if_neg (fun h => h.2 h2)])
  rw [XX.out] at h1
  have k1 : (x.tier == 0) = false := by rw [beq_eq_false_iff_ne]; omega
  have k2 : (x.tier == -1) = false := by rw [beq_eq_false_iff_ne]; omega
  have k3 : (e == 0) = true := by simpa using h2
  obtain ⟨ax, ay⟩ := a
  unfold plcV at *
  simp only at B1 LO
  clear h hk ha hp h1 h2
  go_enter Tryd.func26, Tryd.ntmps26
  go_wp2_with fail
  refine LO.out.mono ?_
  rintro e W1 ⟨rfl, hb⟩
  have BW := Lib.hid (B1.out.trans (hb.mono B1.out.size))
  have R0 := Lib.hid (RD.out W1 BW.out)
  have S0 := Lib.hid (SM.out W1 BW.out)
  clear hb RD LO PO SM
  obtain ⟨⟨z0, z1, z2, z4, z5⟩, ⟨c0, c1, c2, c3⟩, fz, nbp, npb, bl, pl⟩ := R0.out.cells HD.out
  go_wp2_with fail
  go_end0
  rw [EQ.out]; exact (S0.out.to (.tuple #[]))
set_option maxRecDepth 100000 in
set_option maxHeartbeats 8000000 in
theorem failed_back (w : World) (p : Nat) (t : Pst) (F : Nat → Prop) (n : Nat) (a : Plc) (e : Int) (h : ProfH w p t F) (hG : Pw w) (hk : t.Ok n) (hn : n ≤ 1000000) (ha : okP a) (he : I64 e) (hp : lk a t.L ≠ none) (h1 : 1 ≤ (t.get a).tier) (h2 : e ≠ 0) :
    Calls Tryd.prog 26 #[.pointer (some ⟨p, 0, none⟩), plcV a, .int .i64 e] w (To ProfH w p F (t.failed a e) (.tuple #[])) := by
  obtain ⟨mb, v, f, h⟩ := h
  have HX := Lib.hid (hk.get a)
  have LIM := Lib.hid hk.lim
  have DEC := Lib.hid hk.dec
  have HG := Lib.hid hG
  have HI := Lib.hid h.hi
  have B1 := Lib.hid ((Below.refl _ w).alloc (Nat.le_refl _) (.cells #[.int .i64 a.1, .int .i64 a.2] 43))
  have LO := Lib.hid (code_loop _ (h.below B1.out) ha)
  obtain ⟨x, hx⟩ : ∃ x, lk a t.L = some x := Option.ne_none_iff_exists'.1 hp
  have XX := Lib.hid (show t.get a = x by unfold Pst.get; rw [hx]; rfl)
  have PO := Lib.hid (show ptrO t.L f a = some ⟨(f a).b, 0, none⟩ from if_pos (lk_key hx))
  rw [PO.out] at LO
  have RD := Lib.hid (fun W (hb : Below w.heap.size w W) => Rdy.there h hx hb)
  have SM := Lib.hid (fun W (hb : Below w.heap.size w W) => Rdy.same h hb)
  obtain ⟨d, hd⟩ : ∃ d, f a = d := ⟨_, rfl⟩
  rw [hd] at LO
  have HD := Lib.hid hd
  rw [XX.out] at HX
  clear hx hd
  have EQ := Lib.hid (show t.failed a e = (t.turn a (setB (t.get a) 0 0 (tErr ++ numT e))).2 by
    unfold Pst.failed; rw [if_pos ⟨h1, h2⟩]; rfl)
  rw [XX.out] at EQ h1
  have k1 : (x.tier == 0) = false := by rw [beq_eq_false_iff_ne]; omega
  have k2 : (x.tier == -1) = false := by rw [beq_eq_false_iff_ne]; omega
  have k3 : (e == 0) = false := by simpa using h2
  have HE := Lib.hid he
  obtain ⟨l, hl⟩ : ∃ l, tErr ++ numT e = l := ⟨_, rfl⟩
  rw [hl] at EQ
  have JS := Lib.hid (show l.length ≤ 1000 by
    have h1 := numT_len HE.out
    have : tErr.length = 6 := rfl
    rw [← hl]; simp only [List.length_append]; omega)
  have JL := Lib.hid (show bErr.data.toList ++ 32 :: (bsL (numT e)).data.toList = l by
    rw [← hl, bs_list]; rfl)
  have XD := Lib.hid (show t.D.length ≤ 1000000 by have := DEC.out; omega)
  have GI := Lib.hid (fun W (r : Chg F w W) => HG.out.chg r HI.out)
  clear hl
  obtain ⟨ax, ay⟩ := a
  unfold plcV at *
  simp only at B1 LO
  clear h hk ha hp h1 h2 he hG
  go_enter Tryd.func26, Tryd.ntmps26
  go_wp2_with fail
  refine LO.out.mono ?_
  rintro e W1 ⟨rfl, hb⟩
  have BW := Lib.hid (B1.out.trans (hb.mono B1.out.size))
  have R0 := Lib.hid (RD.out W1 BW.out)
  have S0 := Lib.hid (SM.out W1 BW.out)
  clear hb RD LO PO SM
  obtain ⟨⟨z0, z1, z2, z4, z5⟩, ⟨c0, c1, c2, c3⟩, fz, nbp, npb, bl, pl⟩ := R0.out.cells HD.out
  clear S0
  have R1 := R0
  clear R0
  go_wp2_with fail
  refine (itoa_c e HE.out _ (GI.out _ R1.out.chg)).mono ?_
  rintro e1 w3 ⟨rfl, hb⟩
  replace R1 := Lib.hid (R1.out.low hb)
  clear hb
  go_wp2_with fail
  refine (join_two _ bErr (bsL (numT e)) l _ (Bk.new _ _ _) JL.out (by have := JS.out; omega)).mono ?_
  rintro e1 w5 ⟨rfl, hb⟩
  replace R1 := Lib.hid ((R1.out.low ((Below.refl _ _).alloc (Nat.le_refl _) _)).low hb)
  clear hb
  go_wp2_with fail
  refine (code_setBack_at R1.out HD.out HX.out 0 (bsL l) (bs_list l) (by rw [bsL_size]; exact JS.out) XD.out 0).mono ?_
  rintro e1 w6 ⟨rfl, ⟨y2, gz, e1⟩, hp⟩
  have G := Lib.hid (hp.to (.tuple #[]))
  clear hp R1
  go_wp2_with fail
  go_end0
  rw [EQ.out]; exact G.out
set_option maxRecDepth 100000 in
set_option maxHeartbeats 8000000 in
theorem tier_new (w : World) (p : Nat) (t : Pst) (F : Nat → Prop) (n : Nat) (a : Plc) (h : ProfH w p t F) (hk : t.Ok n) (ha : okP a) (hp : lk a t.L = none) :
    Calls Tryd.prog 18 #[.pointer (some ⟨p, 0, none⟩), plcV a] w fun e w' => e = .returned (.int .i64 (t.tier a)) ∧ Below w.heap.size w w' := by
  obtain ⟨mb, v, f, h⟩ := h
  have HX := Lib.hid (hk.get a)
  have B1 := Lib.hid ((Below.refl _ w).alloc (Nat.le_refl _) (.cells #[.int .i64 a.1, .int .i64 a.2] 43))
  have LO := Lib.hid (code_loop _ (h.below B1.out) ha)
  have hnk := lk_none.1 hp
  have XX := Lib.hid (show t.get a = sp0 by unfold Pst.get; rw [hp]; rfl)
  have PO := Lib.hid (show ptrO t.L f a = none from if_neg hnk)
  rw [PO.out] at LO
  have SM := Lib.hid (fun W (hb : Below w.heap.size w W) => Rdy.same h hb)
  clear hnk
  have EQ := Lib.hid (show t.tier a = 0 by unfold Pst.tier; rw [XX.out]; rfl)
  obtain ⟨ax, ay⟩ := a
  unfold plcV at *
  simp only at B1 LO
  clear h hk ha hp
  go_enter Tryd.func18, Tryd.ntmps18
  go_wp2_with fail
  refine LO.out.mono ?_
  rintro e W1 ⟨rfl, hb⟩
  have BW := Lib.hid (B1.out.trans (hb.mono B1.out.size))
  have S0 := Lib.hid (SM.out W1 BW.out)
  clear hb LO PO SM
  go_wp2_with fail
  go_ret
  rw [EQ.out]; exact ⟨rfl, BW.out⟩
set_option maxRecDepth 100000 in
set_option maxHeartbeats 8000000 in
theorem tier_there (w : World) (p : Nat) (t : Pst) (F : Nat → Prop) (n : Nat) (a : Plc) (h : ProfH w p t F) (hk : t.Ok n) (ha : okP a) (hp : lk a t.L ≠ none) :
    Calls Tryd.prog 18 #[.pointer (some ⟨p, 0, none⟩), plcV a] w fun e w' => e = .returned (.int .i64 (t.tier a)) ∧ Below w.heap.size w w' := by
  obtain ⟨mb, v, f, h⟩ := h
  have HX := Lib.hid (hk.get a)
  have B1 := Lib.hid ((Below.refl _ w).alloc (Nat.le_refl _) (.cells #[.int .i64 a.1, .int .i64 a.2] 43))
  have LO := Lib.hid (code_loop _ (h.below B1.out) ha)
  obtain ⟨x, hx⟩ : ∃ x, lk a t.L = some x := Option.ne_none_iff_exists'.1 hp
  have XX := Lib.hid (show t.get a = x by unfold Pst.get; rw [hx]; rfl)
  have PO := Lib.hid (show ptrO t.L f a = some ⟨(f a).b, 0, none⟩ from if_pos (lk_key hx))
  rw [PO.out] at LO
  have RD := Lib.hid (fun W (hb : Below w.heap.size w W) => Rdy.there h hx hb)
  have SM := Lib.hid (fun W (hb : Below w.heap.size w W) => Rdy.same h hb)
  obtain ⟨d, hd⟩ : ∃ d, f a = d := ⟨_, rfl⟩
  rw [hd] at LO
  have HD := Lib.hid hd
  rw [XX.out] at HX
  clear hx hd
  have EQ := Lib.hid (show t.tier a = x.tier by unfold Pst.tier; rw [XX.out])
  obtain ⟨ax, ay⟩ := a
  unfold plcV at *
  simp only at B1 LO
  clear h hk ha hp
  go_enter Tryd.func18, Tryd.ntmps18
  go_wp2_with fail
  refine LO.out.mono ?_
  rintro e W1 ⟨rfl, hb⟩
  have BW := Lib.hid (B1.out.trans (hb.mono B1.out.size))
  have R0 := Lib.hid (RD.out W1 BW.out)
  have S0 := Lib.hid (SM.out W1 BW.out)
  clear hb RD LO PO SM
  obtain ⟨⟨z0, z1, z2, z4, z5⟩, ⟨c0, c1, c2, c3⟩, fz, nbp, npb, bl, pl⟩ := R0.out.cells HD.out
  go_wp2_with fail
  go_ret
  rw [EQ.out]; exact ⟨rfl, BW.out⟩
theorem code_tier (w : World) (p : Nat) (t : Pst) (F : Nat → Prop) (n : Nat) (a : Plc) (h : ProfH w p t F) (hk : t.Ok n) (ha : okP a) :
    Calls Tryd.prog 18 #[.pointer (some ⟨p, 0, none⟩), plcV a] w fun e w' => e = .returned (.int .i64 (t.tier a)) ∧ Below w.heap.size w w' := by
  by_cases hp : lk a t.L = none
  · exact tier_new w p t F n a h hk ha hp
  · exact tier_there w p t F n a h hk ha hp
theorem code_left (w : World) (p : Nat) (t : Pst) (F : Nat → Prop) (n : Nat) (a : Plc) (e : Int) (h : ProfH w p t F) (hG : Pw w) (hk : t.Ok n) (hn : n ≤ 1000000) (ha : okP a) (he : I64 e) :
    Calls Tryd.prog 24 #[.pointer (some ⟨p, 0, none⟩), plcV a, .int .i64 e] w (To ProfH w p F (t.left a e).2 (.bool (t.left a e).1)) := by
  by_cases hp : lk a t.L = none
  · exact left_new w p t F n a e h hk ha hp
  · by_cases h1 : (t.get a).tier = 2
    · by_cases h2 : 0 ≤ e
      · by_cases h3 : (t.get a).ex e + 1 < t.c
        · exact left_less w p t F n a e h hG hk hn ha he hp h1 h2 h3
        · exact left_back w p t F n a e h hG hk hn ha he hp h1 h2 h3
      · exact left_neg w p t F n a e h hk ha hp h1 h2
    · exact left_tier w p t F n a e h hk ha hp h1
theorem code_failed (w : World) (p : Nat) (t : Pst) (F : Nat → Prop) (n : Nat) (a : Plc) (e : Int) (h : ProfH w p t F) (hG : Pw w) (hk : t.Ok n) (hn : n ≤ 1000000) (ha : okP a) (he : I64 e) :
    Calls Tryd.prog 26 #[.pointer (some ⟨p, 0, none⟩), plcV a, .int .i64 e] w (To ProfH w p F (t.failed a e) (.tuple #[])) := by
  by_cases hp : lk a t.L = none
  · exact failed_new w p t F n a e h hk ha hp
  · by_cases h1 : 1 ≤ (t.get a).tier
    · by_cases h2 : e = 0
      · exact failed_ok_ w p t F n a e h hk ha hp h1 h2
      · exact failed_back w p t F n a e h hG hk hn ha he hp h1 h2
    · by_cases h2 : (t.get a).tier = 0
      · exact failed_zero_ w p t F n a e h hk ha hp h2
      · exact failed_gone_ w p t F n a e h hk ha hp (by have := (hk.get a).t0; omega)
end Go.Proofs.YtjoffbgfokedlaaDoor.Pf
