/-
  The landed profile: Back.
-/
import Derived.Test.YtjoffbgfokedlaaDoorSu
namespace Go.Proofs.YtjoffbgfokedlaaDoor.Pf
open Go Go.RowKit Go.Maps

set_option maxRecDepth 100000 in
set_option maxHeartbeats 8000000 in
theorem back_there_T (w : World) (p : Nat) (t : Pst) (F : Nat → Prop) (n : Nat) (a : Plc) (h : ProfH w p t F) (hG : Pw w) (hk : t.Ok n) (_hn : n ≤ 1000000) (ha : okP a) (hp : lk a t.L ≠ none) (h1 : (t.get a).tier = -1) :
    Calls Tryd.prog 23 #[.pointer (some ⟨p, 0, none⟩), plcV a] w (To ProfH w p F (t.back a).2 (.bool (t.back a).1)) := by
  obtain ⟨mb, v, f, h⟩ := h
  have HX := Lib.hid (hk.get a)
  have LIM := Lib.hid hk.lim
  have DEC := Lib.hid hk.dec
  have LEN := Lib.hid hk.len
  have HG := Lib.hid hG
  have HI := Lib.hid h.hi
  have B1 := Lib.hid ((Below.refl _ w).alloc (Nat.le_refl _) (.cells #[.int .i64 a.1, .int .i64 a.2] 43))
  have LO := Lib.hid (code_loop _ (h.below B1.out) ha)
  obtain ⟨x, hx⟩ : ∃ x, lk a t.L = some x := Option.ne_none_iff_exists'.1 hp
  have XX := Lib.hid (show t.get a = x by unfold Pst.get; rw [hx]; rfl)
  have PO := Lib.hid (show ptrO t.L f a = some ⟨(f a).b, 0, none⟩ from if_pos (lk_key hx))
  rw [PO.out] at LO
  have RD := Lib.hid (fun W (hb : Below w.heap.size w W) => Rdy.there h hx hb)
  obtain ⟨d, hd⟩ : ∃ d, f a = d := ⟨_, rfl⟩
  rw [hd] at LO
  have HD := Lib.hid hd
  rw [XX.out] at HX
  clear hx hd
  rw [XX.out] at h1
  have EQ := Lib.hid (show t.back a = (false, (t.turn a (x, none)).2) by unfold Pst.back; rw [XX.out]; unfold backS; rw [if_pos h1]; rfl)
  have cc0 := HX.out.c0
  have cc1 := HX.out.c1
  have cc2 := HX.out.k0
  have cc3 := HX.out.k1
  obtain ⟨⟨s1, s2⟩, ⟨w1, w2⟩, ⟨l1, l2⟩, _, _⟩ := LIM.out
  have EA := Lib.hid (show a = (a.1, a.2) from rfl)
  obtain ⟨ax, ay⟩ := a
  unfold plcV at *
  simp only at B1 LO
  clear h hG hk ha hp
  go_enter Tryd.func23, Tryd.ntmps23
  go_wp2_with fail
  refine LO.out.mono ?_
  rintro e V1 ⟨rfl, hb⟩
  have BW := Lib.hid (B1.out.trans (hb.mono B1.out.size))
  have R0 := Lib.hid (RD.out V1 BW.out)
  clear hb RD LO PO
  revert R0 BW
  rename World => W1
  intro BW R0
  obtain ⟨⟨z0, z1, z2, _, z5⟩, ⟨c0, c1, c2, _⟩, fz, nbp, npb, bl, pl⟩ := R0.out.cells HD.out
  have fz1 := fz 1
  have fz2 := fz 2
  have G := Lib.hid (R0.out.done.to (.bool false))
  rw [h1] at z0
  clear h1 z1 z2 z5 c0 c1 c2 fz
  go_wp2_with fail
  go_ret
  rw [EQ.out]; exact G.out
set_option maxRecDepth 100000 in
set_option maxHeartbeats 8000000 in
theorem back_there_R (w : World) (p : Nat) (t : Pst) (F : Nat → Prop) (n : Nat) (a : Plc) (h : ProfH w p t F) (hG : Pw w) (hk : t.Ok n) (hn : n ≤ 1000000) (ha : okP a) (hp : lk a t.L ≠ none) (h1 : ¬ (t.get a).tier = -1) (h2 : ¬ ((t.get a).calls + 1) % t.s = 0) :
    Calls Tryd.prog 23 #[.pointer (some ⟨p, 0, none⟩), plcV a] w (To ProfH w p F (t.back a).2 (.bool (t.back a).1)) := by
  obtain ⟨mb, v, f, h⟩ := h
  have HX := Lib.hid (hk.get a)
  have LIM := Lib.hid hk.lim
  have DEC := Lib.hid hk.dec
  have LEN := Lib.hid hk.len
  have HG := Lib.hid hG
  have HI := Lib.hid h.hi
  have B1 := Lib.hid ((Below.refl _ w).alloc (Nat.le_refl _) (.cells #[.int .i64 a.1, .int .i64 a.2] 43))
  have LO := Lib.hid (code_loop _ (h.below B1.out) ha)
  obtain ⟨x, hx⟩ : ∃ x, lk a t.L = some x := Option.ne_none_iff_exists'.1 hp
  have XX := Lib.hid (show t.get a = x by unfold Pst.get; rw [hx]; rfl)
  have PO := Lib.hid (show ptrO t.L f a = some ⟨(f a).b, 0, none⟩ from if_pos (lk_key hx))
  rw [PO.out] at LO
  have RD := Lib.hid (fun W (hb : Below w.heap.size w W) => Rdy.there h hx hb)
  obtain ⟨d, hd⟩ : ∃ d, f a = d := ⟨_, rfl⟩
  rw [hd] at LO
  have HD := Lib.hid hd
  rw [XX.out] at HX
  clear hx hd
  rw [XX.out] at h1 h2
  have EQ := Lib.hid (show t.back a = (false, (t.turn a ({ x with calls := x.calls + 1 }, none)).2) by unfold Pst.back; rw [XX.out]; unfold backS; rw [if_neg h1, if_neg h2]; rfl)
  have cc0 := HX.out.c0
  have cc1 := HX.out.c1
  have cc2 := HX.out.k0
  have cc3 := HX.out.k1
  obtain ⟨⟨s1, s2⟩, ⟨w1, w2⟩, ⟨l1, l2⟩, _, _⟩ := LIM.out
  have EA := Lib.hid (show a = (a.1, a.2) from rfl)
  obtain ⟨ax, ay⟩ := a
  unfold plcV at *
  simp only at B1 LO
  clear h hG hk ha hp
  go_enter Tryd.func23, Tryd.ntmps23
  go_wp2_with fail
  refine LO.out.mono ?_
  rintro e V1 ⟨rfl, hb⟩
  have BW := Lib.hid (B1.out.trans (hb.mono B1.out.size))
  have R0 := Lib.hid (RD.out V1 BW.out)
  clear hb RD LO PO
  revert R0 BW
  rename World => W1
  intro BW R0
  obtain ⟨⟨z0, z1, z2, _, z5⟩, ⟨c0, c1, c2, _⟩, fz, nbp, npb, bl, pl⟩ := R0.out.cells HD.out
  have fz1 := fz 1
  have fz2 := fz 2
  have R1 := Lib.hid (R0.out.set (x' := { x with calls := x.calls + 1 }) HD.out 1 (.int .i64 (x.calls + 1)) rfl ⟨rfl, rfl⟩)
  have k1 : (x.tier == -1) = false := by simpa using h1
  have k2 : ((x.calls + 1) % t.s != 0) = true := by simpa using h2
  clear h1 h2 z2 z5 c1 c2 fz
  go_wp2_with fail
  go_quiet (fail)
  have G := Lib.hid ((R1.out.drewN nq).done.to (.bool false))
  go_wp2_with fail
  go_ret
  rw [EQ.out]; exact G.out
set_option maxRecDepth 100000 in
set_option maxHeartbeats 8000000 in
theorem back_there_N (w : World) (p : Nat) (t : Pst) (F : Nat → Prop) (n : Nat) (a : Plc) (h : ProfH w p t F) (hG : Pw w) (hk : t.Ok n) (hn : n ≤ 1000000) (ha : okP a) (hp : lk a t.L ≠ none) (h1 : ¬ (t.get a).tier = -1) (h2 : ((t.get a).calls + 1) % t.s = 0) (h3 : ¬ ((t.get a).tier = 0 ∧ t.w ≤ min ((t.get a).count + 1) 1000000)) (h4 : ¬ ((t.get a).tier = 1 ∧ t.h ≤ min ((t.get a).count + 1) 1000000)) :
    Calls Tryd.prog 23 #[.pointer (some ⟨p, 0, none⟩), plcV a] w (To ProfH w p F (t.back a).2 (.bool (t.back a).1)) := by
  obtain ⟨mb, v, f, h⟩ := h
  have HX := Lib.hid (hk.get a)
  have LIM := Lib.hid hk.lim
  have DEC := Lib.hid hk.dec
  have LEN := Lib.hid hk.len
  have HG := Lib.hid hG
  have HI := Lib.hid h.hi
  have B1 := Lib.hid ((Below.refl _ w).alloc (Nat.le_refl _) (.cells #[.int .i64 a.1, .int .i64 a.2] 43))
  have LO := Lib.hid (code_loop _ (h.below B1.out) ha)
  obtain ⟨x, hx⟩ : ∃ x, lk a t.L = some x := Option.ne_none_iff_exists'.1 hp
  have XX := Lib.hid (show t.get a = x by unfold Pst.get; rw [hx]; rfl)
  have PO := Lib.hid (show ptrO t.L f a = some ⟨(f a).b, 0, none⟩ from if_pos (lk_key hx))
  rw [PO.out] at LO
  have RD := Lib.hid (fun W (hb : Below w.heap.size w W) => Rdy.there h hx hb)
  obtain ⟨d, hd⟩ : ∃ d, f a = d := ⟨_, rfl⟩
  rw [hd] at LO
  have HD := Lib.hid hd
  rw [XX.out] at HX
  clear hx hd
  rw [XX.out] at h1 h2 h3 h4
  have k0 := HX.out.k0
  have k1 := HX.out.k1
  obtain ⟨M, hM⟩ : ∃ M, min (x.count + 1) 1000000 = M := ⟨_, rfl⟩
  have M0 : 0 ≤ M := by omega
  have M1 : M ≤ 1000000 := by omega
  rw [hM] at h3 h4
  have EQ := Lib.hid (show t.back a = (false, (t.turn a ({ x with calls := x.calls + 1, count := M }, none)).2) by unfold Pst.back; rw [XX.out]; unfold backS; rw [hM, if_neg h1, if_pos h2, if_neg h3, if_neg h4]; rfl)
  have cc0 := HX.out.c0
  have cc1 := HX.out.c1
  have cc2 := HX.out.k0
  have cc3 := HX.out.k1
  obtain ⟨⟨s1, s2⟩, ⟨w1, w2⟩, ⟨l1, l2⟩, _, _⟩ := LIM.out
  have EA := Lib.hid (show a = (a.1, a.2) from rfl)
  obtain ⟨ax, ay⟩ := a
  unfold plcV at *
  simp only at B1 LO
  clear h hG hk ha hp
  go_enter Tryd.func23, Tryd.ntmps23
  go_wp2_with fail
  refine LO.out.mono ?_
  rintro e V1 ⟨rfl, hb⟩
  have BW := Lib.hid (B1.out.trans (hb.mono B1.out.size))
  have R0 := Lib.hid (RD.out V1 BW.out)
  clear hb RD LO PO
  revert R0 BW
  rename World => W1
  intro BW R0
  obtain ⟨⟨z0, z1, z2, _, z5⟩, ⟨c0, c1, c2, _⟩, fz, nbp, npb, bl, pl⟩ := R0.out.cells HD.out
  have fz1 := fz 1
  have fz2 := fz 2
  have R1 := Lib.hid (R0.out.set (x' := { x with calls := x.calls + 1 }) HD.out 1 (.int .i64 (x.calls + 1)) rfl ⟨rfl, rfl⟩)
  have k1 : (x.tier == -1) = false := by simpa using h1
  have k2 : ((x.calls + 1) % t.s != 0) = false := by simpa using h2
  have R2 := Lib.hid (fun q => (R1.out.drewN q).set (x' := { x with calls := x.calls + 1, count := M }) HD.out 2 (.int .i64 M) rfl ⟨rfl, rfl⟩)
  by_cases e0 : x.tier = 0
  · have q0 : (x.tier == 0) = true := by simpa using e0
    have q1 : (x.tier == 1) = false := by rw [e0]; rfl
    have q2 : decide (M ≥ t.w) = false := decide_eq_false (fun h => h3 ⟨e0, h⟩)
    clear e0
    clear h1 h2 h3 h4 z5 fz
    go_wp2_with fail
    go_quiet (fail)
    go_wp2_with fail
    have R3 := Lib.hid (R2.out nq)
    clear R0 R1 R2 z0 z1 z2 c0 c1 c2 fz1 fz2 bl pl k2
    generalize ((W1.setCell ⟨d.b, 1, none⟩ (.int .i64 (x.calls + 1))).drewN nq).setCell ⟨d.b, 2, none⟩ (.int .i64 M) = W3 at *
    obtain ⟨⟨z0, z1, z2, _, z5⟩, ⟨c0, c1, c2, _⟩, fz, nbp, npb, bl, pl⟩ := R3.out.cells HD.out
    simp only at z0 z1 z2
    go_quiet (fail)
    have R4 := Lib.hid (R3.out.drewN nq)
    generalize W3.drewN nq = W4 at *
    clear R3 z0 z1 z2 z5 c0 c1 c2 fz
    obtain ⟨⟨z0, z1, z2, _, z5⟩, ⟨c0, c1, c2, _⟩, fz, _, _, bl, pl⟩ := R4.out.cells HD.out
    simp only at z0 z1 z2
    go_wp2_with fail
    go_quiet (fail)
    have G := Lib.hid ((R4.out.drewN nq).done.to (.bool false))
    go_wp2_with fail
    go_ret
    rw [EQ.out]; exact G.out
  by_cases e1 : x.tier = 1
  · have q0 : (x.tier == 0) = false := by simpa using e0
    have q1 : (x.tier == 1) = true := by simpa using e1
    have q2 : decide (M ≥ t.h) = false := decide_eq_false (fun h => h4 ⟨e1, h⟩)
    clear e0 e1
    clear h1 h2 h3 h4 z5 fz
    go_wp2_with fail
    go_quiet (fail)
    go_wp2_with fail
    have R3 := Lib.hid (R2.out nq)
    clear R0 R1 R2 z0 z1 z2 c0 c1 c2 fz1 fz2 bl pl k2
    generalize ((W1.setCell ⟨d.b, 1, none⟩ (.int .i64 (x.calls + 1))).drewN nq).setCell ⟨d.b, 2, none⟩ (.int .i64 M) = W3 at *
    obtain ⟨⟨z0, z1, z2, _, z5⟩, ⟨c0, c1, c2, _⟩, fz, nbp, npb, bl, pl⟩ := R3.out.cells HD.out
    simp only at z0 z1 z2
    go_quiet (fail)
    have R4 := Lib.hid (R3.out.drewN nq)
    generalize W3.drewN nq = W4 at *
    clear R3 z0 z1 z2 z5 c0 c1 c2 fz
    obtain ⟨⟨z0, z1, z2, _, z5⟩, ⟨c0, c1, c2, _⟩, fz, _, _, bl, pl⟩ := R4.out.cells HD.out
    simp only at z0 z1 z2
    go_wp2_with fail
    go_quiet (fail)
    have G := Lib.hid ((R4.out.drewN nq).done.to (.bool false))
    go_wp2_with fail
    go_ret
    rw [EQ.out]; exact G.out
  · have q0 : (x.tier == 0) = false := by simpa using e0
    have q1 : (x.tier == 1) = false := by simpa using e1
    clear e0 e1
    clear h1 h2 h3 h4 z5 fz
    go_wp2_with fail
    go_quiet (fail)
    go_wp2_with fail
    have R3 := Lib.hid (R2.out nq)
    clear R0 R1 R2 z0 z1 z2 c0 c1 c2 fz1 fz2 bl pl k2
    generalize ((W1.setCell ⟨d.b, 1, none⟩ (.int .i64 (x.calls + 1))).drewN nq).setCell ⟨d.b, 2, none⟩ (.int .i64 M) = W3 at *
    obtain ⟨⟨z0, z1, z2, _, z5⟩, ⟨c0, c1, c2, _⟩, fz, nbp, npb, bl, pl⟩ := R3.out.cells HD.out
    simp only at z0 z1 z2
    go_quiet (fail)
    have R4 := Lib.hid (R3.out.drewN nq)
    generalize W3.drewN nq = W4 at *
    clear R3 z0 z1 z2 z5 c0 c1 c2 fz
    obtain ⟨⟨z0, z1, z2, _, z5⟩, ⟨c0, c1, c2, _⟩, fz, _, _, bl, pl⟩ := R4.out.cells HD.out
    simp only at z0 z1 z2
    go_wp2_with fail
    go_quiet (fail)
    have G := Lib.hid ((R4.out.drewN nq).done.to (.bool false))
    go_wp2_with fail
    go_ret
    rw [EQ.out]; exact G.out
set_option maxRecDepth 100000 in
set_option maxHeartbeats 8000000 in
theorem back_there_W (w : World) (p : Nat) (t : Pst) (F : Nat → Prop) (n : Nat) (a : Plc) (h : ProfH w p t F) (hG : Pw w) (hk : t.Ok n) (hn : n ≤ 1000000) (ha : okP a) (hp : lk a t.L ≠ none) (h1 : ¬ (t.get a).tier = -1) (h2 : ((t.get a).calls + 1) % t.s = 0) (h3 : (t.get a).tier = 0 ∧ t.w ≤ min ((t.get a).count + 1) 1000000) :
    Calls Tryd.prog 23 #[.pointer (some ⟨p, 0, none⟩), plcV a] w (To ProfH w p F (t.back a).2 (.bool (t.back a).1)) := by
  obtain ⟨mb, v, f, h⟩ := h
  have HX := Lib.hid (hk.get a)
  have LIM := Lib.hid hk.lim
  have DEC := Lib.hid hk.dec
  have LEN := Lib.hid hk.len
  have HG := Lib.hid hG
  have HI := Lib.hid h.hi
  have B1 := Lib.hid ((Below.refl _ w).alloc (Nat.le_refl _) (.cells #[.int .i64 a.1, .int .i64 a.2] 43))
  have LO := Lib.hid (code_loop _ (h.below B1.out) ha)
  obtain ⟨x, hx⟩ : ∃ x, lk a t.L = some x := Option.ne_none_iff_exists'.1 hp
  have XX := Lib.hid (show t.get a = x by unfold Pst.get; rw [hx]; rfl)
  have PO := Lib.hid (show ptrO t.L f a = some ⟨(f a).b, 0, none⟩ from if_pos (lk_key hx))
  rw [PO.out] at LO
  have RD := Lib.hid (fun W (hb : Below w.heap.size w W) => Rdy.there h hx hb)
  obtain ⟨d, hd⟩ : ∃ d, f a = d := ⟨_, rfl⟩
  rw [hd] at LO
  have HD := Lib.hid hd
  rw [XX.out] at HX
  clear hx hd
  rw [XX.out] at h1 h2 h3
  have k0 := HX.out.k0
  have k1 := HX.out.k1
  obtain ⟨M, hM⟩ : ∃ M, min (x.count + 1) 1000000 = M := ⟨_, rfl⟩
  have M0 : 0 ≤ M := by omega
  have M1 : M ≤ 1000000 := by omega
  rw [hM] at h3
  have EQ := Lib.hid (show t.back a = (true, (t.turn a ({ x with calls := x.calls + 1, count := M, tier := 1 }, some (1, tWarm ++ numT M))).2) by unfold Pst.back; rw [XX.out]; unfold backS; rw [hM, if_neg h1, if_pos h2, if_pos h3]; rfl)
  have cc0 := HX.out.c0
  have cc1 := HX.out.c1
  have cc2 := HX.out.k0
  have cc3 := HX.out.k1
  obtain ⟨⟨s1, s2⟩, ⟨w1, w2⟩, ⟨l1, l2⟩, _, _⟩ := LIM.out
  have EA := Lib.hid (show a = (a.1, a.2) from rfl)
  obtain ⟨ax, ay⟩ := a
  unfold plcV at *
  simp only at B1 LO
  clear h hG hk ha hp
  go_enter Tryd.func23, Tryd.ntmps23
  go_wp2_with fail
  refine LO.out.mono ?_
  rintro e V1 ⟨rfl, hb⟩
  have BW := Lib.hid (B1.out.trans (hb.mono B1.out.size))
  have R0 := Lib.hid (RD.out V1 BW.out)
  clear hb RD LO PO
  revert R0 BW
  rename World => W1
  intro BW R0
  obtain ⟨⟨z0, z1, z2, _, z5⟩, ⟨c0, c1, c2, _⟩, fz, nbp, npb, bl, pl⟩ := R0.out.cells HD.out
  have fz1 := fz 1
  have fz2 := fz 2
  have R1 := Lib.hid (R0.out.set (x' := { x with calls := x.calls + 1 }) HD.out 1 (.int .i64 (x.calls + 1)) rfl ⟨rfl, rfl⟩)
  have k1 : (x.tier == -1) = false := by simpa using h1
  have k2 : ((x.calls + 1) % t.s != 0) = false := by simpa using h2
  have R2 := Lib.hid (fun q => (R1.out.drewN q).set (x' := { x with calls := x.calls + 1, count := M }) HD.out 2 (.int .i64 M) rfl ⟨rfl, rfl⟩)
  have q0 : (x.tier == 0) = true := by simpa using h3.1
  have q2 : decide (M ≥ t.w) = true := decide_eq_true h3.2
  clear h1 h2 h3 z5 fz
  go_wp2_with fail
  go_quiet (fail)
  go_wp2_with fail
  have R3 := Lib.hid (R2.out nq)
  clear R0 R1 R2 z0 z1 z2 c0 c1 c2 fz1 fz2 bl pl k2
  generalize ((W1.setCell ⟨d.b, 1, none⟩ (.int .i64 (x.calls + 1))).drewN nq).setCell ⟨d.b, 2, none⟩ (.int .i64 M) = W3 at *
  obtain ⟨⟨z0, z1, z2, _, z5⟩, ⟨c0, c1, c2, _⟩, fz, nbp, npb, bl, pl⟩ := R3.out.cells HD.out
  simp only at z0 z1 z2
  go_quiet (fail)
  have R4 := Lib.hid (R3.out.drewN nq)
  generalize W3.drewN nq = W4 at *
  clear R3 z0 z1 z2 z5 c0 c1 c2 fz
  obtain ⟨⟨z0, z1, z2, _, z5⟩, ⟨c0, c1, c2, _⟩, fz, _, _, bl, pl⟩ := R4.out.cells HD.out
  simp only at z0 z1 z2
  go_wp2_with fail
  clear z0 z1 c0 c1 c2 fz k1 q0 q2
  have RW := R4
  have IM := Lib.hid (show I64 M from ⟨by omega, by omega⟩)
  have JL := Lib.hid (show bWarm.data.toList ++ 32 :: (bsL (numT M)).data.toList = tWarm ++ numT M by rw [bs_list]; rfl)
  have JS := Lib.hid (show (tWarm ++ numT M).length ≤ 100000 by
    have := numT_len IM.out
    have : tWarm.length ≤ 5 := by decide
    rw [List.length_append]; omega)
  have XD := Lib.hid (show t.D.length ≤ 1000000 by have := DEC.out; omega)
  have GI := Lib.hid (fun W (r : Chg F w W) => HG.out.chg r HI.out)
  go_region_held3 (fun w' => w'.cell? ⟨d.b, 5, none⟩ = some (.func (.func 59) #[] #[.pointer (some ⟨d.x0, 0, none⟩), .pointer (some ⟨d.x1, 0, none⟩), .pointer (some ⟨d.x2, 0, none⟩)]) ∧ w'.cell? ⟨d.b, 2, none⟩ = some (.int .i64 M)) (first | exact ⟨z5, z2⟩ | go_keep) ((first
      | (go_at_call 47
         (refine (itoa_c M IM.out _ (GI.out _ (R4.out.drewN 1).chg)).mono ?_)
         rintro e w5 ⟨rfl, hb⟩
         have R5 := Lib.hid ((R4.out.drewN 1).low hb)
         replace z5 := (R5.out.cells HD.out).1.2.2.2.2
         replace z2 := (R5.out.cells HD.out).1.2.2.1
         clear hb R4)
      | (go_at_call 46
         (refine (join_two _ bWarm (bsL (numT M)) (tWarm ++ numT M) _ (Bk.new _ _ _) JL.out JS.out).mono ?_)
         rintro e w6 ⟨rfl, hb⟩
         have R6 := Lib.hid ((R5.out.low ((Below.refl _ _).alloc (Nat.le_refl _) _)).low hb)
         replace z5 := (R6.out.cells HD.out).1.2.2.2.2
         replace z2 := (R6.out.cells HD.out).1.2.2.1
         clear hb R5)
      | (go_at_call 59
         (refine (code_decide_at R6.out HD.out 1 (bsL (tWarm ++ numT M)) (bs_list _) XD.out).mono ?_)
         rintro e w7 ⟨rfl, h7, h8, h9⟩
         have G := Lib.hid (h7.to (.bool true))
         replace z5 := h8
         replace z2 := h9
         clear h7 h8 h9 R6)))
  go_wp2_with fail
  go_ret
  rw [EQ.out]; exact G.out
set_option maxRecDepth 100000 in
set_option maxHeartbeats 8000000 in
theorem back_there_H (w : World) (p : Nat) (t : Pst) (F : Nat → Prop) (n : Nat) (a : Plc) (h : ProfH w p t F) (hG : Pw w) (hk : t.Ok n) (hn : n ≤ 1000000) (ha : okP a) (hp : lk a t.L ≠ none) (h1 : ¬ (t.get a).tier = -1) (h2 : ((t.get a).calls + 1) % t.s = 0) (h3 : (t.get a).tier = 1 ∧ t.h ≤ min ((t.get a).count + 1) 1000000) :
    Calls Tryd.prog 23 #[.pointer (some ⟨p, 0, none⟩), plcV a] w (To ProfH w p F (t.back a).2 (.bool (t.back a).1)) := by
  obtain ⟨mb, v, f, h⟩ := h
  have HX := Lib.hid (hk.get a)
  have LIM := Lib.hid hk.lim
  have DEC := Lib.hid hk.dec
  have LEN := Lib.hid hk.len
  have HG := Lib.hid hG
  have HI := Lib.hid h.hi
  have B1 := Lib.hid ((Below.refl _ w).alloc (Nat.le_refl _) (.cells #[.int .i64 a.1, .int .i64 a.2] 43))
  have LO := Lib.hid (code_loop _ (h.below B1.out) ha)
  obtain ⟨x, hx⟩ : ∃ x, lk a t.L = some x := Option.ne_none_iff_exists'.1 hp
  have XX := Lib.hid (show t.get a = x by unfold Pst.get; rw [hx]; rfl)
  have PO := Lib.hid (show ptrO t.L f a = some ⟨(f a).b, 0, none⟩ from if_pos (lk_key hx))
  rw [PO.out] at LO
  have RD := Lib.hid (fun W (hb : Below w.heap.size w W) => Rdy.there h hx hb)
  obtain ⟨d, hd⟩ : ∃ d, f a = d := ⟨_, rfl⟩
  rw [hd] at LO
  have HD := Lib.hid hd
  rw [XX.out] at HX
  clear hx hd
  rw [XX.out] at h1 h2 h3
  have k0 := HX.out.k0
  have k1 := HX.out.k1
  obtain ⟨M, hM⟩ : ∃ M, min (x.count + 1) 1000000 = M := ⟨_, rfl⟩
  have M0 : 0 ≤ M := by omega
  have M1 : M ≤ 1000000 := by omega
  rw [hM] at h3
  have EQ := Lib.hid (show t.back a = (true, (t.turn a ({ x with calls := x.calls + 1, count := M, tier := 2 }, some (2, tHot ++ numT M))).2) by unfold Pst.back; rw [XX.out]; unfold backS; rw [hM, if_neg h1, if_pos h2, if_neg (fun h => by have := h.1; omega), if_pos h3]; rfl)
  have cc0 := HX.out.c0
  have cc1 := HX.out.c1
  have cc2 := HX.out.k0
  have cc3 := HX.out.k1
  obtain ⟨⟨s1, s2⟩, ⟨w1, w2⟩, ⟨l1, l2⟩, _, _⟩ := LIM.out
  have EA := Lib.hid (show a = (a.1, a.2) from rfl)
  obtain ⟨ax, ay⟩ := a
  unfold plcV at *
  simp only at B1 LO
  clear h hG hk ha hp
  go_enter Tryd.func23, Tryd.ntmps23
  go_wp2_with fail
  refine LO.out.mono ?_
  rintro e V1 ⟨rfl, hb⟩
  have BW := Lib.hid (B1.out.trans (hb.mono B1.out.size))
  have R0 := Lib.hid (RD.out V1 BW.out)
  clear hb RD LO PO
  revert R0 BW
  rename World => W1
  intro BW R0
  obtain ⟨⟨z0, z1, z2, _, z5⟩, ⟨c0, c1, c2, _⟩, fz, nbp, npb, bl, pl⟩ := R0.out.cells HD.out
  have fz1 := fz 1
  have fz2 := fz 2
  have R1 := Lib.hid (R0.out.set (x' := { x with calls := x.calls + 1 }) HD.out 1 (.int .i64 (x.calls + 1)) rfl ⟨rfl, rfl⟩)
  have k1 : (x.tier == -1) = false := by simpa using h1
  have k2 : ((x.calls + 1) % t.s != 0) = false := by simpa using h2
  have R2 := Lib.hid (fun q => (R1.out.drewN q).set (x' := { x with calls := x.calls + 1, count := M }) HD.out 2 (.int .i64 M) rfl ⟨rfl, rfl⟩)
  have q0 : (x.tier == 0) = false := by rw [h3.1]; rfl
  have q1 : (x.tier == 1) = true := by simpa using h3.1
  have q2 : decide (M ≥ t.h) = true := decide_eq_true h3.2
  clear h1 h2 h3 z5 fz
  go_wp2_with fail
  go_quiet (fail)
  go_wp2_with fail
  have R3 := Lib.hid (R2.out nq)
  clear R0 R1 R2 z0 z1 z2 c0 c1 c2 fz1 fz2 bl pl k2
  generalize ((W1.setCell ⟨d.b, 1, none⟩ (.int .i64 (x.calls + 1))).drewN nq).setCell ⟨d.b, 2, none⟩ (.int .i64 M) = W3 at *
  obtain ⟨⟨z0, z1, z2, _, z5⟩, ⟨c0, c1, c2, _⟩, fz, nbp, npb, bl, pl⟩ := R3.out.cells HD.out
  simp only at z0 z1 z2
  go_quiet (fail)
  have R4 := Lib.hid (R3.out.drewN nq)
  generalize W3.drewN nq = W4 at *
  clear R3 z0 z1 z2 z5 c0 c1 c2 fz
  obtain ⟨⟨z0, z1, z2, _, z5⟩, ⟨c0, c1, c2, _⟩, fz, _, _, bl, pl⟩ := R4.out.cells HD.out
  simp only at z0 z1 z2
  go_wp2_with fail
  go_quiet (fail)
  have R5 := Lib.hid (R4.out.drewN nq)
  generalize W4.drewN nq = W5 at *
  clear R4 z0 z1 z2 z5 c0 c1 c2 fz
  have R4 := R5
  clear R5
  obtain ⟨⟨z0, z1, z2, _, z5⟩, ⟨c0, c1, c2, _⟩, fz, _, _, bl, pl⟩ := R4.out.cells HD.out
  simp only at z0 z1 z2
  go_wp2_with fail
  clear z0 z1 c0 c1 c2 fz k1 q0 q2
  have RW := R4
  have IM := Lib.hid (show I64 M from ⟨by omega, by omega⟩)
  have JL := Lib.hid (show bHot.data.toList ++ 32 :: (bsL (numT M)).data.toList = tHot ++ numT M by rw [bs_list]; rfl)
  have JS := Lib.hid (show (tHot ++ numT M).length ≤ 100000 by
    have := numT_len IM.out
    have : tHot.length ≤ 5 := by decide
    rw [List.length_append]; omega)
  have XD := Lib.hid (show t.D.length ≤ 1000000 by have := DEC.out; omega)
  have GI := Lib.hid (fun W (r : Chg F w W) => HG.out.chg r HI.out)
  go_region_held3 (fun w' => w'.cell? ⟨d.b, 5, none⟩ = some (.func (.func 59) #[] #[.pointer (some ⟨d.x0, 0, none⟩), .pointer (some ⟨d.x1, 0, none⟩), .pointer (some ⟨d.x2, 0, none⟩)]) ∧ w'.cell? ⟨d.b, 2, none⟩ = some (.int .i64 M)) (first | exact ⟨z5, z2⟩ | go_keep) ((first
      | (go_at_call 47
         (refine (itoa_c M IM.out _ (GI.out _ (R4.out.drewN 1).chg)).mono ?_)
         rintro e w5 ⟨rfl, hb⟩
         have R5 := Lib.hid ((R4.out.drewN 1).low hb)
         replace z5 := (R5.out.cells HD.out).1.2.2.2.2
         replace z2 := (R5.out.cells HD.out).1.2.2.1
         clear hb R4)
      | (go_at_call 46
         (refine (join_two _ bHot (bsL (numT M)) (tHot ++ numT M) _ (Bk.new _ _ _) JL.out JS.out).mono ?_)
         rintro e w6 ⟨rfl, hb⟩
         have R6 := Lib.hid ((R5.out.low ((Below.refl _ _).alloc (Nat.le_refl _) _)).low hb)
         replace z5 := (R6.out.cells HD.out).1.2.2.2.2
         replace z2 := (R6.out.cells HD.out).1.2.2.1
         clear hb R5)
      | (go_at_call 59
         (refine (code_decide_at R6.out HD.out 2 (bsL (tHot ++ numT M)) (bs_list _) XD.out).mono ?_)
         rintro e w7 ⟨rfl, h7, h8, h9⟩
         have G := Lib.hid (h7.to (.bool true))
         replace z5 := h8
         replace z2 := h9
         clear h7 h8 h9 R6)))
  go_wp2_with fail
  go_ret
  rw [EQ.out]; exact G.out
set_option maxRecDepth 100000 in
set_option maxHeartbeats 8000000 in
theorem back_new_R (w : World) (p : Nat) (t : Pst) (F : Nat → Prop) (n : Nat) (a : Plc) (h : ProfH w p t F) (hG : Pw w) (hk : t.Ok n) (hn : n ≤ 1000000) (ha : okP a) (hp : lk a t.L = none) (h1 : ¬ (t.get a).tier = -1) (h2 : ¬ ((t.get a).calls + 1) % t.s = 0) :
    Calls Tryd.prog 23 #[.pointer (some ⟨p, 0, none⟩), plcV a] w (To ProfH w p F (t.back a).2 (.bool (t.back a).1)) := by
  obtain ⟨mb, v, f, h⟩ := h
  have HX := Lib.hid (hk.get a)
  have LIM := Lib.hid hk.lim
  have DEC := Lib.hid hk.dec
  have LEN := Lib.hid hk.len
  have HG := Lib.hid hG
  have HI := Lib.hid h.hi
  have B1 := Lib.hid ((Below.refl _ w).alloc (Nat.le_refl _) (.cells #[.int .i64 a.1, .int .i64 a.2] 43))
  have LO := Lib.hid (code_loop _ (h.below B1.out) ha)
  have hnk := lk_none.1 hp
  have XX := Lib.hid (show t.get a = sp0 by unfold Pst.get; rw [hp]; rfl)
  have PO := Lib.hid (show ptrO t.L f a = none from if_neg hnk)
  rw [PO.out] at LO
  have FM := Lib.hid h.fm
  have ST := Lib.hid (fun W (hb : Below w.heap.size w W) => code_start W (h.below hb) ha hnk (by have := LEN.out; omega))
  rw [XX.out] at HX
  obtain ⟨x, hx⟩ : ∃ x, sp0 = x := ⟨_, rfl⟩
  have RD := Lib.hid (fun V (hb : Below w.heap.size w V) W (f' : Plc → Ld) (hc : ProfAt W p { t with L := ins a sp0 t.L } (Nw F V W) mb v f' ∧ Chg (fun b => b = mb) V W) => (show Rdy w p F t a x W { t with L := ins a sp0 t.L } (Nw F V W) mb v f' from by rw [← hx]; exact Rdy.made hb FM.out hc.1 hc.2))
  rw [hx] at XX HX
  have HS := Lib.hid hx
  clear hx hnk
  rw [XX.out] at h1 h2
  have EQ := Lib.hid (show t.back a = (false, (t.turn a ({ x with calls := x.calls + 1 }, none)).2) by unfold Pst.back; rw [XX.out]; unfold backS; rw [if_neg h1, if_neg h2]; rfl)
  have cc0 := HX.out.c0
  have cc1 := HX.out.c1
  have cc2 := HX.out.k0
  have cc3 := HX.out.k1
  obtain ⟨⟨s1, s2⟩, ⟨w1, w2⟩, ⟨l1, l2⟩, _, _⟩ := LIM.out
  have EA := Lib.hid (show a = (a.1, a.2) from rfl)
  obtain ⟨ax, ay⟩ := a
  unfold plcV at *
  simp only at B1 LO
  clear h hG hk ha hp
  simp only at ST
  go_enter Tryd.func23, Tryd.ntmps23
  go_wp2_with fail
  refine LO.out.mono ?_
  rintro e V1 ⟨rfl, hb⟩
  have BW := Lib.hid (B1.out.trans (hb.mono B1.out.size))
  have bx := Bk.low hb (Bk.new w #[.int .i64 ax, .int .i64 ay] 43)
  have x1 := bx.cell 0 (.int .i64 ax) rfl
  have x2 := bx.cell 1 (.int .i64 ay) rfl
  clear hb LO PO bx
  go_wp2_with fail
  refine (ST.out V1 BW.out).mono ?_
  rintro e W1 ⟨d, rfl, hc⟩
  have R0 := Lib.hid (RD.out V1 BW.out W1 _ hc)
  have HD := Lib.hid (setF_same f (ax, ay) d)
  clear hc x1 x2 RD ST
  obtain ⟨⟨z0, z1, z2, _, z5⟩, ⟨c0, c1, c2, _⟩, fz, nbp, npb, bl, pl⟩ := R0.out.cells HD.out
  have fz1 := fz 1
  have fz2 := fz 2
  have R1 := Lib.hid (R0.out.set (x' := { x with calls := x.calls + 1 }) HD.out 1 (.int .i64 (x.calls + 1)) rfl ⟨rfl, rfl⟩)
  have k1 : (x.tier == -1) = false := by simpa using h1
  have k2 : ((x.calls + 1) % t.s != 0) = true := by simpa using h2
  clear h1 h2 z2 z5 c1 c2 fz
  go_wp2_with fail
  go_quiet (fail)
  have G := Lib.hid ((R1.out.drewN nq).done.to (.bool false))
  go_wp2_with fail
  go_ret
  rw [EQ.out]; exact G.out
set_option maxRecDepth 100000 in
set_option maxHeartbeats 8000000 in
theorem back_new_N (w : World) (p : Nat) (t : Pst) (F : Nat → Prop) (n : Nat) (a : Plc) (h : ProfH w p t F) (hG : Pw w) (hk : t.Ok n) (hn : n ≤ 1000000) (ha : okP a) (hp : lk a t.L = none) (h1 : ¬ (t.get a).tier = -1) (h2 : ((t.get a).calls + 1) % t.s = 0) (h3 : ¬ ((t.get a).tier = 0 ∧ t.w ≤ min ((t.get a).count + 1) 1000000)) (h4 : ¬ ((t.get a).tier = 1 ∧ t.h ≤ min ((t.get a).count + 1) 1000000)) :
    Calls Tryd.prog 23 #[.pointer (some ⟨p, 0, none⟩), plcV a] w (To ProfH w p F (t.back a).2 (.bool (t.back a).1)) := by
  obtain ⟨mb, v, f, h⟩ := h
  have HX := Lib.hid (hk.get a)
  have LIM := Lib.hid hk.lim
  have DEC := Lib.hid hk.dec
  have LEN := Lib.hid hk.len
  have HG := Lib.hid hG
  have HI := Lib.hid h.hi
  have B1 := Lib.hid ((Below.refl _ w).alloc (Nat.le_refl _) (.cells #[.int .i64 a.1, .int .i64 a.2] 43))
  have LO := Lib.hid (code_loop _ (h.below B1.out) ha)
  have hnk := lk_none.1 hp
  have XX := Lib.hid (show t.get a = sp0 by unfold Pst.get; rw [hp]; rfl)
  have PO := Lib.hid (show ptrO t.L f a = none from if_neg hnk)
  rw [PO.out] at LO
  have FM := Lib.hid h.fm
  have ST := Lib.hid (fun W (hb : Below w.heap.size w W) => code_start W (h.below hb) ha hnk (by have := LEN.out; omega))
  rw [XX.out] at HX
  obtain ⟨x, hx⟩ : ∃ x, sp0 = x := ⟨_, rfl⟩
  have RD := Lib.hid (fun V (hb : Below w.heap.size w V) W (f' : Plc → Ld) (hc : ProfAt W p { t with L := ins a sp0 t.L } (Nw F V W) mb v f' ∧ Chg (fun b => b = mb) V W) => (show Rdy w p F t a x W { t with L := ins a sp0 t.L } (Nw F V W) mb v f' from by rw [← hx]; exact Rdy.made hb FM.out hc.1 hc.2))
  rw [hx] at XX HX
  have HS := Lib.hid hx
  clear hx hnk
  rw [XX.out] at h1 h2 h3 h4
  have k0 := HX.out.k0
  have k1 := HX.out.k1
  obtain ⟨M, hM⟩ : ∃ M, min (x.count + 1) 1000000 = M := ⟨_, rfl⟩
  have M0 : 0 ≤ M := by omega
  have M1 : M ≤ 1000000 := by omega
  rw [hM] at h3 h4
  have EQ := Lib.hid (show t.back a = (false, (t.turn a ({ x with calls := x.calls + 1, count := M }, none)).2) by unfold Pst.back; rw [XX.out]; unfold backS; rw [hM, if_neg h1, if_pos h2, if_neg h3, if_neg h4]; rfl)
  have cc0 := HX.out.c0
  have cc1 := HX.out.c1
  have cc2 := HX.out.k0
  have cc3 := HX.out.k1
  obtain ⟨⟨s1, s2⟩, ⟨w1, w2⟩, ⟨l1, l2⟩, _, _⟩ := LIM.out
  have EA := Lib.hid (show a = (a.1, a.2) from rfl)
  obtain ⟨ax, ay⟩ := a
  unfold plcV at *
  simp only at B1 LO
  clear h hG hk ha hp
  simp only at ST
  go_enter Tryd.func23, Tryd.ntmps23
  go_wp2_with fail
  refine LO.out.mono ?_
  rintro e V1 ⟨rfl, hb⟩
  have BW := Lib.hid (B1.out.trans (hb.mono B1.out.size))
  have bx := Bk.low hb (Bk.new w #[.int .i64 ax, .int .i64 ay] 43)
  have x1 := bx.cell 0 (.int .i64 ax) rfl
  have x2 := bx.cell 1 (.int .i64 ay) rfl
  clear hb LO PO bx
  go_wp2_with fail
  refine (ST.out V1 BW.out).mono ?_
  rintro e W1 ⟨d, rfl, hc⟩
  have R0 := Lib.hid (RD.out V1 BW.out W1 _ hc)
  have HD := Lib.hid (setF_same f (ax, ay) d)
  clear hc x1 x2 RD ST
  obtain ⟨⟨z0, z1, z2, _, z5⟩, ⟨c0, c1, c2, _⟩, fz, nbp, npb, bl, pl⟩ := R0.out.cells HD.out
  have fz1 := fz 1
  have fz2 := fz 2
  have R1 := Lib.hid (R0.out.set (x' := { x with calls := x.calls + 1 }) HD.out 1 (.int .i64 (x.calls + 1)) rfl ⟨rfl, rfl⟩)
  have k1 : (x.tier == -1) = false := by simpa using h1
  have k2 : ((x.calls + 1) % t.s != 0) = false := by simpa using h2
  have R2 := Lib.hid (fun q => (R1.out.drewN q).set (x' := { x with calls := x.calls + 1, count := M }) HD.out 2 (.int .i64 M) rfl ⟨rfl, rfl⟩)
  by_cases e0 : x.tier = 0
  · have q0 : (x.tier == 0) = true := by simpa using e0
    have q1 : (x.tier == 1) = false := by rw [e0]; rfl
    have q2 : decide (M ≥ t.w) = false := decide_eq_false (fun h => h3 ⟨e0, h⟩)
    clear e0
    clear h1 h2 h3 h4 z5 fz
    go_wp2_with fail
    go_quiet (fail)
    go_wp2_with fail
    have R3 := Lib.hid (R2.out nq)
    clear R0 R1 R2 z0 z1 z2 c0 c1 c2 fz1 fz2 bl pl k2
    generalize ((W1.setCell ⟨d.b, 1, none⟩ (.int .i64 (x.calls + 1))).drewN nq).setCell ⟨d.b, 2, none⟩ (.int .i64 M) = W3 at *
    obtain ⟨⟨z0, z1, z2, _, z5⟩, ⟨c0, c1, c2, _⟩, fz, nbp, npb, bl, pl⟩ := R3.out.cells HD.out
    simp only at z0 z1 z2
    go_quiet (fail)
    have R4 := Lib.hid (R3.out.drewN nq)
    generalize W3.drewN nq = W4 at *
    clear R3 z0 z1 z2 z5 c0 c1 c2 fz
    obtain ⟨⟨z0, z1, z2, _, z5⟩, ⟨c0, c1, c2, _⟩, fz, _, _, bl, pl⟩ := R4.out.cells HD.out
    simp only at z0 z1 z2
    go_wp2_with fail
    go_quiet (fail)
    have G := Lib.hid ((R4.out.drewN nq).done.to (.bool false))
    go_wp2_with fail
    go_ret
    rw [EQ.out]; exact G.out
  by_cases e1 : x.tier = 1
  · have q0 : (x.tier == 0) = false := by simpa using e0
    have q1 : (x.tier == 1) = true := by simpa using e1
    have q2 : decide (M ≥ t.h) = false := decide_eq_false (fun h => h4 ⟨e1, h⟩)
    clear e0 e1
    clear h1 h2 h3 h4 z5 fz
    go_wp2_with fail
    go_quiet (fail)
    go_wp2_with fail
    have R3 := Lib.hid (R2.out nq)
    clear R0 R1 R2 z0 z1 z2 c0 c1 c2 fz1 fz2 bl pl k2
    generalize ((W1.setCell ⟨d.b, 1, none⟩ (.int .i64 (x.calls + 1))).drewN nq).setCell ⟨d.b, 2, none⟩ (.int .i64 M) = W3 at *
    obtain ⟨⟨z0, z1, z2, _, z5⟩, ⟨c0, c1, c2, _⟩, fz, nbp, npb, bl, pl⟩ := R3.out.cells HD.out
    simp only at z0 z1 z2
    go_quiet (fail)
    have R4 := Lib.hid (R3.out.drewN nq)
    generalize W3.drewN nq = W4 at *
    clear R3 z0 z1 z2 z5 c0 c1 c2 fz
    obtain ⟨⟨z0, z1, z2, _, z5⟩, ⟨c0, c1, c2, _⟩, fz, _, _, bl, pl⟩ := R4.out.cells HD.out
    simp only at z0 z1 z2
    go_wp2_with fail
    go_quiet (fail)
    have G := Lib.hid ((R4.out.drewN nq).done.to (.bool false))
    go_wp2_with fail
    go_ret
    rw [EQ.out]; exact G.out
  · have q0 : (x.tier == 0) = false := by simpa using e0
    have q1 : (x.tier == 1) = false := by simpa using e1
    clear e0 e1
    clear h1 h2 h3 h4 z5 fz
    go_wp2_with fail
    go_quiet (fail)
    go_wp2_with fail
    have R3 := Lib.hid (R2.out nq)
    clear R0 R1 R2 z0 z1 z2 c0 c1 c2 fz1 fz2 bl pl k2
    generalize ((W1.setCell ⟨d.b, 1, none⟩ (.int .i64 (x.calls + 1))).drewN nq).setCell ⟨d.b, 2, none⟩ (.int .i64 M) = W3 at *
    obtain ⟨⟨z0, z1, z2, _, z5⟩, ⟨c0, c1, c2, _⟩, fz, nbp, npb, bl, pl⟩ := R3.out.cells HD.out
    simp only at z0 z1 z2
    go_quiet (fail)
    have R4 := Lib.hid (R3.out.drewN nq)
    generalize W3.drewN nq = W4 at *
    clear R3 z0 z1 z2 z5 c0 c1 c2 fz
    obtain ⟨⟨z0, z1, z2, _, z5⟩, ⟨c0, c1, c2, _⟩, fz, _, _, bl, pl⟩ := R4.out.cells HD.out
    simp only at z0 z1 z2
    go_wp2_with fail
    go_quiet (fail)
    have G := Lib.hid ((R4.out.drewN nq).done.to (.bool false))
    go_wp2_with fail
    go_ret
    rw [EQ.out]; exact G.out
set_option maxRecDepth 100000 in
set_option maxHeartbeats 8000000 in
theorem back_new_W (w : World) (p : Nat) (t : Pst) (F : Nat → Prop) (n : Nat) (a : Plc) (h : ProfH w p t F) (hG : Pw w) (hk : t.Ok n) (hn : n ≤ 1000000) (ha : okP a) (hp : lk a t.L = none) (h1 : ¬ (t.get a).tier = -1) (h2 : ((t.get a).calls + 1) % t.s = 0) (h3 : (t.get a).tier = 0 ∧ t.w ≤ min ((t.get a).count + 1) 1000000) :
    Calls Tryd.prog 23 #[.pointer (some ⟨p, 0, none⟩), plcV a] w (To ProfH w p F (t.back a).2 (.bool (t.back a).1)) := by
  obtain ⟨mb, v, f, h⟩ := h
  have HX := Lib.hid (hk.get a)
  have LIM := Lib.hid hk.lim
  have DEC := Lib.hid hk.dec
  have LEN := Lib.hid hk.len
  have HG := Lib.hid hG
  have HI := Lib.hid h.hi
  have B1 := Lib.hid ((Below.refl _ w).alloc (Nat.le_refl _) (.cells #[.int .i64 a.1, .int .i64 a.2] 43))
  have LO := Lib.hid (code_loop _ (h.below B1.out) ha)
  have hnk := lk_none.1 hp
  have XX := Lib.hid (show t.get a = sp0 by unfold Pst.get; rw [hp]; rfl)
  have PO := Lib.hid (show ptrO t.L f a = none from if_neg hnk)
  rw [PO.out] at LO
  have FM := Lib.hid h.fm
  have ST := Lib.hid (fun W (hb : Below w.heap.size w W) => code_start W (h.below hb) ha hnk (by have := LEN.out; omega))
  rw [XX.out] at HX
  obtain ⟨x, hx⟩ : ∃ x, sp0 = x := ⟨_, rfl⟩
  have RD := Lib.hid (fun V (hb : Below w.heap.size w V) W (f' : Plc → Ld) (hc : ProfAt W p { t with L := ins a sp0 t.L } (Nw F V W) mb v f' ∧ Chg (fun b => b = mb) V W) => (show Rdy w p F t a x W { t with L := ins a sp0 t.L } (Nw F V W) mb v f' from by rw [← hx]; exact Rdy.made hb FM.out hc.1 hc.2))
  rw [hx] at XX HX
  have HS := Lib.hid hx
  clear hx hnk
  rw [XX.out] at h1 h2 h3
  have k0 := HX.out.k0
  have k1 := HX.out.k1
  obtain ⟨M, hM⟩ : ∃ M, min (x.count + 1) 1000000 = M := ⟨_, rfl⟩
  have M0 : 0 ≤ M := by omega
  have M1 : M ≤ 1000000 := by omega
  rw [hM] at h3
  have EQ := Lib.hid (show t.back a = (true, (t.turn a ({ x with calls := x.calls + 1, count := M, tier := 1 }, some (1, tWarm ++ numT M))).2) by unfold Pst.back; rw [XX.out]; unfold backS; rw [hM, if_neg h1, if_pos h2, if_pos h3]; rfl)
  have cc0 := HX.out.c0
  have cc1 := HX.out.c1
  have cc2 := HX.out.k0
  have cc3 := HX.out.k1
  obtain ⟨⟨s1, s2⟩, ⟨w1, w2⟩, ⟨l1, l2⟩, _, _⟩ := LIM.out
  have EA := Lib.hid (show a = (a.1, a.2) from rfl)
  obtain ⟨ax, ay⟩ := a
  unfold plcV at *
  simp only at B1 LO
  clear h hG hk ha hp
  simp only at ST
  go_enter Tryd.func23, Tryd.ntmps23
  go_wp2_with fail
  refine LO.out.mono ?_
  rintro e V1 ⟨rfl, hb⟩
  have BW := Lib.hid (B1.out.trans (hb.mono B1.out.size))
  have bx := Bk.low hb (Bk.new w #[.int .i64 ax, .int .i64 ay] 43)
  have x1 := bx.cell 0 (.int .i64 ax) rfl
  have x2 := bx.cell 1 (.int .i64 ay) rfl
  clear hb LO PO bx
  go_wp2_with fail
  refine (ST.out V1 BW.out).mono ?_
  rintro e W1 ⟨d, rfl, hc⟩
  have R0 := Lib.hid (RD.out V1 BW.out W1 _ hc)
  have HD := Lib.hid (setF_same f (ax, ay) d)
  clear hc x1 x2 RD ST
  obtain ⟨⟨z0, z1, z2, _, z5⟩, ⟨c0, c1, c2, _⟩, fz, nbp, npb, bl, pl⟩ := R0.out.cells HD.out
  have fz1 := fz 1
  have fz2 := fz 2
  have R1 := Lib.hid (R0.out.set (x' := { x with calls := x.calls + 1 }) HD.out 1 (.int .i64 (x.calls + 1)) rfl ⟨rfl, rfl⟩)
  have k1 : (x.tier == -1) = false := by simpa using h1
  have k2 : ((x.calls + 1) % t.s != 0) = false := by simpa using h2
  have R2 := Lib.hid (fun q => (R1.out.drewN q).set (x' := { x with calls := x.calls + 1, count := M }) HD.out 2 (.int .i64 M) rfl ⟨rfl, rfl⟩)
  have q0 : (x.tier == 0) = true := by simpa using h3.1
  have q2 : decide (M ≥ t.w) = true := decide_eq_true h3.2
  clear h1 h2 h3 z5 fz
  go_wp2_with fail
  go_quiet (fail)
  go_wp2_with fail
  have R3 := Lib.hid (R2.out nq)
  clear R0 R1 R2 z0 z1 z2 c0 c1 c2 fz1 fz2 bl pl k2
  generalize ((W1.setCell ⟨d.b, 1, none⟩ (.int .i64 (x.calls + 1))).drewN nq).setCell ⟨d.b, 2, none⟩ (.int .i64 M) = W3 at *
  obtain ⟨⟨z0, z1, z2, _, z5⟩, ⟨c0, c1, c2, _⟩, fz, nbp, npb, bl, pl⟩ := R3.out.cells HD.out
  simp only at z0 z1 z2
  go_quiet (fail)
  have R4 := Lib.hid (R3.out.drewN nq)
  generalize W3.drewN nq = W4 at *
  clear R3 z0 z1 z2 z5 c0 c1 c2 fz
  obtain ⟨⟨z0, z1, z2, _, z5⟩, ⟨c0, c1, c2, _⟩, fz, _, _, bl, pl⟩ := R4.out.cells HD.out
  simp only at z0 z1 z2
  go_wp2_with fail
  clear z0 z1 c0 c1 c2 fz k1 q0 q2
  have RW := R4
  have IM := Lib.hid (show I64 M from ⟨by omega, by omega⟩)
  have JL := Lib.hid (show bWarm.data.toList ++ 32 :: (bsL (numT M)).data.toList = tWarm ++ numT M by rw [bs_list]; rfl)
  have JS := Lib.hid (show (tWarm ++ numT M).length ≤ 100000 by
    have := numT_len IM.out
    have : tWarm.length ≤ 5 := by decide
    rw [List.length_append]; omega)
  have XD := Lib.hid (show t.D.length ≤ 1000000 by have := DEC.out; omega)
  have GI := Lib.hid (fun W (r : Chg F w W) => HG.out.chg r HI.out)
  go_region_held3 (fun w' => w'.cell? ⟨d.b, 5, none⟩ = some (.func (.func 59) #[] #[.pointer (some ⟨d.x0, 0, none⟩), .pointer (some ⟨d.x1, 0, none⟩), .pointer (some ⟨d.x2, 0, none⟩)]) ∧ w'.cell? ⟨d.b, 2, none⟩ = some (.int .i64 M)) (first | exact ⟨z5, z2⟩ | go_keep) ((first
      | (go_at_call 47
         (refine (itoa_c M IM.out _ (GI.out _ (R4.out.drewN 1).chg)).mono ?_)
         rintro e w5 ⟨rfl, hb⟩
         have R5 := Lib.hid ((R4.out.drewN 1).low hb)
         replace z5 := (R5.out.cells HD.out).1.2.2.2.2
         replace z2 := (R5.out.cells HD.out).1.2.2.1
         clear hb R4)
      | (go_at_call 46
         (refine (join_two _ bWarm (bsL (numT M)) (tWarm ++ numT M) _ (Bk.new _ _ _) JL.out JS.out).mono ?_)
         rintro e w6 ⟨rfl, hb⟩
         have R6 := Lib.hid ((R5.out.low ((Below.refl _ _).alloc (Nat.le_refl _) _)).low hb)
         replace z5 := (R6.out.cells HD.out).1.2.2.2.2
         replace z2 := (R6.out.cells HD.out).1.2.2.1
         clear hb R5)
      | (go_at_call 59
         (refine (code_decide_at R6.out HD.out 1 (bsL (tWarm ++ numT M)) (bs_list _) XD.out).mono ?_)
         rintro e w7 ⟨rfl, h7, h8, h9⟩
         have G := Lib.hid (h7.to (.bool true))
         replace z5 := h8
         replace z2 := h9
         clear h7 h8 h9 R6)))
  go_wp2_with fail
  go_ret
  rw [EQ.out]; exact G.out
theorem code_back (w : World) (p : Nat) (t : Pst) (F : Nat → Prop) (n : Nat) (a : Plc) (h : ProfH w p t F) (hG : Pw w) (hk : t.Ok n) (hn : n ≤ 1000000) (ha : okP a) :
    Calls Tryd.prog 23 #[.pointer (some ⟨p, 0, none⟩), plcV a] w (To ProfH w p F (t.back a).2 (.bool (t.back a).1)) := by
  cases hp : lk a t.L with
  | none =>
    have XX : t.get a = sp0 := by unfold Pst.get; rw [hp]; rfl
    have e1 : ¬ (t.get a).tier = -1 := by rw [XX]; decide
    have e2 : ¬ (t.get a).tier = 1 := by rw [XX]; decide
    by_cases h2 : ((t.get a).calls + 1) % t.s = 0
    · by_cases h3 : (t.get a).tier = 0 ∧ t.w ≤ min ((t.get a).count + 1) 1000000
      · exact back_new_W w p t F n a h hG hk hn ha hp e1 h2 h3
      · exact back_new_N w p t F n a h hG hk hn ha hp e1 h2 h3 fun h => e2 h.1
    · exact back_new_R w p t F n a h hG hk hn ha hp e1 h2
  | some x =>
    have hp : lk a t.L ≠ none := by rw [hp]; exact fun e => by cases e
    by_cases h1 : (t.get a).tier = -1
    · exact back_there_T w p t F n a h hG hk hn ha hp h1
    · by_cases h2 : ((t.get a).calls + 1) % t.s = 0
      · by_cases h3 : (t.get a).tier = 0 ∧ t.w ≤ min ((t.get a).count + 1) 1000000
        · exact back_there_W w p t F n a h hG hk hn ha hp h1 h2 h3
        · by_cases h4 : (t.get a).tier = 1 ∧ t.h ≤ min ((t.get a).count + 1) 1000000
          · exact back_there_H w p t F n a h hG hk hn ha hp h1 h2 h4
          · exact back_there_N w p t F n a h hG hk hn ha hp h1 h2 h3 h4
      · exact back_there_R w p t F n a h hG hk hn ha hp h1 h2
end Go.Proofs.YtjoffbgfokedlaaDoor.Pf
