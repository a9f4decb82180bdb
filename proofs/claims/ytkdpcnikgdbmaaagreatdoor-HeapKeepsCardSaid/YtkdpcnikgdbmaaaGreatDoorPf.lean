/-
  The walk of HeapKeeps.
-/
import Derived.Test.YtkdpcnikgdbmaaaGreatDoorPb
import Derived.Deep.QuietTactic
import Derived.BigQuiet
namespace Go.Proofs.YtkdpcnikgdbmaaaGreatDoor.Hp
open Go Go.RowKit Go.Maps Va

theorem bnds_low {w w' : World} (hB : Bnds w) (hb : Below w.heap.size w w') : Bnds w' := fun i hi => (hb.cell (p := ⟨_, _, none⟩) hB.size).trans (hB i hi)
set_option maxRecDepth 100000 in
set_option maxHeartbeats 4000000 in
theorem keeps_walk (w : World) (hB : Bnds w) (A : Option Addr) (zs : List Int) (c : Nat) (wh : Int) (A' : Option Addr) (ys : List Int) (c' : Nat) (hA : Ac.Sl w w.heap.size A zs) (hz : ∀ z ∈ zs, I64 z) (hl : zs.length ≤ 17592186044404) (hA' : Ac.Sl w w.heap.size A' ys) (hy : ∀ z ∈ ys, I64 z) (hl' : ys.length ≤ 17592186044404) :
    Calls Tryz.prog 7 #[.slice A zs.length c, .agg #[.int .i64 wh, .slice A' ys.length c']] w fun e w' => e = .returned (.bool true) ∧ Below w.heap.size w w' := by
  have HB := Lib.hid hB
  have HA := Lib.hid hA
  have HZ := Lib.hid hz
  have HA' := Lib.hid hA'
  have HY := Lib.hid hy
  clear hB hA hz hA' hy
  go_enter Tryz.func7, Tryz.ntmps7
  go_wp2_with fail
  have hW1 := (Below.refl w.heap.size w).alloc (Nat.le_refl _) (.cells #[.int .i64 wh, .slice A' ys.length c'] 31)
  have BA1 := Lib.hid (Bk.new w #[.int .i64 wh, .slice A' ys.length c'] 31)
  refine (sanity_any _ (bnds_low HB.out hW1)).mono ?_
  rintro e w1 ⟨rfl, hb⟩
  have B1 := Lib.hid (hW1.trans (hb.mono hW1.size))
  have BA2 := Lib.hid (BA1.out.low hb)
  have sz1 := B1.out.size
  generalize hab : w.heap.size = ab at BA2 ⊢
  clear hW1 hb BA1
  go_wp2_with fail
  refine (begin_any A zs c w1 (Ac.Sl.up (HA.out.below B1.out (Nat.le_refl _)) sz1) HZ.out hl (bnds_low HB.out B1.out)).mono ?_
  rintro e w2 ⟨p, q, v, es, l, next, rfl, hh⟩
  have FI := Lib.hid hh.out.2.2.2.2
  have S2 := Lib.hid (hh.out.1.since B1.out HB.out).two
  have B2 := Lib.hid (B1.out.trans (hh.out.2.2.2.1.mono sz1))
  have BA3 := Lib.hid (BA2.out.low hh.out.2.2.2.1)
  have sz2 := B2.out.size
  generalize hT : w2.heap.size = T at S2
  clear hh BA2
  go_wp2_with fail
  refine (st_entries w w2 p l next S2.out.st FI.out).mono ?_
  rintro e w3 ⟨v3, es3, rfl, hh⟩
  have S3 := Lib.hid (S2.out.down hh.out.2)
  have B3 := Lib.hid (B2.out.trans (hh.out.2.mono sz2))
  have BA4 := Lib.hid (BA3.out.low hh.out.2)
  have sz3 := B3.out.size
  have sz23 := hh.out.2.size
  obtain ⟨A3, c3, rfl, hE⟩ := hh.out.1.slot
  rw [hT] at hE sz23
  have HE := Lib.hid hE
  clear hh hE BA3 S2
  go_wp2_with fail
  refine (st_next w w3 p l next S3.out.st).mono ?_
  rintro e w3' ⟨rfl, rfl⟩
  have a0 := BA4.out.cell 0 (.int .i64 wh) rfl
  have a1 := BA4.out.cell 1 (.slice A' ys.length c') rfl
  go_wp2_with fail
  refine (roots_any wh A' ys c' 6 w3 (Ac.Sl.up (HA'.out.below B3.out (Nat.le_refl _)) sz3) HY.out hl' (by decide)).mono ?_
  rintro e w4 ⟨vs, VA, vc, rfl, hvl, hh⟩
  obtain ⟨h1, h2, h3, h4, h5⟩ := hh.out
  have S4 := Lib.hid (S3.out.down h4)
  have B4 := Lib.hid (B3.out.trans (h4.mono sz3))
  have E4 := Lib.hid (HE.out.keep (w' := w4) (Q := fun g => T ≤ g ∧ g < w3.heap.size) fun g hg => ⟨hg, h4.block g hg.2⟩)
  have V4 := Lib.hid h3
  have VI := Lib.hid h2
  have sz4 := h4.size
  clear hh h1 h2 h3 h4 h5 S3 HE a0 a1 BA4
  go_wp2_with fail
  refine (st_reach w w4 _ p l next vs VA 6 vc S4.out.st FI.out.okay hvl.out (by decide) VI.out V4.out (fun b hb => hb.2)).mono ?_
  rintro e w5 ⟨v5, r, rfl, hh⟩
  obtain ⟨h1, h2, h3, h4⟩ := hh.out
  obtain ⟨A5, c5, rfl, h5⟩ := ids_own h3
  have S5 := Lib.hid (S4.out.down h4)
  have B5 := Lib.hid (B4.out.trans (h4.mono (by omega)))
  have E5 := Lib.hid (E4.out.keep (w' := w5) (Q := fun g => T ≤ g ∧ g < w3.heap.size) fun g hg => ⟨hg, h4.block g (by omega)⟩)
  have R5 := Lib.hid (h5.keep (w' := w5) (Q := fun g => T ≤ g ∧ g < w5.heap.size) fun g hg => ⟨⟨by omega, hg.2⟩, rfl⟩)
  have KP := Lib.hid (Kp.of FI.out.sorted FI.out.shut h1 h2)
  have RI := Lib.hid (show ∀ i ∈ r, I64 i from fun i hi => FI.out.okay.ids i (KP.out.sub i hi))
  have sz5 := h4.size
  have gl := gone_len FI.out.sorted KP.out
  have kl : (kept r l).length = r.length := by have h := ids_len (kept r l); rw [kept_ids FI.out.sorted KP.out] at h; exact h.symm
  have l8 := FI.out.len
  have GL := Lib.hid gl
  have KL := Lib.hid kl
  have r8 : r.length ≤ 8 := by omega
  have g8 : (goneL r l).length ≤ 8 := by omega
  clear hh h1 h2 h3 h4 h5 S4 E4 V4 VI hvl gl kl
  generalize hrn : r.length = rn at *
  have RN := Lib.hid hrn
  clear hrn
  go_wp2_with fail
  refine (st2_keep w w5 _ T p l next r A5 rn c5 S5.out FI.out.okay RN.out (by omega) RI.out R5.out (fun g hg => hg)).mono ?_
  rintro e w6 ⟨v6, rfl, hh⟩
  obtain ⟨h1, h2, h3, h4⟩ := hh.out
  obtain ⟨A6, c6, rfl, -⟩ := ids_own h1
  have S6 := Lib.hid h2
  have B6 := Lib.hid h2.st.below
  have E6 := Lib.hid (E5.out.keep (w' := w6) (Q := fun g => T ≤ g ∧ g < w3.heap.size) fun g hg => ⟨hg, h4 g hg.1 (by omega)⟩)
  have R6 := Lib.hid (R5.out.keep (w' := w6) (Q := fun g => T ≤ g ∧ g < w5.heap.size) fun g hg => ⟨hg, h4 g hg.1 hg.2⟩)
  have F6 := Lib.hid (kept_fine FI.out KP.out)
  clear hh h1 h2 h4 S5 E5 R5
  go_wp2_with fail
  refine (st_entries w w6 p (kept r l) next S6.out.st F6.out).mono ?_
  rintro e w7 ⟨v7, es7, rfl, hh⟩
  have S7 := Lib.hid (S6.out.down hh.out.2)
  have B7 := Lib.hid (B6.out.trans (hh.out.2.mono B6.out.size))
  have E7 := Lib.hid (E6.out.keep (w' := w7) (Q := fun g => T ≤ g ∧ g < w3.heap.size) fun g hg => ⟨hg, hh.out.2.block g (by omega)⟩)
  have R7 := Lib.hid (R6.out.keep (w' := w7) (Q := fun g => T ≤ g ∧ g < w5.heap.size) fun g hg => ⟨hg, hh.out.2.block g (by omega)⟩)
  have sz7 := hh.out.2.size
  obtain ⟨A7, c7, rfl, hE⟩ := hh.out.1.slot
  have D7 := Lib.hid hE
  clear hh hE S6 E6 R6
  obtain ⟨gn, hgn⟩ : ∃ gn, (goneL r l).length = gn := ⟨_, rfl⟩
  obtain ⟨ln, hln⟩ : ∃ ln, l.length = ln := ⟨_, rfl⟩
  have t2 : ((gn : Int) + rn != ln) = false := by have := GL.out; simp; omega
  have g8' : gn ≤ 8 := by omega
  have ln8 : ln ≤ 8 := by omega
  rw [hgn, hln, show (kept r l).length = rn from KL.out]
  have HLN := Lib.hid hln
  clear hgn hln
  go_wp2_with fail
  refine (st_next w w7 p (kept r l) next S7.out.st).mono ?_
  rintro e w7' ⟨rfl, rfl⟩
  go_wp2_with fail
  refine (st2_keep w w7 _ T p (kept r l) next r A5 rn c5 S7.out F6.out.okay RN.out (by omega) RI.out R7.out (fun g hg => ⟨hg.1, by omega⟩)).mono ?_
  rintro e w8 ⟨v8, rfl, hh⟩
  obtain ⟨h1, h2, h3, h4⟩ := hh.out
  rw [kept_gone FI.out.sorted KP.out] at h1
  rw [kept_again FI.out.sorted KP.out] at h2
  obtain ⟨A8, c8, rfl, -⟩ := ids_own h1
  have S8 := Lib.hid h2.st
  have B8 := Lib.hid h2.st.below
  have E8 := Lib.hid (E7.out.keep (w' := w8) (Q := fun g => T ≤ g ∧ g < w3.heap.size) fun g hg => ⟨hg, h4 g hg.1 (by omega)⟩)
  have D8 := Lib.hid (D7.out.keep (w' := w8) (Q := fun g => w6.heap.size ≤ g ∧ g < w7.heap.size) fun g hg => ⟨hg, h4 g (by omega) hg.2⟩)
  have SK := Lib.hid (fun (e : Ent) (he : e ∈ l) (hr : e.1 ∈ r) => stp_of FI.out.shut KP.out he hr (FI.out.ok e he).1)
  have KI := Lib.hid (kept_ids FI.out.sorted KP.out)
  have CA := Lib.hid (cnt_all r l)
  have C0 := Lib.hid (cnt_zero r l)
  have few := Lib.hid FI.out.few
  have OKC := Lib.hid FI.out.ok
  have fewK := Lib.hid (show ∀ e ∈ kept r l, e.2.names.length ≤ 4398046511104 ∧ e.2.items.length ≤ 4398046511104 from fun e he => by have := F6.out.few e he; omega)
  clear hh h1 h2 h4 S7 E7 D7 R7 KP RI GL g8 t2
  rw [show (([] : List Int).length) = 0 from rfl]
  go_wp2_with fail
  go_loopw [14, 77] (fun a i wr => ∃ k m : Nat, k ≤ ln ∧ m ≤ rn ∧ i = .int .i64 k ∧ a = .int .i64 m ∧ Hid (cnt r l k = m) ∧ Hid (Below w8.heap.size w8 wr)) (fun _ i _ => ln - (intOf i).toNat)
  case atStart => exact ⟨0, 0, by omega, by omega, rfl, rfl, C0, Lib.hid (Below.refl _ _)⟩
  case round =>
    obtain ⟨k, m, hk, hm, rfl, rfl, hcn, hb⟩ := hrel
    have B9 := Lib.hid (B8.out.trans (hb.out.mono B8.out.size))
    have S9 := Lib.hid (S8.out.down hb.out)
    have szr := hb.out.size
    by_cases hlt : k < ln
    · have kll : k < l.length := by rw [HLN.out]; exact hlt
      have hx := List.getElem?_eq_getElem kll
      have hel : k < es3.length := by rw [E8.out.len, HLN.out]; exact hlt
      have he := List.getElem?_eq_getElem hel
      have MX := Lib.hid (List.getElem_mem kll)
      have Er := E8.out.keep (w' := wr) (Q := fun g => T ≤ g ∧ g < w3.heap.size) fun g hg => ⟨hg, hb.out.block g (by omega)⟩
      have hent := Er.ent k _ _ he hx
      obtain ⟨g, rfl, hPg, hcells⟩ := Er.row k _ he
      have CI := Lib.hid (fun h => cnt_in (r := r) hx h)
      have CO := Lib.hid (fun h => cnt_out (r := r) hx h)
      rw [hcn.out] at CI CO
      generalize l[k] = x at *
      generalize es3[k] = e at *
      obtain ⟨eid, ek, ec, ef, et, nA, nn, nc, iA, mm, ic⟩ := e
      obtain ⟨j, cel⟩ := x
      obtain ⟨a1, a2, a3, a4, a5, a6, a7, a8, a9⟩ := hent
      simp only at a1 a2 a3 a4 a5 a6 a7 a8 a9 CI CO
      subst a1; subst a2; subst a3; subst a4; subst a5
      have x0 : wr.cell? ⟨g, k * 7, none⟩ = some (.int .i64 eid) := hcells 0 _ rfl
      have x1 := hcells 1 _ rfl
      have x2 := hcells 2 _ rfl
      have x3 := hcells 3 _ rfl
      have x4 := hcells 4 _ rfl
      have x5 := hcells 5 _ rfl
      have x6 := hcells 6 _ rfl
      have NMS := Lib.hid a8
      have ITS := Lib.hid a9
      have a6' := Lib.hid a6
      have a7' := Lib.hid a7
      have ki : (k : Int) < ln := by omega
      have FW := few.out _ MX.out
      simp only at FW
      have n3 : nn ≤ 3 := by omega
      have m3 : mm ≤ 3 := by omega
      have HM := Lib.hid hcn
      have r8' : rn ≤ 8 := r8
      clear hcells a6 a7 a8 a9 hx he hel Er kll FW hcn
      by_cases hr : eid ∈ r
      · obtain ⟨hy, hc1⟩ := CI.out hr
        have hml : m < rn := by have := (List.getElem?_eq_some_iff.1 hy).1; rw [KL.out] at this; exact this
        have SP := Lib.hid (SK.out _ MX.out hr)
        simp only at SP
        have C1 := Lib.hid hc1
        have DF := Lib.hid (clean_ok (gone := goneL r l) (OKC.out _ MX.out)).2.1
        simp only at DF
        obtain ⟨d, hd⟩ : ∃ d, cleanC (goneL r l) cel = d := ⟨_, rfl⟩
        rw [hd] at hy SP DF
        have Dr := D8.out.keep (w' := wr) (Q := fun g => w6.heap.size ≤ g ∧ g < w7.heap.size) fun g hg => ⟨hg, hb.out.block g (by omega)⟩
        have hel : m < es7.length := by rw [Dr.len, KL.out]; exact hml
        have he := List.getElem?_eq_getElem hel
        have hent := Dr.ent m _ _ he hy
        obtain ⟨g', rfl, hPg', hcells⟩ := Dr.row m _ he
        generalize es7[m] = e at *
        obtain ⟨did, dk, dc, df, dt, nD, dn, dnc, iD, dm, dic⟩ := e
        obtain ⟨b1, b2, b3, b4, b5, b6, b7, b8, b9⟩ := hent
        simp only at b1 b2 b3 b4 b5 b6 b7 b8 b9
        subst b1; subst b2; subst b3; subst b4; subst b5
        obtain rfl : mm = dm := by rw [← b7, ← a7'.out]; exact SP.out.len.symm
        have y0 : wr.cell? ⟨g', m * 7, none⟩ = some (.int .i64 did) := hcells 0 _ rfl
        have y1 := hcells 1 _ rfl
        have y2 := hcells 2 _ rfl
        have y3 := hcells 3 _ rfl
        have y4 := hcells 4 _ rfl
        have y5 := hcells 5 _ rfl
        have y6 := hcells 6 _ rfl
        have DN := Lib.hid b6
        have DM := Lib.hid b7
        have DNS := Lib.hid b8
        have DIS := Lib.hid b9
        have g7 : g' < wr.heap.size := by omega
        have mi : (m : Int) < rn := by omega
        clear hcells b6 b7 b8 b9 hy he hel Dr hc1 hd CI CO
        go_wp2_with fail
        have BX := Lib.hid (Bk.new wr #[.int .i64 did, .int .i64 cel.kind, .int .i64 cel.cls, .int .i64 cel.fn, .int .i64 cel.ten, .slice nA nn nc, .slice iA mm ic] 49)
        have ax := (Below.refl wr.heap.size wr).alloc (Nat.le_refl _) (.cells #[.int .i64 did, .int .i64 cel.kind, .int .i64 cel.cls, .int .i64 cel.fn, .int .i64 cel.ten, .slice nA nn nc, .slice iA mm ic] 49)
        generalize wr.alloc (.cells #[.int .i64 did, .int .i64 cel.kind, .int .i64 cel.cls, .int .i64 cel.fn, .int .i64 cel.ten, .slice nA nn nc, .slice iA mm ic] 49) = wx at *
        have e0 := (ax.cell (p := ⟨g', m * 7, none⟩) g7).trans y0
        have bx0 := BX.out.cell 0 (.int .i64 did) rfl
        have q1 : decide ((rn : Int) ≤ m) = false := by simp; omega
        go_quiet (fail)
        have bq : Below wr.heap.size wr (wx.drewN nq) := ax.trans ⟨rfl, rfl, rfl, Nat.le_refl _, fun _ _ => rfl⟩
        have BXq := Lib.hid (show Bk (wx.drewN nq) wr.heap.size _ _ from BX.out)
        clear ax e0 bx0 q1 BX
        generalize wx.drewN nq = wq at *
        have f1 := (bq.cell (p := ⟨g', m * 7 + 1, none⟩) g7).trans y1
        have f2 := (bq.cell (p := ⟨g', m * 7 + 2, none⟩) g7).trans y2
        have f3 := (bq.cell (p := ⟨g', m * 7 + 3, none⟩) g7).trans y3
        have f4 := (bq.cell (p := ⟨g', m * 7 + 4, none⟩) g7).trans y4
        have f5 := (bq.cell (p := ⟨g', m * 7 + 5, none⟩) g7).trans y5
        have f6 := (bq.cell (p := ⟨g', m * 7 + 6, none⟩) g7).trans y6
        have h1 := BXq.out.cell 1 (.int .i64 cel.kind) rfl
        have h2 := BXq.out.cell 2 (.int .i64 cel.cls) rfl
        have h3 := BXq.out.cell 3 (.int .i64 cel.fn) rfl
        have h4 := BXq.out.cell 4 (.int .i64 cel.ten) rfl
        have h5 := BXq.out.cell 5 (.slice nA nn nc) rfl
        have h6 := BXq.out.cell 6 (.slice iA mm ic) rfl
        have xlt := BXq.out.lt
        have g8q := Nat.lt_of_lt_of_le g7 bq.size
        have szq := bq.size
        clear y0 y1 y2 y3 y4 y5 y6 x0 x1 x2 x3 x4 x5 x6
        rcases SP.out.way with ⟨k4, u, v, hu, hu1, hv, hvr⟩ | ⟨hd, hw⟩
        · have e4 : (d.kind == 4) = true := by simp [k4]
          have m1 : mm = 1 := by rw [← DM.out, hu]; rfl
          have e1 : ((mm : Int) == 1) = true := by simp [m1]
          have m0 : 0 < mm := by omega
          have m0' : (0 : Int) < mm := by omega
          obtain ⟨uk, un, us⟩ := u
          obtain ⟨vk, vn, vs0⟩ := v
          simp only at hu1 hvr
          subst hu1
          obtain ⟨b5, o5, rfl, hb5, u0, -, -⟩ := DIS.out 0 _ (by rw [hu]; rfl)
          obtain ⟨b6, o6, rfl, hb6, w0, w1', w2'⟩ := ITS.out 0 _ (by rw [hv]; rfl)
          simp only [Nat.zero_mul, Nat.add_zero] at u0 w0 w1' w2'
          have VF : I64 vn := ((OKC.out _ MX.out).2.1 ⟨vk, vn, vs0⟩ (by simp [hv])).2.1
          have u0q := (bq.cell (p := ⟨b5, o5, none⟩) (by show b5 < _; omega)).trans u0
          have w0q := (bq.cell (p := ⟨b6, o6, none⟩) (by show b6 < _; omega)).trans w0
          have w1q := (bq.cell (p := ⟨b6, o6 + 1, none⟩) (by show b6 < _; omega)).trans w1'
          have w2q := (bq.cell (p := ⟨b6, o6 + 2, none⟩) (by show b6 < _; omega)).trans w2'
          have HVR := Lib.hid hvr
          have b5q : b5 < wq.heap.size := by omega
          have b6q : b6 < wq.heap.size := by omega
          clear k4 m1 hu hv u0 w0 w1' w2' hvr
          by_cases k5 : vk = 5
          · subst k5
            have hin : decide (vn ∈ r) = false := decide_eq_false (HVR.out rfl)
            go_wp2_with fail
            have ac := (Below.refl wq.heap.size wq).alloc (Nat.le_refl _) (.cells #[.int .i64 d.kind, .int .i64 d.cls, .int .i64 d.fn, .int .i64 d.ten, .slice nD dn dnc, .slice (some ⟨b5, o5, none⟩) mm dic] 46)
            have av := ac.alloc ac.size (.cells #[.int .i64 5, .int .i64 vn, .string vs0] 64)
            have BC := Lib.hid ((Bk.new wq #[.int .i64 d.kind, .int .i64 d.cls, .int .i64 d.fn, .int .i64 d.ten, .slice nD dn dnc, .slice (some ⟨b5, o5, none⟩) mm dic] 46).alloc (.cells #[.int .i64 5, .int .i64 vn, .string vs0] 64))
            have BV := Lib.hid (Bk.new (wq.alloc (.cells #[.int .i64 d.kind, .int .i64 d.cls, .int .i64 d.fn, .int .i64 d.ten, .slice nD dn dnc, .slice (some ⟨b5, o5, none⟩) mm dic] 46)) #[.int .i64 5, .int .i64 vn, .string vs0] 64)
            rw [World.size_alloc] at BV
            generalize (wq.alloc (.cells #[.int .i64 d.kind, .int .i64 d.cls, .int .i64 d.fn, .int .i64 d.ten, .slice nD dn dnc, .slice (some ⟨b5, o5, none⟩) mm dic] 46)).alloc (.cells #[.int .i64 5, .int .i64 vn, .string vs0] 64) = wv at *
            have bwv := bq.trans (av.mono bq.size)
            refine (st_cell_any w wv p (kept r l) next vn (S9.out.down bwv) VF fewK.out).mono ?_
            rintro e wc ⟨ck, cc, cf, ct, cD, cn, cd, cE, cm, ce, rfl, hbc⟩
            rw [KI.out]
            have bwc := (bwv.trans (hbc.mono bwv.size)).alloc (Nat.le_trans bwv.size hbc.size) (.cells #[.int .i64 ck, .int .i64 cc, .int .i64 cf, .int .i64 ct, .slice cD cn cd, .slice cE cm ce] 46)
            have BC2 := Lib.hid ((BC.out.low hbc).alloc (.cells #[.int .i64 ck, .int .i64 cc, .int .i64 cf, .int .i64 ct, .slice cD cn cd, .slice cE cm ce] 46))
            have v0 := ((BV.out.low hbc).alloc (.cells #[.int .i64 ck, .int .i64 cc, .int .i64 cf, .int .i64 ct, .slice cD cn cd, .slice cE cm ce] 46)).cell 0 (.int .i64 5) rfl
            have vlt := (BV.out.low hbc).lt
            have clt := (BC.out.low hbc).lt
            rw [hin]
            have c5 := BC2.out.cell 5 (.slice (some ⟨b5, o5, none⟩) mm dic) rfl
            go_wp2_with fail
            clear hin hbc av ac bwv vlt clt v0 c5
            generalize (wc.alloc (.cells #[.int .i64 ck, .int .i64 cc, .int .i64 cf, .int .i64 ct, .slice cD cn cd, .slice cE cm ce] 46)) = wy at *
            have BY := Lib.hid bwc
            have SX := Lib.hid (S9.out.down bwc)
            have DIX := Lib.hid (DIS.out.keep (w' := wy) (Q := fun g => g < wy.heap.size) fun g hg => ⟨by have := bwc.size; omega, bwc.block g (by omega)⟩)
            clear bwc BC2
            have INV := Lib.hid (show ∀ u ∈ d.items, u.Fits from DF.out)
            go_loopw [151] (fun i wr2 => ∃ q2 : Nat, q2 ≤ mm ∧ i = .int .i64 q2 ∧ Hid (Below wy.heap.size wy wr2)) (fun i _ => mm - (intOf i).toNat)
            case atStart => exact ⟨0, by omega, rfl, Lib.hid (Below.refl _ _)⟩
            case round =>
              obtain ⟨q2, hq2, rfl, hb2⟩ := hrel
              have szr2 := hb2.out.size
              by_cases hlt2 : q2 < mm
              · have q2l : q2 < d.items.length := by rw [DM.out]; exact hlt2
                have hg := List.getElem?_eq_getElem q2l
                have DI2 := DIX.out.keep (w' := wr) (Q := fun g => g < wy.heap.size) fun g hg => ⟨hg, hb2.out.block g hg⟩
                obtain ⟨b3, o3, hAd, hb3, z0, z1, z2⟩ := DI2 q2 _ hg
                obtain ⟨rfl, rfl, -⟩ := Addr.mk.inj (Option.some.inj hAd)
                have MU := Lib.hid (List.getElem_mem q2l)
                have UR := Lib.hid (SP.out.ref _ MU.out)
                have UF := (INV.out _ MU.out).2.1
                have ki2 : (q2 : Int) < mm := by omega
                generalize d.items[q2] = u at *
                obtain ⟨uk, un, us⟩ := u
                simp only at z0 z1 z2 UR UF
                have S2 := Lib.hid (SX.out.down hb2.out)
                clear hg DI2 MU q2l
                go_wp2_with fail
                have a2 := (Below.refl wr.heap.size wr).alloc (Nat.le_refl _) (.cells #[.int .i64 uk, .int .i64 un, .string us] 64)
                have V2 := Lib.hid (Bk.new wr #[.int .i64 uk, .int .i64 un, .string us] 64)
                generalize wr.alloc (.cells #[.int .i64 uk, .int .i64 un, .string us] 64) = wv at *
                refine (st_cell_any w wv p (kept r l) next un (S2.out.down a2) UF fewK.out).mono ?_
                rintro e wc ⟨ck, cc, cf, ct, cD, cn, cd, cE, cm, ce, rfl, hbc⟩
                have B2' := Lib.hid (hb2.out.trans ((a2.trans (hbc.mono a2.size)).mono szr2))
                have V3 := Lib.hid (V2.out.low hbc)
                have szc := hbc.size
                have sza := a2.size
                rw [KI.out]
                clear hbc a2 V2
                have v0 := V3.out.cell 0 (.int .i64 uk) rfl
                have vlt := V3.out.lt
                by_cases h5 : uk = 5
                · subst h5
                  have hin : decide (un ∈ r) = true := decide_eq_true (UR.out rfl)
                  rw [hin]
                  go_wp2_with fail
                  go_roundw
                  case rel => exact ⟨q2 + 1, by omega, by go_num, Lib.hid (B2'.out.alloc (by omega) _)⟩
                  case measure => simp [intOf]; omega
                · have h5' : (uk == 5) = false := by simp [h5]
                  generalize decide (un ∈ r) = there
                  go_wp2_with fail
                  go_roundw
                  case rel => exact ⟨q2 + 1, by omega, by go_num, Lib.hid (B2'.out.alloc (by omega) _)⟩
                  case measure => simp [intOf]; omega
              · obtain rfl : q2 = mm := by omega
                have BF := Lib.hid (hb.out.trans ((BY.out.trans (hb2.out.mono BY.out.size)).mono szr))
                have C2 := Lib.hid C1.out
                clear hb2 DIX SX INV
                go_wp2_with fail
                go_roundw
                case rel => exact ⟨k + 1, m + 1, by omega, by omega, by go_num, by go_num, C2, BF⟩
                case measure => simp [intOf]; omega
          · have e5 : (vk == 5) = false := by simp [k5]
            clear k5
            go_wp2_with fail
            have ac := (Below.refl wq.heap.size wq).alloc (Nat.le_refl _) (.cells #[.int .i64 d.kind, .int .i64 d.cls, .int .i64 d.fn, .int .i64 d.ten, .slice nD dn dnc, .slice (some ⟨b5, o5, none⟩) mm dic] 46)
            have av := ac.alloc ac.size (.cells #[.int .i64 vk, .int .i64 vn, .string vs0] 64)
            have BC := Lib.hid ((Bk.new wq #[.int .i64 d.kind, .int .i64 d.cls, .int .i64 d.fn, .int .i64 d.ten, .slice nD dn dnc, .slice (some ⟨b5, o5, none⟩) mm dic] 46).alloc (.cells #[.int .i64 vk, .int .i64 vn, .string vs0] 64))
            have BV := Lib.hid (Bk.new (wq.alloc (.cells #[.int .i64 d.kind, .int .i64 d.cls, .int .i64 d.fn, .int .i64 d.ten, .slice nD dn dnc, .slice (some ⟨b5, o5, none⟩) mm dic] 46)) #[.int .i64 vk, .int .i64 vn, .string vs0] 64)
            rw [World.size_alloc] at BV
            generalize (wq.alloc (.cells #[.int .i64 d.kind, .int .i64 d.cls, .int .i64 d.fn, .int .i64 d.ten, .slice nD dn dnc, .slice (some ⟨b5, o5, none⟩) mm dic] 46)).alloc (.cells #[.int .i64 vk, .int .i64 vn, .string vs0] 64) = wv at *
            have bwv := bq.trans (av.mono bq.size)
            refine (st_cell_any w wv p (kept r l) next vn (S9.out.down bwv) VF fewK.out).mono ?_
            rintro e wc ⟨ck, cc, cf, ct, cD, cn, cd, cE, cm, ce, rfl, hbc⟩
            rw [KI.out]
            have bwc := (bwv.trans (hbc.mono bwv.size)).alloc (Nat.le_trans bwv.size hbc.size) (.cells #[.int .i64 ck, .int .i64 cc, .int .i64 cf, .int .i64 ct, .slice cD cn cd, .slice cE cm ce] 46)
            have BC2 := Lib.hid ((BC.out.low hbc).alloc (.cells #[.int .i64 ck, .int .i64 cc, .int .i64 cf, .int .i64 ct, .slice cD cn cd, .slice cE cm ce] 46))
            have v0 := ((BV.out.low hbc).alloc (.cells #[.int .i64 ck, .int .i64 cc, .int .i64 cf, .int .i64 ct, .slice cD cn cd, .slice cE cm ce] 46)).cell 0 (.int .i64 vk) rfl
            have vlt := (BV.out.low hbc).lt
            have clt := (BC.out.low hbc).lt
            generalize decide (vn ∈ r) = there
            have c5 := BC2.out.cell 5 (.slice (some ⟨b5, o5, none⟩) mm dic) rfl
            go_wp2_with fail
            clear hbc av ac bwv vlt clt v0 c5
            generalize (wc.alloc (.cells #[.int .i64 ck, .int .i64 cc, .int .i64 cf, .int .i64 ct, .slice cD cn cd, .slice cE cm ce] 46)) = wy at *
            have BY := Lib.hid bwc
            have SX := Lib.hid (S9.out.down bwc)
            have DIX := Lib.hid (DIS.out.keep (w' := wy) (Q := fun g => g < wy.heap.size) fun g hg => ⟨by have := bwc.size; omega, bwc.block g (by omega)⟩)
            clear bwc BC2
            have INV := Lib.hid (show ∀ u ∈ d.items, u.Fits from DF.out)
            go_loopw [151] (fun i wr2 => ∃ q2 : Nat, q2 ≤ mm ∧ i = .int .i64 q2 ∧ Hid (Below wy.heap.size wy wr2)) (fun i _ => mm - (intOf i).toNat)
            case atStart => exact ⟨0, by omega, rfl, Lib.hid (Below.refl _ _)⟩
            case round =>
              obtain ⟨q2, hq2, rfl, hb2⟩ := hrel
              have szr2 := hb2.out.size
              by_cases hlt2 : q2 < mm
              · have q2l : q2 < d.items.length := by rw [DM.out]; exact hlt2
                have hg := List.getElem?_eq_getElem q2l
                have DI2 := DIX.out.keep (w' := wr) (Q := fun g => g < wy.heap.size) fun g hg => ⟨hg, hb2.out.block g hg⟩
                obtain ⟨b3, o3, hAd, hb3, z0, z1, z2⟩ := DI2 q2 _ hg
                obtain ⟨rfl, rfl, -⟩ := Addr.mk.inj (Option.some.inj hAd)
                have MU := Lib.hid (List.getElem_mem q2l)
                have UR := Lib.hid (SP.out.ref _ MU.out)
                have UF := (INV.out _ MU.out).2.1
                have ki2 : (q2 : Int) < mm := by omega
                generalize d.items[q2] = u at *
                obtain ⟨uk, un, us⟩ := u
                simp only at z0 z1 z2 UR UF
                have S2 := Lib.hid (SX.out.down hb2.out)
                clear hg DI2 MU q2l
                go_wp2_with fail
                have a2 := (Below.refl wr.heap.size wr).alloc (Nat.le_refl _) (.cells #[.int .i64 uk, .int .i64 un, .string us] 64)
                have V2 := Lib.hid (Bk.new wr #[.int .i64 uk, .int .i64 un, .string us] 64)
                generalize wr.alloc (.cells #[.int .i64 uk, .int .i64 un, .string us] 64) = wv at *
                refine (st_cell_any w wv p (kept r l) next un (S2.out.down a2) UF fewK.out).mono ?_
                rintro e wc ⟨ck, cc, cf, ct, cD, cn, cd, cE, cm, ce, rfl, hbc⟩
                have B2' := Lib.hid (hb2.out.trans ((a2.trans (hbc.mono a2.size)).mono szr2))
                have V3 := Lib.hid (V2.out.low hbc)
                have szc := hbc.size
                have sza := a2.size
                rw [KI.out]
                clear hbc a2 V2
                have v0 := V3.out.cell 0 (.int .i64 uk) rfl
                have vlt := V3.out.lt
                by_cases h5 : uk = 5
                · subst h5
                  have hin : decide (un ∈ r) = true := decide_eq_true (UR.out rfl)
                  rw [hin]
                  go_wp2_with fail
                  go_roundw
                  case rel => exact ⟨q2 + 1, by omega, by go_num, Lib.hid (B2'.out.alloc (by omega) _)⟩
                  case measure => simp [intOf]; omega
                · have h5' : (uk == 5) = false := by simp [h5]
                  generalize decide (un ∈ r) = there
                  go_wp2_with fail
                  go_roundw
                  case rel => exact ⟨q2 + 1, by omega, by go_num, Lib.hid (B2'.out.alloc (by omega) _)⟩
                  case measure => simp [intOf]; omega
              · obtain rfl : q2 = mm := by omega
                have BF := Lib.hid (hb.out.trans ((BY.out.trans (hb2.out.mono BY.out.size)).mono szr))
                have C2 := Lib.hid C1.out
                clear hb2 DIX SX INV
                go_wp2_with fail
                go_roundw
                case rel => exact ⟨k + 1, m + 1, by omega, by omega, by go_num, by go_num, C2, BF⟩
                case measure => simp [intOf]; omega
        · subst hd
          have EQ := Lib.hid (fun (w' : World) (hb' : Below wq.heap.size wq w') => equal_any (fun g => g < wq.heap.size) (fun g => g < wq.heap.size) d d nD iD nA iA dn dnc mm dic nn nc mm ic w' DN.out DM.out a6'.out a7'.out (DNS.out.keep fun g hg => ⟨by omega, (hb'.block g (by omega)).trans (bq.block g (by omega))⟩) (DIS.out.keep fun g hg => ⟨by omega, (hb'.block g (by omega)).trans (bq.block g (by omega))⟩) (NMS.out.keep fun g hg => ⟨by omega, (hb'.block g (by omega)).trans (bq.block g (by omega))⟩) (ITS.out.keep fun g hg => ⟨by omega, (hb'.block g (by omega)).trans (bq.block g (by omega))⟩)
            (fun b hb => by have := hb'.size; omega) (fun b hb => by have := hb'.size; omega) (by have := DN.out; have := a6'.out; omega) (by omega) (by omega) (by omega) true (by simp))
          unfold celV at EQ
          have ac := (Below.refl wq.heap.size wq).alloc (Nat.le_refl _) (.cells #[.int .i64 d.kind, .int .i64 d.cls, .int .i64 d.fn, .int .i64 d.ten, .slice nD dn dnc, .slice iD mm dic] 46)
          have EQ2 := Lib.hid (EQ.out _ ac)
          clear EQ
          by_cases k4 : d.kind = 4
          · obtain ⟨u, hu, hu5⟩ : ∃ u, d.items = [u] ∧ u.k = 5 := by
              rcases hw with h | h
              · exact absurd k4 h
              · exact h
            have e4 : (d.kind == 4) = true := by simp [k4]
            have m1 : mm = 1 := by rw [← DM.out, hu]; rfl
            have e1 : ((mm : Int) == 1) = true := by simp [m1]
            have m0 : 0 < mm := by omega
            have m0' : (0 : Int) < mm := by omega
            obtain ⟨uk, un, us⟩ := u
            simp only at hu5
            subst hu5
            obtain ⟨b5, o5, hiD, hb5, u0, -, -⟩ := DIS.out 0 _ (by rw [hu]; rfl)
            simp only [Nat.zero_mul, Nat.add_zero] at u0
            have u0q := (bq.cell (p := ⟨b5, o5, none⟩) (by show b5 < _; omega)).trans u0
            have b5q : b5 < wq.heap.size := by omega
            subst hiD
            clear k4 m1 hu u0 hw
            go_wp2_with fail
            refine EQ2.out.mono ?_
            rintro e wy ⟨rfl, hby⟩
            have bwc := bq.trans ((ac.trans (hby.mono ac.size)).mono bq.size)
            have BC2 := Lib.hid ((Bk.new wq #[.int .i64 d.kind, .int .i64 d.cls, .int .i64 d.fn, .int .i64 d.ten, .slice nD dn dnc, .slice (some ⟨b5, o5, none⟩) mm dic] 46).low hby)
            have BY := Lib.hid bwc
            have SX := Lib.hid (S9.out.down bwc)
            have DIX := Lib.hid (DIS.out.keep (w' := wy) (Q := fun g => g < wy.heap.size) fun g hg => ⟨by have := bwc.size; omega, bwc.block g (by omega)⟩)
            have c5 := BC2.out.cell 5 (.slice (some ⟨b5, o5, none⟩) mm dic) rfl
            have clt := BC2.out.lt
            go_wp2_with fail
            clear bwc BC2 hby ac c5 EQ2
            have INV := Lib.hid (show ∀ u ∈ d.items, u.Fits from DF.out)
            go_loopw [151] (fun i wr2 => ∃ q2 : Nat, q2 ≤ mm ∧ i = .int .i64 q2 ∧ Hid (Below wy.heap.size wy wr2)) (fun i _ => mm - (intOf i).toNat)
            case atStart => exact ⟨0, by omega, rfl, Lib.hid (Below.refl _ _)⟩
            case round =>
              obtain ⟨q2, hq2, rfl, hb2⟩ := hrel
              have szr2 := hb2.out.size
              by_cases hlt2 : q2 < mm
              · have q2l : q2 < d.items.length := by rw [DM.out]; exact hlt2
                have hg := List.getElem?_eq_getElem q2l
                have DI2 := DIX.out.keep (w' := wr) (Q := fun g => g < wy.heap.size) fun g hg => ⟨hg, hb2.out.block g hg⟩
                obtain ⟨b3, o3, hAd, hb3, z0, z1, z2⟩ := DI2 q2 _ hg
                obtain ⟨rfl, rfl, -⟩ := Addr.mk.inj (Option.some.inj hAd)
                have MU := Lib.hid (List.getElem_mem q2l)
                have UR := Lib.hid (SP.out.ref _ MU.out)
                have UF := (INV.out _ MU.out).2.1
                have ki2 : (q2 : Int) < mm := by omega
                generalize d.items[q2] = u at *
                obtain ⟨uk, un, us⟩ := u
                simp only at z0 z1 z2 UR UF
                have S2 := Lib.hid (SX.out.down hb2.out)
                clear hg DI2 MU q2l
                go_wp2_with fail
                have a2 := (Below.refl wr.heap.size wr).alloc (Nat.le_refl _) (.cells #[.int .i64 uk, .int .i64 un, .string us] 64)
                have V2 := Lib.hid (Bk.new wr #[.int .i64 uk, .int .i64 un, .string us] 64)
                generalize wr.alloc (.cells #[.int .i64 uk, .int .i64 un, .string us] 64) = wv at *
                refine (st_cell_any w wv p (kept r l) next un (S2.out.down a2) UF fewK.out).mono ?_
                rintro e wc ⟨ck, cc, cf, ct, cD, cn, cd, cE, cm, ce, rfl, hbc⟩
                have B2' := Lib.hid (hb2.out.trans ((a2.trans (hbc.mono a2.size)).mono szr2))
                have V3 := Lib.hid (V2.out.low hbc)
                have szc := hbc.size
                have sza := a2.size
                rw [KI.out]
                clear hbc a2 V2
                have v0 := V3.out.cell 0 (.int .i64 uk) rfl
                have vlt := V3.out.lt
                by_cases h5 : uk = 5
                · subst h5
                  have hin : decide (un ∈ r) = true := decide_eq_true (UR.out rfl)
                  rw [hin]
                  go_wp2_with fail
                  go_roundw
                  case rel => exact ⟨q2 + 1, by omega, by go_num, Lib.hid (B2'.out.alloc (by omega) _)⟩
                  case measure => simp [intOf]; omega
                · have h5' : (uk == 5) = false := by simp [h5]
                  generalize decide (un ∈ r) = there
                  go_wp2_with fail
                  go_roundw
                  case rel => exact ⟨q2 + 1, by omega, by go_num, Lib.hid (B2'.out.alloc (by omega) _)⟩
                  case measure => simp [intOf]; omega
              · obtain rfl : q2 = mm := by omega
                have BF := Lib.hid (hb.out.trans ((BY.out.trans (hb2.out.mono BY.out.size)).mono szr))
                have C2 := Lib.hid C1.out
                clear hb2 DIX SX INV
                go_wp2_with fail
                go_roundw
                case rel => exact ⟨k + 1, m + 1, by omega, by omega, by go_num, by go_num, C2, BF⟩
                case measure => simp [intOf]; omega
          · have e4 : (d.kind == 4) = false := by simp [k4]
            clear k4 hw
            go_wp2_with fail
            refine EQ2.out.mono ?_
            rintro e wy ⟨rfl, hby⟩
            have bwc := bq.trans ((ac.trans (hby.mono ac.size)).mono bq.size)
            have BC2 := Lib.hid ((Bk.new wq #[.int .i64 d.kind, .int .i64 d.cls, .int .i64 d.fn, .int .i64 d.ten, .slice nD dn dnc, .slice iD mm dic] 46).low hby)
            have BY := Lib.hid bwc
            have SX := Lib.hid (S9.out.down bwc)
            have DIX := Lib.hid (DIS.out.keep (w' := wy) (Q := fun g => g < wy.heap.size) fun g hg => ⟨by have := bwc.size; omega, bwc.block g (by omega)⟩)
            have c5 := BC2.out.cell 5 (.slice iD mm dic) rfl
            have clt := BC2.out.lt
            go_wp2_with fail
            clear bwc BC2 hby ac c5 EQ2
            have INV := Lib.hid (show ∀ u ∈ d.items, u.Fits from DF.out)
            go_loopw [151] (fun i wr2 => ∃ q2 : Nat, q2 ≤ mm ∧ i = .int .i64 q2 ∧ Hid (Below wy.heap.size wy wr2)) (fun i _ => mm - (intOf i).toNat)
            case atStart => exact ⟨0, by omega, rfl, Lib.hid (Below.refl _ _)⟩
            case round =>
              obtain ⟨q2, hq2, rfl, hb2⟩ := hrel
              have szr2 := hb2.out.size
              by_cases hlt2 : q2 < mm
              · have q2l : q2 < d.items.length := by rw [DM.out]; exact hlt2
                have hg := List.getElem?_eq_getElem q2l
                have DI2 := DIX.out.keep (w' := wr) (Q := fun g => g < wy.heap.size) fun g hg => ⟨hg, hb2.out.block g hg⟩
                obtain ⟨b3, o3, hAd, hb3, z0, z1, z2⟩ := DI2 q2 _ hg
                subst hAd
                have MU := Lib.hid (List.getElem_mem q2l)
                have UR := Lib.hid (SP.out.ref _ MU.out)
                have UF := (INV.out _ MU.out).2.1
                have ki2 : (q2 : Int) < mm := by omega
                generalize d.items[q2] = u at *
                obtain ⟨uk, un, us⟩ := u
                simp only at z0 z1 z2 UR UF
                have S2 := Lib.hid (SX.out.down hb2.out)
                clear hg DI2 MU q2l
                go_wp2_with fail
                have a2 := (Below.refl wr.heap.size wr).alloc (Nat.le_refl _) (.cells #[.int .i64 uk, .int .i64 un, .string us] 64)
                have V2 := Lib.hid (Bk.new wr #[.int .i64 uk, .int .i64 un, .string us] 64)
                generalize wr.alloc (.cells #[.int .i64 uk, .int .i64 un, .string us] 64) = wv at *
                refine (st_cell_any w wv p (kept r l) next un (S2.out.down a2) UF fewK.out).mono ?_
                rintro e wc ⟨ck, cc, cf, ct, cD, cn, cd, cE, cm, ce, rfl, hbc⟩
                have B2' := Lib.hid (hb2.out.trans ((a2.trans (hbc.mono a2.size)).mono szr2))
                have V3 := Lib.hid (V2.out.low hbc)
                have szc := hbc.size
                have sza := a2.size
                rw [KI.out]
                clear hbc a2 V2
                have v0 := V3.out.cell 0 (.int .i64 uk) rfl
                have vlt := V3.out.lt
                by_cases h5 : uk = 5
                · subst h5
                  have hin : decide (un ∈ r) = true := decide_eq_true (UR.out rfl)
                  rw [hin]
                  go_wp2_with fail
                  go_roundw
                  case rel => exact ⟨q2 + 1, by omega, by go_num, Lib.hid (B2'.out.alloc (by omega) _)⟩
                  case measure => simp [intOf]; omega
                · have h5' : (uk == 5) = false := by simp [h5]
                  generalize decide (un ∈ r) = there
                  go_wp2_with fail
                  go_roundw
                  case rel => exact ⟨q2 + 1, by omega, by go_num, Lib.hid (B2'.out.alloc (by omega) _)⟩
                  case measure => simp [intOf]; omega
              · obtain rfl : q2 = mm := by omega
                have BF := Lib.hid (hb.out.trans ((BY.out.trans (hb2.out.mono BY.out.size)).mono szr))
                have C2 := Lib.hid C1.out
                clear hb2 DIX SX INV
                go_wp2_with fail
                go_roundw
                case rel => exact ⟨k + 1, m + 1, by omega, by omega, by go_num, by go_num, C2, BF⟩
                case measure => simp [intOf]; omega
      · have HO := Lib.hid (CO.out hr)
        by_cases hmr : m < rn
        · have Dr := D8.out.keep (w' := wr) (Q := fun g => w6.heap.size ≤ g ∧ g < w7.heap.size) fun g hg => ⟨hg, hb.out.block g (by omega)⟩
          have hel : m < es7.length := by rw [Dr.len, KL.out]; exact hmr
          have he := List.getElem?_eq_getElem hel
          have hkl : m < (kept r l).length := by rw [KL.out]; exact hmr
          have hy := List.getElem?_eq_getElem hkl
          have hne := HO.out.2 _ hy
          have hent := Dr.ent m _ _ he hy
          obtain ⟨g', rfl, hPg', hcells⟩ := Dr.row m _ he
          have y0' := hcells 0 _ rfl
          rw [hent.id] at y0'
          have y0 : wr.cell? ⟨g', m * 7, none⟩ = some (.int .i64 (kept r l)[m].1) := y0'
          generalize (kept r l)[m].1 = did at *
          have g7 : g' < wr.heap.size := by omega
          have mi : (m : Int) < rn := by omega
          have HC1 := Lib.hid HO.out.1
          clear y0' hcells hent hy he hkl hel Dr CI CO HO
          go_wp2_with fail
          have BX := Lib.hid (Bk.new wr #[.int .i64 eid, .int .i64 cel.kind, .int .i64 cel.cls, .int .i64 cel.fn, .int .i64 cel.ten, .slice nA nn nc, .slice iA mm ic] 49)
          have ax := (Below.refl wr.heap.size wr).alloc (Nat.le_refl _) (.cells #[.int .i64 eid, .int .i64 cel.kind, .int .i64 cel.cls, .int .i64 cel.fn, .int .i64 cel.ten, .slice nA nn nc, .slice iA mm ic] 49)
          generalize wr.alloc (.cells #[.int .i64 eid, .int .i64 cel.kind, .int .i64 cel.cls, .int .i64 cel.fn, .int .i64 cel.ten, .slice nA nn nc, .slice iA mm ic] 49) = wx at *
          have e0 := (ax.cell (p := ⟨g', m * 7, none⟩) g7).trans y0
          have bx0 := BX.out.cell 0 (.int .i64 eid) rfl
          have q1 : decide ((rn : Int) ≤ m) = false := by simp; omega
          have q2 : (did != eid) = true := by simp [hne]
          go_quiet (fail)
          have bq : Below wr.heap.size wr (wx.drewN nq) := ax.trans ⟨rfl, rfl, rfl, Nat.le_refl _, fun _ _ => rfl⟩
          have BF := Lib.hid (hb.out.trans (bq.mono szr))
          clear ax bq q1 q2 e0 bx0 BX hne y0
          go_wp2_with fail
          go_roundw
          case rel => exact ⟨k + 1, m, by omega, by omega, by go_num, rfl, HC1, BF⟩
          case measure => simp [intOf]; omega
        · have HC1 := Lib.hid HO.out.1
          have q1 : decide ((rn : Int) ≤ m) = true := by simp; omega
          clear HO CI CO
          go_wp2_with fail
          have ax := (Below.refl wr.heap.size wr).alloc (Nat.le_refl _) (.cells #[.int .i64 eid, .int .i64 cel.kind, .int .i64 cel.cls, .int .i64 cel.fn, .int .i64 cel.ten, .slice nA nn nc, .slice iA mm ic] 49)
          generalize wr.alloc (.cells #[.int .i64 eid, .int .i64 cel.kind, .int .i64 cel.cls, .int .i64 cel.fn, .int .i64 cel.ten, .slice nA nn nc, .slice iA mm ic] 49) = wx at *
          go_quiet (fail)
          have bq : Below wr.heap.size wr (wx.drewN nq) := ax.trans ⟨rfl, rfl, rfl, Nat.le_refl _, fun _ _ => rfl⟩
          have BF := Lib.hid (hb.out.trans (bq.mono szr))
          clear ax bq q1
          go_wp2_with fail
          go_roundw
          case rel => exact ⟨k + 1, m, by omega, by omega, by go_num, rfl, HC1, BF⟩
          case measure => simp [intOf]; omega
    · have e9 : m = rn := by
        have h := hcn.out
        have hk' : k = l.length := by rw [HLN.out]; omega
        rw [hk', CA.out, KL.out] at h
        exact h.symm
      have q9 : ((m : Int) == rn) = true := by simp [e9]
      clear e9
      go_wp2_with fail
      go_ret
      exact ⟨rfl, B9.out⟩
end Go.Proofs.YtkdpcnikgdbmaaaGreatDoor.Hp
