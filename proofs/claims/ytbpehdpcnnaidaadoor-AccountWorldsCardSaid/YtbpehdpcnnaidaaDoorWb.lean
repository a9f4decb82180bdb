/-
  account.Right, whole.
-/
import Derived.Test.YtbpehdpcnnaidaaDoorWa
import Derived.Test.YtbpehdpcnnaidaaDoorRs
namespace Go.Proofs.YtbpehdpcnnaidaaDoor.Ac
open Go Go.RowKit Va

def rightA (d : Wd) : Bool :=
  limV 0 1000 d.vs && (limI 0 1000 (-1000000000000000) 1000000000000000 d.cs && (limI 0 1000 (-1000000000) 1000000000 d.hs && (limI 1 4 0 1000000000000000 d.fs && (limI d.fs.length d.fs.length 0 30000 d.ls && inI 0 1000000000 d.ep))))
theorem limI_numB (zs : List Int) (nhi lo hi : Int) : limI 0 nhi lo hi zs = numB zs nhi lo hi := by
  unfold limI numB inB inI
  rw [Bool.eq_iff_iff]
  simp only [Bool.and_eq_true, decide_eq_true_eq, List.all_eq_true]
  constructor
  · rintro ⟨⟨_, a⟩, b⟩; exact ⟨a, b⟩
  · rintro ⟨a, b⟩; exact ⟨⟨by omega, a⟩, b⟩
theorem rightA_W (d : Wd) : rightA d = rightW d := by
  unfold rightA rightW limV
  rw [limI_numB, limI_numB]
  unfold limI numB inB inI
  rw [Bool.eq_iff_iff]
  simp only [Bool.and_eq_true, decide_eq_true_eq, List.all_eq_true]
  constructor
  · rintro ⟨⟨⟨_, a⟩, b⟩, c, d, ⟨⟨e1, e2⟩, e3⟩, ⟨⟨f1, f2⟩, f3⟩, g⟩
    exact ⟨b, a, c, d, ⟨e2, e3⟩, ⟨by omega, f3⟩, g, by omega, by omega⟩
  · rintro ⟨b, a, c, d, ⟨e2, e3⟩, ⟨f2, f3⟩, g, h1, h2⟩
    exact ⟨⟨⟨by omega, a⟩, b⟩, c, d, ⟨⟨by omega, e2⟩, e3⟩, ⟨⟨by omega, by omega⟩, f3⟩, g⟩
set_option maxRecDepth 10000 in
set_option maxHeartbeats 8000000 in
theorem acc_right (d : Wd) (B : Nat) (w : World) (h : d.Reads w B) (hB : B ≤ w.heap.size) (hbn : Bnds w) :
    Calls Tryd.prog 7 #[.agg #[.slice d.iA d.vs.length d.ic, .slice d.cA d.cs.length d.cc, .slice d.hA d.hs.length d.hc, .slice d.fA d.fs.length d.fc, .slice d.lA d.ls.length d.lc, .int .i64 d.ep]] w fun e w' => e = .returned (.bool (rightW d)) ∧ Below w.heap.size w w' := by
  rw [← rightA_W]
  obtain ⟨iA, vs, ic, cA, cs, cc, hA, hs, hc, fA, fs, fc, lA, ls, lc, ep⟩ := d
  have H := Lib.hid h
  have HBN := Lib.hid hbn
  obtain ⟨n1, n2, n3, n4, n5⟩ := h.n
  clear h hbn
  simp only at n1 n2 n3 n4 n5 ⊢
  have BX := Lib.hid (((((Below.refl w.heap.size w).alloc (Nat.le_refl _) (.cells #[.slice iA vs.length ic, .slice cA cs.length cc, .slice hA hs.length hc, .slice fA fs.length fc, .slice lA ls.length lc, .int .i64 ep] 28)).alloc (by simp) (.cells #[.int .i64 0, .int .i64 1000] 57)).alloc (by simp; omega) (.cells #[.int .i64 1, .int .i64 4] 57)).alloc (by simp; omega) (.cells #[.int .i64 fs.length, .int .i64 fs.length] 57))
  have X0 := Lib.hid (((Bk.new w #[.slice iA vs.length ic, .slice cA cs.length cc, .slice hA hs.length hc, .slice fA fs.length fc, .slice lA ls.length lc, .int .i64 ep] 28).alloc (.cells #[.int .i64 0, .int .i64 1000] 57)).alloc (.cells #[.int .i64 1, .int .i64 4] 57) |>.alloc (.cells #[.int .i64 fs.length, .int .i64 fs.length] 57))
  have b1 := ((Bk.new (w.alloc (.cells #[.slice iA vs.length ic, .slice cA cs.length cc, .slice hA hs.length hc, .slice fA fs.length fc, .slice lA ls.length lc, .int .i64 ep] 28)) #[.int .i64 0, .int .i64 1000] 57).alloc (.cells #[.int .i64 1, .int .i64 4] 57)).alloc (.cells #[.int .i64 fs.length, .int .i64 fs.length] 57)
  have b2 := (Bk.new ((w.alloc (.cells #[.slice iA vs.length ic, .slice cA cs.length cc, .slice hA hs.length hc, .slice fA fs.length fc, .slice lA ls.length lc, .int .i64 ep] 28)).alloc (.cells #[.int .i64 0, .int .i64 1000] 57)) #[.int .i64 1, .int .i64 4] 57).alloc (.cells #[.int .i64 fs.length, .int .i64 fs.length] 57)
  have b3 := Bk.new (((w.alloc (.cells #[.slice iA vs.length ic, .slice cA cs.length cc, .slice hA hs.length hc, .slice fA fs.length fc, .slice lA ls.length lc, .int .i64 ep] 28)).alloc (.cells #[.int .i64 0, .int .i64 1000] 57)).alloc (.cells #[.int .i64 1, .int .i64 4] 57)) #[.int .i64 fs.length, .int .i64 fs.length] 57
  simp only [World.size_alloc] at b1 b2 b3
  have X1 := Lib.hid b1
  have X2 := Lib.hid b2
  have X3 := Lib.hid b3
  clear b1 b2 b3
  go_enter Tryd.func7, Tryd.ntmps7
  go_wp2_with fail
  obtain ⟨w0, hw0⟩ : ∃ w0, ((((w.alloc (.cells #[.slice iA vs.length ic, .slice cA cs.length cc, .slice hA hs.length hc, .slice fA fs.length fc, .slice lA ls.length lc, .int .i64 ep] 28)).alloc (.cells #[.int .i64 0, .int .i64 1000] 57)).alloc (.cells #[.int .i64 1, .int .i64 4] 57)).alloc (.cells #[.int .i64 fs.length, .int .i64 fs.length] 57)) = w0 := ⟨_, rfl⟩
  rw [hw0] at X0 X1 X2 X3 BX ⊢
  clear hw0
  have B0 := BX
  have X00 := X0
  have X10 := X1
  have X20 := X2
  have X30 := X3
  clear BX X0 X1 X2 X3
  refine (limited_val iA vs ic B 0 1000 _ (H.out.i.below B0.out hB) (by have := B0.out.size; omega) n1 (bnds_below HBN.out B0.out HBN.out.size)).mono ?_
  rintro e w1 ⟨rfl, hb⟩
  obtain ⟨b, hq⟩ : ∃ b, limV 0 1000 vs = b := ⟨_, rfl⟩
  rw [hq]
  have Q1 := Lib.hid hq
  have B1 := Lib.hid (B0.out.trans (hb.mono B0.out.size))
  have X01 := Lib.hid (X00.out.below hb X00.out.lt)
  have X11 := Lib.hid (X10.out.below hb X10.out.lt)
  have X21 := Lib.hid (X20.out.below hb X20.out.lt)
  have X31 := Lib.hid (X30.out.below hb X30.out.lt)
  clear hb hq B0 X00 X10 X20 X30
  cases b
  · have HF := Lib.hid (show rightA (⟨iA, vs, ic, cA, cs, cc, hA, hs, hc, fA, fs, fc, lA, ls, lc, ep⟩ : Wd) = false by unfold rightA; simp only; rw [Q1.out]; rfl)
    go_wp2_with fail
    go_ret
    exact ⟨ret_bool HF.out.symm, B1.out⟩
  · have y0 : w1.cell? ⟨w.heap.size, 1, none⟩ = some (.slice cA cs.length cc) := X01.out.cell 1 _ rfl
    have y1 : w1.cell? ⟨w.heap.size + 1, 0, none⟩ = some (.int .i64 0) := X11.out.cell 0 _ rfl
    have y2 : w1.cell? ⟨w.heap.size + 1, 1, none⟩ = some (.int .i64 1000) := X11.out.cell 1 _ rfl
    go_wp2_with fail
    refine (limited_int cA cs cc B 0 1000 (-1000000000000000) 1000000000000000 _ (H.out.c.below B1.out hB) (by have := B1.out.size; omega) n2).mono ?_
    rintro e w2 ⟨rfl, hb⟩
    obtain ⟨b, hq⟩ : ∃ b, limI 0 1000 (-1000000000000000) 1000000000000000 cs = b := ⟨_, rfl⟩
    rw [hq]
    have Q2 := Lib.hid hq
    have B2 := Lib.hid (B1.out.trans (hb.mono B1.out.size))
    have X02 := Lib.hid (X01.out.below hb X01.out.lt)
    have X12 := Lib.hid (X11.out.below hb X11.out.lt)
    have X22 := Lib.hid (X21.out.below hb X21.out.lt)
    have X32 := Lib.hid (X31.out.below hb X31.out.lt)
    clear hb hq B1 X01 X11 X21 X31 y0 y1 y2
    cases b
    · have HF := Lib.hid (show rightA (⟨iA, vs, ic, cA, cs, cc, hA, hs, hc, fA, fs, fc, lA, ls, lc, ep⟩ : Wd) = false by unfold rightA; simp only; rw [Q1.out, Q2.out]; rfl)
      go_wp2_with fail
      go_ret
      exact ⟨ret_bool HF.out.symm, B2.out⟩
    · have y0 : w2.cell? ⟨w.heap.size, 2, none⟩ = some (.slice hA hs.length hc) := X02.out.cell 2 _ rfl
      have y1 : w2.cell? ⟨w.heap.size + 1, 0, none⟩ = some (.int .i64 0) := X12.out.cell 0 _ rfl
      have y2 : w2.cell? ⟨w.heap.size + 1, 1, none⟩ = some (.int .i64 1000) := X12.out.cell 1 _ rfl
      go_wp2_with fail
      refine (limited_int hA hs hc B 0 1000 (-1000000000) 1000000000 _ (H.out.h.below B2.out hB) (by have := B2.out.size; omega) n3).mono ?_
      rintro e w3 ⟨rfl, hb⟩
      obtain ⟨b, hq⟩ : ∃ b, limI 0 1000 (-1000000000) 1000000000 hs = b := ⟨_, rfl⟩
      rw [hq]
      have Q3 := Lib.hid hq
      have B3 := Lib.hid (B2.out.trans (hb.mono B2.out.size))
      have X03 := Lib.hid (X02.out.below hb X02.out.lt)
      have X13 := Lib.hid (X12.out.below hb X12.out.lt)
      have X23 := Lib.hid (X22.out.below hb X22.out.lt)
      have X33 := Lib.hid (X32.out.below hb X32.out.lt)
      clear hb hq B2 X02 X12 X22 X32 y0 y1 y2
      cases b
      · have HF := Lib.hid (show rightA (⟨iA, vs, ic, cA, cs, cc, hA, hs, hc, fA, fs, fc, lA, ls, lc, ep⟩ : Wd) = false by unfold rightA; simp only; rw [Q1.out, Q2.out, Q3.out]; rfl)
        go_wp2_with fail
        go_ret
        exact ⟨ret_bool HF.out.symm, B3.out⟩
      · have y0 : w3.cell? ⟨w.heap.size, 3, none⟩ = some (.slice fA fs.length fc) := X03.out.cell 3 _ rfl
        have y1 : w3.cell? ⟨w.heap.size + 1 + 1, 0, none⟩ = some (.int .i64 1) := X23.out.cell 0 _ rfl
        have y2 : w3.cell? ⟨w.heap.size + 1 + 1, 1, none⟩ = some (.int .i64 4) := X23.out.cell 1 _ rfl
        go_wp2_with fail
        refine (limited_int fA fs fc B 1 4 0 1000000000000000 _ (H.out.f.below B3.out hB) (by have := B3.out.size; omega) n4).mono ?_
        rintro e w4 ⟨rfl, hb⟩
        obtain ⟨b, hq⟩ : ∃ b, limI 1 4 0 1000000000000000 fs = b := ⟨_, rfl⟩
        rw [hq]
        have Q4 := Lib.hid hq
        have B4 := Lib.hid (B3.out.trans (hb.mono B3.out.size))
        have X04 := Lib.hid (X03.out.below hb X03.out.lt)
        have X14 := Lib.hid (X13.out.below hb X13.out.lt)
        have X24 := Lib.hid (X23.out.below hb X23.out.lt)
        have X34 := Lib.hid (X33.out.below hb X33.out.lt)
        clear hb hq B3 X03 X13 X23 X33 y0 y1 y2
        cases b
        · have HF := Lib.hid (show rightA (⟨iA, vs, ic, cA, cs, cc, hA, hs, hc, fA, fs, fc, lA, ls, lc, ep⟩ : Wd) = false by unfold rightA; simp only; rw [Q1.out, Q2.out, Q3.out, Q4.out]; rfl)
          go_wp2_with fail
          go_ret
          exact ⟨ret_bool HF.out.symm, B4.out⟩
        · have y0 : w4.cell? ⟨w.heap.size, 4, none⟩ = some (.slice lA ls.length lc) := X04.out.cell 4 _ rfl
          have y1 : w4.cell? ⟨w.heap.size + 1 + 1 + 1, 0, none⟩ = some (.int .i64 fs.length) := X34.out.cell 0 _ rfl
          have y2 : w4.cell? ⟨w.heap.size + 1 + 1 + 1, 1, none⟩ = some (.int .i64 fs.length) := X34.out.cell 1 _ rfl
          go_wp2_with fail
          refine (limited_int lA ls lc B fs.length fs.length 0 30000 _ (H.out.l.below B4.out hB) (by have := B4.out.size; omega) n5).mono ?_
          rintro e w5 ⟨rfl, hb⟩
          obtain ⟨b, hq⟩ : ∃ b, limI fs.length fs.length 0 30000 ls = b := ⟨_, rfl⟩
          rw [hq]
          have Q5 := Lib.hid hq
          have B5 := Lib.hid (B4.out.trans (hb.mono B4.out.size))
          have X05 := Lib.hid (X04.out.below hb X04.out.lt)
          have X15 := Lib.hid (X14.out.below hb X14.out.lt)
          have X25 := Lib.hid (X24.out.below hb X24.out.lt)
          have X35 := Lib.hid (X34.out.below hb X34.out.lt)
          clear hb hq B4 X04 X14 X24 X34 y0 y1 y2
          cases b
          · have HF := Lib.hid (show rightA (⟨iA, vs, ic, cA, cs, cc, hA, hs, hc, fA, fs, fc, lA, ls, lc, ep⟩ : Wd) = false by unfold rightA; simp only; rw [Q1.out, Q2.out, Q3.out, Q4.out, Q5.out]; rfl)
            go_wp2_with fail
            go_ret
            exact ⟨ret_bool HF.out.symm, B5.out⟩
          · have y0 : w5.cell? ⟨w.heap.size, 5, none⟩ = some (.int .i64 ep) := X05.out.cell 5 _ rfl
            go_wp2_with fail
            refine (permit_any 0 1000000000 ep _).mono ?_
            rintro e w6 ⟨rfl, hb⟩
            obtain ⟨b, hq⟩ : ∃ b, inI 0 1000000000 ep = b := ⟨_, rfl⟩
            rw [hq]
            have Q6 := Lib.hid hq
            have B6 := Lib.hid (B5.out.trans (hb.mono B5.out.size))
            have X06 := Lib.hid (X05.out.below hb X05.out.lt)
            have X16 := Lib.hid (X15.out.below hb X15.out.lt)
            have X26 := Lib.hid (X25.out.below hb X25.out.lt)
            have X36 := Lib.hid (X35.out.below hb X35.out.lt)
            clear hb hq B5 X05 X15 X25 X35 y0
            have HF := Lib.hid (show rightA (⟨iA, vs, ic, cA, cs, cc, hA, hs, hc, fA, fs, fc, lA, ls, lc, ep⟩ : Wd) = b by unfold rightA; simp only; rw [Q1.out, Q2.out, Q3.out, Q4.out, Q5.out, Q6.out]; rfl)
            go_wp2_with fail
            go_ret
            exact ⟨ret_bool HF.out.symm, B6.out⟩
end Go.Proofs.YtbpehdpcnnaidaaDoor.Ac
