/-
  Worlds as data; the reference's Right.
-/
import Derived.Test.YtbpehdpcnnaidaaDoorWn
import Derived.Test.YtbpehdpcnnaidaaDoorWr
import Derived.Deep.Draws
namespace Go.Proofs.YtbpehdpcnnaidaaDoor.Ac
open Go Go.RowKit Va

/-- A slice of values that is read. -/
def Sv (w : World) (B : Nat) (A : Option Addr) (vs : List V3) : Prop :=
  ∀ (j : Nat) (v : V3), vs[j]? = some v → v.2.2.size ≤ 1000 ∧ ∃ g, A = some ⟨g, 0, none⟩ ∧ g < B ∧ w.cell? ⟨g, j * 3, none⟩ = some (.int .i64 v.1) ∧ w.cell? ⟨g, j * 3 + 1, none⟩ = some (.int .i64 v.2.1) ∧ w.cell? ⟨g, j * 3 + 2, none⟩ = some (.string v.2.2)
theorem Sv.below {w w' : World} {B C : Nat} {A : Option Addr} {vs : List V3} (h : Sv w B A vs) (hb : Below C w w') (hB : B ≤ C) : Sv w' B A vs := fun j v hv => by
  obtain ⟨h0, g, rfl, hg, h1, h2, h3⟩ := h j v hv
  exact ⟨h0, g, rfl, hg, by rw [hb.cell (show g < C by omega)]; exact h1, by rw [hb.cell (show g < C by omega)]; exact h2, by rw [hb.cell (show g < C by omega)]; exact h3⟩
theorem Sv.up {w : World} {B B' : Nat} {A : Option Addr} {vs : List V3} (h : Sv w B A vs) (hB : B ≤ B') : Sv w B' A vs := fun j v hv => by
  obtain ⟨h0, g, rfl, hg, h1⟩ := h j v hv
  exact ⟨h0, g, rfl, by omega, h1⟩
/-- A world. -/
structure Wd where
  iA : Option Addr
  vs : List V3
  ic : Nat
  cA : Option Addr
  cs : List Int
  cc : Nat
  hA : Option Addr
  hs : List Int
  hc : Nat
  fA : Option Addr
  fs : List Int
  fc : Nat
  lA : Option Addr
  ls : List Int
  lc : Nat
  ep : Int
def Wd.cells (d : Wd) : Array Value := #[.slice d.iA d.vs.length d.ic, .slice d.cA d.cs.length d.cc, .slice d.hA d.hs.length d.hc, .slice d.fA d.fs.length d.fc, .slice d.lA d.ls.length d.lc, .int .i64 d.ep]
structure Wd.Reads (d : Wd) (w : World) (B : Nat) : Prop where
  i : Sv w B d.iA d.vs
  c : Sl w B d.cA d.cs
  h : Sl w B d.hA d.hs
  f : Sl w B d.fA d.fs
  l : Sl w B d.lA d.ls
  n : d.vs.length ≤ 100000 ∧ d.cs.length ≤ 100000 ∧ d.hs.length ≤ 100000 ∧ d.fs.length ≤ 100000 ∧ d.ls.length ≤ 100000
theorem Wd.Reads.below {d : Wd} {w w' : World} {B C : Nat} (h : d.Reads w B) (hb : Below C w w') (hB : B ≤ C) : d.Reads w' B := ⟨h.i.below hb hB, h.c.below hb hB, h.h.below hb hB, h.f.below hb hB, h.l.below hb hB, h.n⟩
theorem Wd.Reads.up {d : Wd} {w : World} {B B' : Nat} (h : d.Reads w B) (hB : B ≤ B') : d.Reads w B' := ⟨h.i.up hB, h.c.up hB, h.h.up hB, h.f.up hB, h.l.up hB, h.n⟩
def valB (v : V3) : Bool := right3 v && decide (1 ≤ v.1 ∧ v.1 ≤ 4)
def rightW (d : Wd) : Bool :=
  d.vs.all valB && (decide ((d.vs.length : Int) ≤ 1000) && (numB d.cs 1000 (-1000000000000000) 1000000000000000 && (numB d.hs 1000 (-1000000000) 1000000000 && (numB d.fs 4 0 1000000000000000 && (numB d.ls 4 0 30000 && (decide (0 ≤ d.ep ∧ d.ep ≤ 1000000000) && (decide (0 < (d.fs.length : Int)) && decide ((d.fs.length : Int) = d.ls.length))))))))
theorem rightW_no {d : Wd} (h : d.vs.all valB = false) : rightW d = false := by unfold rightW; rw [h]; rfl
theorem all_next (vs : List V3) (k : Nat) (h : k < vs.length) : (vs.drop k).all valB = (valB vs[k] && (vs.drop (k + 1)).all valB) := by
  rw [List.drop_eq_getElem_cons h, List.all_cons]
set_option maxRecDepth 10000 in
set_option maxHeartbeats 8000000 in
theorem ref_right (d : Wd) (B : Nat) (w : World) (h : d.Reads w B) (hB : B ≤ w.heap.size) :
    Calls Tryd.prog 8 #[.agg #[.slice d.iA d.vs.length d.ic, .slice d.cA d.cs.length d.cc, .slice d.hA d.hs.length d.hc, .slice d.fA d.fs.length d.fc, .slice d.lA d.ls.length d.lc, .int .i64 d.ep]] w fun e w' => e = .returned (.bool (rightW d)) ∧ Below w.heap.size w w' := by
  obtain ⟨iA, vs, ic, cA, cs, cc, hA, hs, hc, fA, fs, fc, lA, ls, lc, ep⟩ := d
  have H := Lib.hid h
  obtain ⟨n1, n2, n3, n4, n5⟩ := h.n
  clear h
  simp only at n1 n2 n3 n4 n5 ⊢
  have BX := Lib.hid ((Below.refl w.heap.size w).alloc (Nat.le_refl _) (.cells #[.slice iA vs.length ic, .slice cA cs.length cc, .slice hA hs.length hc, .slice fA fs.length fc, .slice lA ls.length lc, .int .i64 ep] 28))
  have X := Lib.hid (Bk.new w #[.slice iA vs.length ic, .slice cA cs.length cc, .slice hA hs.length hc, .slice fA fs.length fc, .slice lA ls.length lc, .int .i64 ep] 28)
  go_enter Tryd.func8, Tryd.ntmps8
  go_wp2_with fail
  generalize w.alloc (.cells #[.slice iA vs.length ic, .slice cA cs.length cc, .slice hA hs.length hc, .slice fA fs.length fc, .slice lA ls.length lc, .int .i64 ep] 28) = w0 at *
  go_loopw [3] (fun i wr => ∃ k : Nat, k ≤ vs.length ∧ i = .int .i64 k ∧ Hid (vs.all valB = (vs.drop k).all valB) ∧ Hid (Bk wr w.heap.size #[.slice iA vs.length ic, .slice cA cs.length cc, .slice hA hs.length hc, .slice fA fs.length fc, .slice lA ls.length lc, .int .i64 ep] 28) ∧ Hid (Below w.heap.size w wr)) (fun i _ => vs.length - (intOf i).toNat)
  case atStart => exact ⟨0, by omega, rfl, Lib.hid rfl, X, BX⟩
  case round =>
    clear X BX
    obtain ⟨k, hk, rfl, hr, X, BX⟩ := hrel
    have x0 := X.out.cell 0 _ rfl
    by_cases hlt : k < vs.length
    · have hlt' : (k : Int) < vs.length := by omega
      obtain ⟨hsz, g, rfl, hg, y0, y1, y2⟩ := (H.out.i.below BX.out hB) k _ (List.getElem?_eq_getElem hlt)
      have hst := all_next vs k hlt
      generalize vs[k] = v at *
      obtain ⟨kd, x, s⟩ := v
      simp only at y0 y1 y2 hsz
      have HST := Lib.hid hst
      clear hst
      cases hq : right3 (kd, x, s)
      · have HV := Lib.hid (show valB (kd, x, s) = false by unfold valB; rw [hq]; rfl)
        have HN := Lib.hid (show rightW ⟨some ⟨g, 0, none⟩, vs, ic, cA, cs, cc, hA, hs, hc, fA, fs, fc, lA, ls, lc, ep⟩ = false from rightW_no (by show vs.all valB = false; rw [hr.out, HST.out, HV.out]; rfl))
        go_wp2_with fail
        refine (refRight_any (kd, x, s) _ (by unfold maxLen; simp only; omega)).mono ?_
        rintro e w2 ⟨rfl, hb⟩
        rw [hq]
        have BN := Lib.hid (BX.out.trans (hb.mono BX.out.size))
        have XN := Lib.hid (X.out.below hb X.out.lt)
        have y0' := (hb.cell (p := ⟨g, k * 3, none⟩) (show g < wr.heap.size by have := BX.out.size; omega)).trans y0
        clear hb x0 y0 y1 y2 hq
        have x0 := XN.out.cell 0 _ rfl
        go_wp2_with fail
        go_ret
        exact ⟨ret_bool HN.out.symm, BN.out⟩
      · by_cases hk : 1 ≤ kd ∧ kd ≤ 4
        · have HV := Lib.hid (show valB (kd, x, s) = true by unfold valB; rw [hq, decide_eq_true (show 1 ≤ ((kd, x, s) : V3).1 ∧ ((kd, x, s) : V3).1 ≤ 4 from hk)]; rfl)
          have HN := Lib.hid (show vs.all valB = (vs.drop (k + 1)).all valB by rw [hr.out, HST.out, HV.out, Bool.true_and])
          obtain ⟨hk1, hk2⟩ := hk
          go_wp2_with fail
          refine (refRight_any (kd, x, s) _ (by unfold maxLen; simp only; omega)).mono ?_
          rintro e w2 ⟨rfl, hb⟩
          rw [hq]
          have BN := Lib.hid (BX.out.trans (hb.mono BX.out.size))
          have XN := Lib.hid (X.out.below hb X.out.lt)
          have y0' := (hb.cell (p := ⟨g, k * 3, none⟩) (show g < wr.heap.size by have := BX.out.size; omega)).trans y0
          clear hb x0 y0 y1 y2 hq
          have x0 := XN.out.cell 0 _ rfl
          go_wp2_with fail
          go_roundw
          case rel => exact ⟨k + 1, by omega, by go_num, HN, XN, BN⟩
          case measure => simp [intOf]; omega
        · have HV := Lib.hid (show valB (kd, x, s) = false by unfold valB; rw [decide_eq_false (show ¬ (1 ≤ ((kd, x, s) : V3).1 ∧ ((kd, x, s) : V3).1 ≤ 4) from hk), Bool.and_false])
          have HN := Lib.hid (show rightW ⟨some ⟨g, 0, none⟩, vs, ic, cA, cs, cc, hA, hs, hc, fA, fs, fc, lA, ls, lc, ep⟩ = false from rightW_no (by show vs.all valB = false; rw [hr.out, HST.out, HV.out]; rfl))
          rcases (show kd < 1 ∨ (1 ≤ kd ∧ 4 < kd) by omega) with hk1 | ⟨hk1, hk2⟩
          all_goals
            clear hk
            go_wp2_with fail
            refine (refRight_any (kd, x, s) _ (by unfold maxLen; simp only; omega)).mono ?_
            rintro e w2 ⟨rfl, hb⟩
            rw [hq]
            have BN := Lib.hid (BX.out.trans (hb.mono BX.out.size))
            have XN := Lib.hid (X.out.below hb X.out.lt)
            have y0' := (hb.cell (p := ⟨g, k * 3, none⟩) (show g < wr.heap.size by have := BX.out.size; omega)).trans y0
            clear hb x0 y0 y1 y2 hq
            have x0 := XN.out.cell 0 _ rfl
            go_wp2_with fail
            go_ret
            exact ⟨ret_bool HN.out.symm, BN.out⟩
    · have x0 := X.out.cell 0 _ rfl
      have x1 := X.out.cell 1 _ rfl
      have x2 := X.out.cell 2 _ rfl
      have x3 := X.out.cell 3 _ rfl
      have x4 := X.out.cell 4 _ rfl
      have x5 := X.out.cell 5 _ rfl
      have hge : (vs.length : Int) ≤ k := by omega
      have HA := Lib.hid (show vs.all valB = true by rw [hr.out, List.drop_of_length_le (by omega)]; rfl)
      go_wp2_with fail
      refine (ref_numbers cA cs cc B 1000 (-1000000000000000) 1000000000000000 _ (H.out.c.below BX.out hB) (by omega)).mono ?_
      rintro e w' ⟨rfl, rfl⟩
      go_wp2_with fail
      refine (ref_numbers hA hs hc B 1000 (-1000000000) 1000000000 _ (H.out.h.below BX.out hB) (by omega)).mono ?_
      rintro e w' ⟨rfl, rfl⟩
      go_wp2_with fail
      refine (ref_numbers fA fs fc B 4 0 1000000000000000 _ (H.out.f.below BX.out hB) (by omega)).mono ?_
      rintro e w' ⟨rfl, rfl⟩
      go_wp2_with fail
      refine (ref_numbers lA ls lc B 4 0 30000 _ (H.out.l.below BX.out hB) (by omega)).mono ?_
      rintro e w' ⟨rfl, rfl⟩
      obtain ⟨b1, hb1⟩ : ∃ b, numB cs 1000 (-1000000000000000) 1000000000000000 = b := ⟨_, rfl⟩
      obtain ⟨b2, hb2⟩ : ∃ b, numB hs 1000 (-1000000000) 1000000000 = b := ⟨_, rfl⟩
      obtain ⟨b3, hb3⟩ : ∃ b, numB fs 4 0 1000000000000000 = b := ⟨_, rfl⟩
      obtain ⟨b4, hb4⟩ : ∃ b, numB ls 4 0 30000 = b := ⟨_, rfl⟩
      rw [hb1, hb2, hb3, hb4]
      have R := Lib.hid (show rightW ⟨iA, vs, ic, cA, cs, cc, hA, hs, hc, fA, fs, fc, lA, ls, lc, ep⟩ = (true && (decide ((vs.length : Int) ≤ 1000) && (b1 && (b2 && (b3 && (b4 && (decide (0 ≤ ep ∧ ep ≤ 1000000000) && (decide (0 < (fs.length : Int)) && decide ((fs.length : Int) = ls.length))))))))) by
        unfold rightW; simp only; rw [HA.out, hb1, hb2, hb3, hb4])
      clear hb1 hb2 hb3 hb4
      clear n1 n2 n3 n4 n5 hk hlt
      go_wp2_with fail
      all_goals
        go_ret
        refine ⟨ret_bool ?_, BX.out⟩
        rw [R.out]
        clear R
        first | (simp [*]; done) | (simp [*]; omega) | (simp [*]; rw [Bool.eq_iff_iff]; simp; done) | (simp [*]; rw [Bool.eq_iff_iff]; simp; omega)
end Go.Proofs.YtbpehdpcnnaidaaDoor.Ac
