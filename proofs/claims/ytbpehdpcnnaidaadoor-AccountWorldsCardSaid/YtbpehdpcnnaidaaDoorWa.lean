/-
  account.Right: limits of worlds.
-/
import Derived.Test.YtbpehdpcnnaidaaDoorWo
import Derived.Test.YtbpehdpcnnaidaaDoorVb
namespace Go.Proofs.YtbpehdpcnnaidaaDoor.Ac
open Go Go.RowKit Va

theorem bnds_below {w w' : World} {B : Nat} (h : Bnds w) (hb : Below B w w') (hB : 0 < B) : Bnds w' := fun i hi => by rw [hb.cell (p := ⟨_, i, none⟩) hB]; exact h i hi
theorem bnds_next {w w' : World} (h : Bnds w) (hb : Below w.heap.size w w') : Bnds w' := bnds_below h hb h.size
def inI (lo hi n : Int) : Bool := decide (lo ≤ n ∧ n ≤ hi)
theorem permit_any (lo hi n : Int) (w : World) :
    Calls Tryd.prog 22 #[.agg #[.int .i64 lo, .int .i64 hi], .int .i64 n] w fun e w' => e = .returned (.bool (inI lo hi n)) ∧ Below w.heap.size w w' := by
  have BX := Lib.hid ((Below.refl w.heap.size w).alloc (Nat.le_refl _) (.cells #[.int .i64 lo, .int .i64 hi] 57))
  by_cases h1 : lo ≤ n
  · have HN := Lib.hid (show inI lo hi n = decide (n ≤ hi) by unfold inI; rw [decide_eq_decide]; omega)
    go_enter Tryd.func22, Tryd.ntmps22
    go_wp2_with fail
    go_ret
    exact ⟨ret_bool HN.out.symm, BX.out⟩
  · have HN := Lib.hid (show inI lo hi n = false by unfold inI; rw [decide_eq_false_iff_not]; omega)
    go_enter Tryd.func22, Tryd.ntmps22
    go_wp2_with fail
    go_ret
    exact ⟨ret_bool HN.out.symm, BX.out⟩
theorem isInput_any (k n : Int) (s : ByteArray) (w : World) (hm : s.size ≤ maxLen) (hB : Bnds w) :
    Calls Tryd.prog 20 #[.agg #[.int .i64 k, .int .i64 n, .string s]] w fun e w' => e = .returned (.bool (valB (k, n, s))) ∧ Below w.heap.size w w' := by
  have BX := Lib.hid ((Below.refl w.heap.size w).alloc (Nat.le_refl _) (.cells #[.int .i64 k, .int .i64 n, .string s] 52))
  have HB := Lib.hid (bnds_next hB BX.out)
  have HM := Lib.hid hm
  clear hB hm
  by_cases h : 1 ≤ k ∧ k ≤ 4
  · have HN := Lib.hid (show valB (k, n, s) = rightB k n s by unfold valB right3; simp only; rw [decide_eq_true h, Bool.and_true])
    rcases (show k = 1 ∨ k = 2 ∨ k = 3 ∨ k = 4 by omega) with rfl | rfl | rfl | rfl
    all_goals
      go_enter Tryd.func20, Tryd.ntmps20
      go_wp2_with fail
      refine (right_any _ n s _ HM.out HB.out).mono ?_
      rintro e w' ⟨rfl, hb⟩
      have HBB := Lib.hid (BX.out.trans (hb.mono BX.out.size))
      clear hb
      go_wp2_with fail
      go_ret
      exact ⟨ret_bool HN.out.symm, HBB.out⟩
  · have HN := Lib.hid (show valB (k, n, s) = false by unfold valB; simp only; rw [decide_eq_false h, Bool.and_false])
    have e1 : (k == 1) = false := by rw [beq_eq_false_iff_ne]; omega
    have e2 : (k == 2) = false := by rw [beq_eq_false_iff_ne]; omega
    have e3 : (k == 3) = false := by rw [beq_eq_false_iff_ne]; omega
    have e4 : (k == 4) = false := by rw [beq_eq_false_iff_ne]; omega
    clear h
    go_enter Tryd.func20, Tryd.ntmps20
    go_wp2_with fail
    go_ret
    exact ⟨ret_bool HN.out.symm, BX.out⟩
def limI (nlo nhi lo hi : Int) (zs : List Int) : Bool := inI nlo nhi zs.length && zs.all (inI lo hi)
theorem all_nextI (p : Int → Bool) (zs : List Int) (k : Nat) (h : k < zs.length) : (zs.drop k).all p = (p zs[k] && (zs.drop (k + 1)).all p) := by
  rw [List.drop_eq_getElem_cons h, List.all_cons]
set_option maxHeartbeats 1000000 in
theorem limited_int (A : Option Addr) (zs : List Int) (c B : Nat) (nlo nhi lo hi : Int) (w : World) (h : Sl w B A zs) (hB : B ≤ w.heap.size) (hl : zs.length ≤ 100000) :
    Calls Tryd.prog 21 #[.slice A zs.length c, .agg #[.int .i64 nlo, .int .i64 nhi], .func (.func 22) #[.agg #[.int .i64 lo, .int .i64 hi]] #[]] w fun e w' => e = .returned (.bool (limI nlo nhi lo hi zs)) ∧ Below w.heap.size w w' := by
  have BX := Lib.hid ((Below.refl w.heap.size w).alloc (Nat.le_refl _) (.cells #[.int .i64 nlo, .int .i64 nhi] 57))
  have H := Lib.hid h
  clear h
  obtain ⟨b, hb⟩ : ∃ b, inI nlo nhi zs.length = b := ⟨_, rfl⟩
  cases b
  · have HN := Lib.hid (show limI nlo nhi lo hi zs = false by unfold limI; rw [hb]; rfl)
    go_enter Tryd.func21, Tryd.ntmps21
    go_wp2_with fail
    refine (permit_any nlo nhi _ _).mono ?_
    rintro e w1 ⟨rfl, hb1⟩
    rw [hb]
    have B1 := Lib.hid (BX.out.trans (hb1.mono BX.out.size))
    clear hb1 hb
    go_wp2_with fail
    go_ret
    exact ⟨ret_bool HN.out.symm, B1.out⟩
  · have HN := Lib.hid (show limI nlo nhi lo hi zs = zs.all (inI lo hi) by unfold limI; rw [hb]; rfl)
    go_enter Tryd.func21, Tryd.ntmps21
    go_wp2_with fail
    refine (permit_any nlo nhi _ _).mono ?_
    rintro e w1 ⟨rfl, hb1⟩
    rw [hb]
    have B1 := Lib.hid (BX.out.trans (hb1.mono BX.out.size))
    clear hb1 hb BX
    go_wp2_with fail
    go_loopw [16] (fun i wr => ∃ k : Nat, k ≤ zs.length ∧ i = .int .i64 k ∧ Hid (zs.all (inI lo hi) = (zs.drop k).all (inI lo hi)) ∧ Hid (Below w.heap.size w wr)) (fun i _ => zs.length - (intOf i).toNat)
    case atStart => exact ⟨0, by omega, rfl, Lib.hid rfl, B1⟩
    case round =>
      clear B1
      obtain ⟨k, hk, rfl, hr, hw⟩ := hrel
      by_cases hlt : k < zs.length
      · obtain ⟨ad, rfl, _, hc⟩ := (H.out.below hw.out hB).get k hlt
        have hlt' : (k : Int) < zs.length := by omega
        have hst := all_nextI (inI lo hi) zs k hlt
        generalize zs[k] = z at *
        obtain ⟨b, hb⟩ : ∃ b, inI lo hi z = b := ⟨_, rfl⟩
        rw [hb] at hst
        cases b
        · have HF := Lib.hid (show limI nlo nhi lo hi zs = false by rw [HN.out, hr.out, hst]; rfl)
          clear hst
          go_wp2_with fail
          refine (permit_any lo hi z _).mono ?_
          rintro e w2 ⟨rfl, hb2⟩
          rw [hb]
          have B2 := Lib.hid (hw.out.trans (hb2.mono hw.out.size))
          clear hb2 hb hc
          go_wp2_with fail
          go_ret
          exact ⟨ret_bool HF.out.symm, B2.out⟩
        · have HF := Lib.hid (show zs.all (inI lo hi) = (zs.drop (k + 1)).all (inI lo hi) by rw [hr.out, hst]; rfl)
          clear hst
          go_wp2_with fail
          refine (permit_any lo hi z _).mono ?_
          rintro e w2 ⟨rfl, hb2⟩
          rw [hb]
          have B2 := Lib.hid (hw.out.trans (hb2.mono hw.out.size))
          clear hb2 hb hc
          go_wp2_with fail
          go_roundw
          case rel => exact ⟨k + 1, by omega, by go_num, HF, B2⟩
          case measure => simp [intOf]; omega
      · have hge : (zs.length : Int) ≤ k := by omega
        have HF := Lib.hid (show limI nlo nhi lo hi zs = true by rw [HN.out, hr.out, List.drop_of_length_le (by omega)]; rfl)
        go_wp2_with fail
        go_ret
        exact ⟨ret_bool HF.out.symm, hw.out⟩
def limV (nlo nhi : Int) (vs : List V3) : Bool := inI nlo nhi vs.length && vs.all valB
set_option maxHeartbeats 1000000 in
theorem limited_val (A : Option Addr) (vs : List V3) (c B : Nat) (nlo nhi : Int) (w : World) (h : Sv w B A vs) (hB : B ≤ w.heap.size) (hl : vs.length ≤ 100000) (hbn : Bnds w) :
    Calls Tryd.prog 19 #[.slice A vs.length c, .agg #[.int .i64 nlo, .int .i64 nhi], .func (.func 20) #[] #[]] w fun e w' => e = .returned (.bool (limV nlo nhi vs)) ∧ Below w.heap.size w w' := by
  have BX := Lib.hid ((Below.refl w.heap.size w).alloc (Nat.le_refl _) (.cells #[.int .i64 nlo, .int .i64 nhi] 57))
  have H := Lib.hid h
  have HBN := Lib.hid hbn
  clear h hbn
  obtain ⟨b, hb⟩ : ∃ b, inI nlo nhi vs.length = b := ⟨_, rfl⟩
  cases b
  · have HN := Lib.hid (show limV nlo nhi vs = false by unfold limV; rw [hb]; rfl)
    go_enter Tryd.func19, Tryd.ntmps19
    go_wp2_with fail
    refine (permit_any nlo nhi _ _).mono ?_
    rintro e w1 ⟨rfl, hb1⟩
    rw [hb]
    have B1 := Lib.hid (BX.out.trans (hb1.mono BX.out.size))
    clear hb1 hb
    go_wp2_with fail
    go_ret
    exact ⟨ret_bool HN.out.symm, B1.out⟩
  · have HN := Lib.hid (show limV nlo nhi vs = vs.all valB by unfold limV; rw [hb]; rfl)
    go_enter Tryd.func19, Tryd.ntmps19
    go_wp2_with fail
    refine (permit_any nlo nhi _ _).mono ?_
    rintro e w1 ⟨rfl, hb1⟩
    rw [hb]
    have B1 := Lib.hid (BX.out.trans (hb1.mono BX.out.size))
    clear hb1 hb BX
    go_wp2_with fail
    go_loopw [16] (fun i wr => ∃ k : Nat, k ≤ vs.length ∧ i = .int .i64 k ∧ Hid (vs.all valB = (vs.drop k).all valB) ∧ Hid (Below w.heap.size w wr)) (fun i _ => vs.length - (intOf i).toNat)
    case atStart => exact ⟨0, by omega, rfl, Lib.hid rfl, B1⟩
    case round =>
      clear B1
      obtain ⟨k, hk, rfl, hr, hw⟩ := hrel
      by_cases hlt : k < vs.length
      · obtain ⟨hsz, g, rfl, _, y0, y1, y2⟩ := (H.out.below hw.out hB) k _ (List.getElem?_eq_getElem hlt)
        have hlt' : (k : Int) < vs.length := by omega
        have hst := all_next vs k hlt
        generalize vs[k] = v at *
        obtain ⟨kd, x, s⟩ := v
        simp only at hsz y0 y1 y2
        have HSZ := Lib.hid (show s.size ≤ maxLen by unfold maxLen; omega)
        have BY := Lib.hid ((Below.refl wr.heap.size wr).alloc (Nat.le_refl _) (.cells #[.int .i64 kd, .int .i64 x, .string s] 52))
        have BW := Lib.hid (hw.out.trans (BY.out.mono hw.out.size))
        have HB2 := Lib.hid (bnds_below HBN.out BW.out HBN.out.size)
        obtain ⟨b, hb⟩ : ∃ b, valB (kd, x, s) = b := ⟨_, rfl⟩
        rw [hb] at hst
        cases b
        · have HF := Lib.hid (show limV nlo nhi vs = false by rw [HN.out, hr.out, hst]; rfl)
          clear hst
          go_wp2_with fail
          refine (isInput_any kd x s _ HSZ.out HB2.out).mono ?_
          rintro e w2 ⟨rfl, hb2⟩
          rw [hb]
          have B2 := Lib.hid (BW.out.trans (hb2.mono BW.out.size))
          clear hb2 hb y0 y1 y2
          go_wp2_with fail
          go_ret
          exact ⟨ret_bool HF.out.symm, B2.out⟩
        · have HF := Lib.hid (show vs.all valB = (vs.drop (k + 1)).all valB by rw [hr.out, hst]; rfl)
          clear hst
          go_wp2_with fail
          refine (isInput_any kd x s _ HSZ.out HB2.out).mono ?_
          rintro e w2 ⟨rfl, hb2⟩
          rw [hb]
          have B2 := Lib.hid (BW.out.trans (hb2.mono BW.out.size))
          clear hb2 hb y0 y1 y2
          go_wp2_with fail
          go_roundw
          case rel => exact ⟨k + 1, by omega, by go_num, HF, B2⟩
          case measure => simp [intOf]; omega
      · have hge : (vs.length : Int) ≤ k := by omega
        have HF := Lib.hid (show limV nlo nhi vs = true by rw [HN.out, hr.out, List.drop_of_length_le (by omega)]; rfl)
        go_wp2_with fail
        go_ret
        exact ⟨ret_bool HF.out.symm, hw.out⟩
end Go.Proofs.YtbpehdpcnnaidaaDoor.Ac
