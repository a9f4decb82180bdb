/-
  The walk of AccountTwice.
-/
import Derived.Test.YtbpehdpcnnaidaaAf
namespace Go.Proofs.Ytbpehdpcnnaidaa.Ac
open Go Go.RowKit

theorem okB_true {zs : List Int} {k m : Int} (h : okB zs k m = true) : 0 ≤ m ∧ 0 ≤ k ∧ k < zs.length ∧ m ≤ zs.getD k.toNat 0 := by unfold okB at h; rwa [decide_eq_true_eq] at h
theorem after_ok {zs : List Int} {k m : Int} (h : okB zs k m = true) : afterL zs k m = zs.set k.toNat (zs.getD k.toNat 0 - m) := by unfold afterL; rw [if_pos h]
theorem after_no {zs : List Int} {k m : Int} (h : okB zs k m = false) : afterL zs k m = [] := by unfold afterL; rw [if_neg (by rw [h]; decide)]
theorem after_len {zs : List Int} {k m : Int} : (afterL zs k m).length ≤ zs.length := by unfold afterL; split <;> simp
theorem after_i64 {zs : List Int} {k m : Int} (h : ∀ z ∈ zs, I64 z) : ∀ z ∈ afterL zs k m, I64 z := by
  intro z hz
  cases hb : okB zs k m
  · rw [after_no hb] at hz; cases hz
  · obtain ⟨h1, h2, h3, h4⟩ := okB_true hb
    rw [after_ok hb] at hz
    rcases List.mem_or_eq_of_mem_set hz with hz | rfl
    · exact h z hz
    · have hk : k.toNat < zs.length := by omega
      rw [map_getD _ _ hk] at h4 ⊢
      have := h _ (List.getElem_mem hk)
      unfold I64 at *
      omega
theorem twice {zs : List Int} {k m n : Int} (h : okB zs k m = true) (hn : 0 ≤ n) :
    okB (afterL zs k m) k n = okB zs k (m + n) ∧ afterL (afterL zs k m) k n = afterL zs k (m + n) := by
  obtain ⟨h1, h2, h3, h4⟩ := okB_true h
  have hk : k.toNat < zs.length := by omega
  have e : okB (afterL zs k m) k n = okB zs k (m + n) := by
    rw [after_ok h]
    unfold okB
    rw [decide_eq_decide, List.length_set, map_getD _ _ (by rw [List.length_set]; exact hk), map_getD _ _ hk, List.getElem_set_self]
    omega
  refine ⟨e, ?_⟩
  cases hb : okB zs k (m + n)
  · rw [after_no hb, after_no (e.trans hb)]
  · rw [after_ok hb, after_ok (e.trans hb), after_ok h, List.set_set]
    rw [map_getD _ _ (by rw [List.length_set]; exact hk), map_getD _ _ hk, List.getElem_set_self, Int.sub_sub]
theorem not_ok {zs : List Int} {k m n : Int} (h : okB zs k m = false) (hm : 0 ≤ m) (hn : 0 ≤ n) (hk : 0 ≤ k) (hk' : k < zs.length) : okB zs k (m + n) = false := by
  unfold okB at *
  rw [decide_eq_false_iff_not] at *
  omega
theorem ok_nil {k m : Int} : okB [] k m = false := by unfold okB; rw [decide_eq_false_iff_not]; simp; omega
set_option maxRecDepth 5000 in
set_option maxHeartbeats 8000000 in
theorem twice_walk (A : Option Addr) (zs : List Int) (c : Nat) (k m n : Int) (hk : 0 ≤ k ∧ k ≤ 255) (hm : 0 ≤ m ∧ m ≤ 4294967295) (hn : 0 ≤ n ∧ n ≤ 4294967295) (w : World) (hA : Sl w w.heap.size A zs) (hc : zs.length ≤ c) (hl : zs.length ≤ 17592186044404) (hz : ∀ z ∈ zs, I64 z) :
    Calls Try.prog 4 #[.slice A zs.length c, .int .u8 k, .agg #[.int .u32 m, .int .u32 n]] w fun e w' => e = .returned (.bool true) ∧ Below w.heap.size w w' := by
  obtain ⟨hk1, hk2⟩ := hk
  obtain ⟨hm1, hm2⟩ := hm
  obtain ⟨hn1, hn2⟩ := hn
  have HA := Lib.hid hA
  have HZ := Lib.hid hz
  clear hA hz
  rcases Nat.eq_zero_or_pos zs.length with h0 | h0
  · have e0 : zs = [] := List.eq_nil_of_length_eq_zero h0
    subst e0
    go_enter Try.func4, Try.ntmps4
    go_wp2_with fail
    refine (sanity_any _).mono ?_
    rintro e w1 ⟨rfl, hb⟩
    have B1 := Lib.hid (below_alloc (Below.refl _ w) (Nat.le_refl _) _ hb)
    clear hb
    simp only [List.length_nil] at *
    go_wp2_with fail
    go_ret
    exact ⟨rfl, B1.out⟩
  · obtain ⟨ys, L, hL, hys, hLL⟩ : ∃ (ys : List Int) (L : Nat), ys.length = L ∧ ys = zs.take 6 ∧ ((zs.length ≤ 6 ∧ L = zs.length) ∨ (6 < zs.length ∧ L = 6)) := by
      refine ⟨zs.take 6, _, rfl, rfl, ?_⟩
      rw [List.length_take]
      omega
    have HY := Lib.hid (show Sl w w.heap.size A ys by rw [hys]; exact HA.out.take 6)
    have HZY := Lib.hid (show ∀ z ∈ ys, I64 z by rw [hys]; exact fun z h => HZ.out z (List.mem_of_mem_take h))
    clear hys HZ HA
    rcases hLL with ⟨h6, rfl⟩ | ⟨h6, rfl⟩
    · go_enter Try.func4, Try.ntmps4
      go_wp2_with fail
      refine (sanity_any _).mono ?_
      rintro e w1 ⟨rfl, hb⟩
      have BX := Lib.hid hb
      have B1 := Lib.hid (below_alloc (Below.refl _ w) (Nat.le_refl _) _ hb)
      obtain ⟨k0, k1⟩ := box2 _ _ _ _ hb
      have Y1 := Lib.hid (HY.out.below B1.out (Nat.le_refl _))
      have HL := Lib.hid hL
      clear hb hL HY
      go_wp2_with fail
      have b1 : 0 ≤ k % (zs.length : Int) := Int.emod_nonneg _ (by omega)
      have b2 : k % (zs.length : Int) < zs.length := Int.emod_lt_of_pos _ (by omega)
      generalize k % (zs.length : Int) = t at *
      cases ho : okB ys t m
      · have hN := not_ok ho hm1 hn1 b1 (by rw [HL.out]; omega)
        have AN := Lib.hid (after_no hN)
        have AO := Lib.hid (after_no ho)
        have HO := Lib.hid ho
        have HN := Lib.hid hN
        clear ho hN
        go_wp2_with fail
        refine (spend_lit A ys _ _ w.heap.size _ _ _ HL.out Y1.out B1.out.size (by rw [HL.out]; omega) ⟨by omega, by omega⟩ ⟨by omega, by omega⟩ HZY.out false [] HO.out AO.out).mono ?_
        rintro e w2 ⟨D1, d1, rfl, h1⟩
        have BX2 := Lib.hid (BX.out.trans (h1.out.2.2.mono BX.out.size))
        have B2 := Lib.hid (B1.out.trans (h1.out.2.2.mono B1.out.size))
        have Y2 := Lib.hid (Y1.out.below h1.out.2.2 B1.out.size)
        have S2 := Lib.hid h1.out.2.1
        clear h1 k0 k1 BX Y1 B1
        obtain ⟨k0, k1⟩ := box2 _ _ _ _ BX2.out
        go_wp2_with fail
        refine (spend_lit D1 [] _ _ w2.heap.size _ _ _ rfl S2.out (Nat.le_refl _) (by simp) ⟨by omega, by omega⟩ ⟨by omega, by omega⟩ (by simp) false [] ok_nil (after_no ok_nil)).mono ?_
        rintro e w3 ⟨D2, d2, rfl, h2⟩
        have BX3 := Lib.hid (BX2.out.trans (h2.out.2.2.mono BX2.out.size))
        have B3 := Lib.hid (B2.out.trans (h2.out.2.2.mono B2.out.size))
        have Y3 := Lib.hid (Y2.out.below h2.out.2.2 B2.out.size)
        clear h2 k0 k1 BX2 Y2 S2
        obtain ⟨k0, k1⟩ := box2 _ _ _ _ BX3.out
        go_wp2_with fail
        refine (spend_lit A ys _ _ w.heap.size _ _ _ HL.out Y3.out B3.out.size (by rw [HL.out]; omega) ⟨by omega, by omega⟩ ⟨by omega, by omega⟩ HZY.out false [] HN.out AN.out).mono ?_
        rintro e w4 ⟨D4, d4, rfl, h4⟩
        have B4 := Lib.hid (B3.out.trans (h4.out.2.2.mono B3.out.size))
        clear h4 k0 k1
        simp only [List.length_nil] at *
        go_wp2_with fail
        go_ret
        exact ⟨rfl, B4.out⟩
      · obtain ⟨t1, t2⟩ := twice ho hn1
        have T1 := Lib.hid t1
        have T2 := Lib.hid t2
        have hlen : (afterL ys t m).length ≤ 17592186044404 := Nat.le_trans after_len (by rw [HL.out]; omega)
        have hlen3 : (afterL ys t (m + n)).length ≤ 17592186044404 := Nat.le_trans after_len (by rw [HL.out]; omega)
        have ZA := Lib.hid (after_i64 (k := t) (m := m) HZY.out)
        have HO := Lib.hid ho
        clear ho t1 t2
        obtain ⟨ya, hya⟩ : ∃ ya, afterL ys t m = ya := ⟨_, rfl⟩
        obtain ⟨yb, hyb⟩ : ∃ yb, afterL ys t (m + n) = yb := ⟨_, rfl⟩
        rw [hya] at T1 T2 ZA hlen
        rw [hyb] at T2 hlen3
        have HYA := Lib.hid hya
        have HYB := Lib.hid hyb
        clear hya hyb
        go_wp2_with fail
        refine (spend_lit A ys _ _ w.heap.size _ _ _ HL.out Y1.out B1.out.size (by rw [HL.out]; omega) ⟨by omega, by omega⟩ ⟨by omega, by omega⟩ HZY.out true ya HO.out HYA.out).mono ?_
        rintro e w2 ⟨D1, d1, rfl, h1⟩
        have BX2 := Lib.hid (BX.out.trans (h1.out.2.2.mono BX.out.size))
        have B2 := Lib.hid (B1.out.trans (h1.out.2.2.mono B1.out.size))
        have Y2 := Lib.hid (Y1.out.below h1.out.2.2 B1.out.size)
        have S2 := Lib.hid h1.out.2.1
        clear h1 k0 k1 BX Y1 B1
        obtain ⟨k0, k1⟩ := box2 _ _ _ _ BX2.out
        cases hbo : okB ys t (m + n)
        all_goals
          have HBO := Lib.hid hbo
          clear hbo
          go_wp2_with fail
          refine (spend_lit D1 ya _ _ w2.heap.size _ _ _ rfl S2.out (Nat.le_refl _) hlen ⟨by omega, by omega⟩ ⟨by omega, by omega⟩ ZA.out _ yb (T1.out.trans HBO.out) T2.out).mono ?_
          rintro e w3 ⟨D2, d2, rfl, h2⟩
          have BX3 := Lib.hid (BX2.out.trans (h2.out.2.2.mono BX2.out.size))
          have B3 := Lib.hid (B2.out.trans (h2.out.2.2.mono B2.out.size))
          have Y3 := Lib.hid (Y2.out.below h2.out.2.2 B2.out.size)
          have S3 := Lib.hid h2.out.2.1
          clear h2 k0 k1 BX2 Y2 S2
          obtain ⟨k0, k1⟩ := box2 _ _ _ _ BX3.out
          go_wp2_with fail
          refine (spend_lit A ys _ _ w.heap.size _ _ _ HL.out Y3.out B3.out.size (by rw [HL.out]; omega) ⟨by omega, by omega⟩ ⟨by omega, by omega⟩ HZY.out _ yb HBO.out HYB.out).mono ?_
          rintro e w4 ⟨D4, d4, rfl, h4⟩
          have B4 := Lib.hid (B3.out.trans (h4.out.2.2.mono B3.out.size))
          have S4 := Lib.hid ((S3.out.below h4.out.2.2 (Nat.le_refl _)).up h4.out.2.2.size)
          have S5 := Lib.hid h4.out.2.1
          clear h4 k0 k1
          go_wp2_with fail
          refine (equal_lit D2 D4 yb yb _ _ _ _ w4.heap.size _ rfl rfl S4.out S5.out hlen3 hlen3 true (by simp)).mono ?_
          rintro e w' ⟨rfl, n5, rfl⟩
          go_wp2_with fail
          go_ret
          exact ⟨rfl, below_drewN B4.out n5⟩
    · go_enter Try.func4, Try.ntmps4
      go_wp2_with fail
      refine (sanity_any _).mono ?_
      rintro e w1 ⟨rfl, hb⟩
      have BX := Lib.hid hb
      have B1 := Lib.hid (below_alloc (Below.refl _ w) (Nat.le_refl _) _ hb)
      obtain ⟨k0, k1⟩ := box2 _ _ _ _ hb
      have Y1 := Lib.hid (HY.out.below B1.out (Nat.le_refl _))
      have HL := Lib.hid hL
      clear hb hL HY
      go_wp2_with fail
      have b1 : 0 ≤ k % (6 : Int) := Int.emod_nonneg _ (by omega)
      have b2 : k % (6 : Int) < 6 := Int.emod_lt_of_pos _ (by omega)
      generalize k % (6 : Int) = t at *
      cases ho : okB ys t m
      · have hN := not_ok ho hm1 hn1 b1 (by rw [HL.out]; omega)
        have AN := Lib.hid (after_no hN)
        have AO := Lib.hid (after_no ho)
        have HO := Lib.hid ho
        have HN := Lib.hid hN
        clear ho hN
        go_wp2_with fail
        refine (spend_lit A ys _ _ w.heap.size _ _ _ HL.out Y1.out B1.out.size (by rw [HL.out]; omega) ⟨by omega, by omega⟩ ⟨by omega, by omega⟩ HZY.out false [] HO.out AO.out).mono ?_
        rintro e w2 ⟨D1, d1, rfl, h1⟩
        have BX2 := Lib.hid (BX.out.trans (h1.out.2.2.mono BX.out.size))
        have B2 := Lib.hid (B1.out.trans (h1.out.2.2.mono B1.out.size))
        have Y2 := Lib.hid (Y1.out.below h1.out.2.2 B1.out.size)
        have S2 := Lib.hid h1.out.2.1
        clear h1 k0 k1 BX Y1 B1
        obtain ⟨k0, k1⟩ := box2 _ _ _ _ BX2.out
        go_wp2_with fail
        refine (spend_lit D1 [] _ _ w2.heap.size _ _ _ rfl S2.out (Nat.le_refl _) (by simp) ⟨by omega, by omega⟩ ⟨by omega, by omega⟩ (by simp) false [] ok_nil (after_no ok_nil)).mono ?_
        rintro e w3 ⟨D2, d2, rfl, h2⟩
        have BX3 := Lib.hid (BX2.out.trans (h2.out.2.2.mono BX2.out.size))
        have B3 := Lib.hid (B2.out.trans (h2.out.2.2.mono B2.out.size))
        have Y3 := Lib.hid (Y2.out.below h2.out.2.2 B2.out.size)
        clear h2 k0 k1 BX2 Y2 S2
        obtain ⟨k0, k1⟩ := box2 _ _ _ _ BX3.out
        go_wp2_with fail
        refine (spend_lit A ys _ _ w.heap.size _ _ _ HL.out Y3.out B3.out.size (by rw [HL.out]; omega) ⟨by omega, by omega⟩ ⟨by omega, by omega⟩ HZY.out false [] HN.out AN.out).mono ?_
        rintro e w4 ⟨D4, d4, rfl, h4⟩
        have B4 := Lib.hid (B3.out.trans (h4.out.2.2.mono B3.out.size))
        clear h4 k0 k1
        simp only [List.length_nil] at *
        go_wp2_with fail
        go_ret
        exact ⟨rfl, B4.out⟩
      · obtain ⟨t1, t2⟩ := twice ho hn1
        have T1 := Lib.hid t1
        have T2 := Lib.hid t2
        have hlen : (afterL ys t m).length ≤ 17592186044404 := Nat.le_trans after_len (by rw [HL.out]; omega)
        have hlen3 : (afterL ys t (m + n)).length ≤ 17592186044404 := Nat.le_trans after_len (by rw [HL.out]; omega)
        have ZA := Lib.hid (after_i64 (k := t) (m := m) HZY.out)
        have HO := Lib.hid ho
        clear ho t1 t2
        obtain ⟨ya, hya⟩ : ∃ ya, afterL ys t m = ya := ⟨_, rfl⟩
        obtain ⟨yb, hyb⟩ : ∃ yb, afterL ys t (m + n) = yb := ⟨_, rfl⟩
        rw [hya] at T1 T2 ZA hlen
        rw [hyb] at T2 hlen3
        have HYA := Lib.hid hya
        have HYB := Lib.hid hyb
        clear hya hyb
        go_wp2_with fail
        refine (spend_lit A ys _ _ w.heap.size _ _ _ HL.out Y1.out B1.out.size (by rw [HL.out]; omega) ⟨by omega, by omega⟩ ⟨by omega, by omega⟩ HZY.out true ya HO.out HYA.out).mono ?_
        rintro e w2 ⟨D1, d1, rfl, h1⟩
        have BX2 := Lib.hid (BX.out.trans (h1.out.2.2.mono BX.out.size))
        have B2 := Lib.hid (B1.out.trans (h1.out.2.2.mono B1.out.size))
        have Y2 := Lib.hid (Y1.out.below h1.out.2.2 B1.out.size)
        have S2 := Lib.hid h1.out.2.1
        clear h1 k0 k1 BX Y1 B1
        obtain ⟨k0, k1⟩ := box2 _ _ _ _ BX2.out
        cases hbo : okB ys t (m + n)
        all_goals
          have HBO := Lib.hid hbo
          clear hbo
          go_wp2_with fail
          refine (spend_lit D1 ya _ _ w2.heap.size _ _ _ rfl S2.out (Nat.le_refl _) hlen ⟨by omega, by omega⟩ ⟨by omega, by omega⟩ ZA.out _ yb (T1.out.trans HBO.out) T2.out).mono ?_
          rintro e w3 ⟨D2, d2, rfl, h2⟩
          have BX3 := Lib.hid (BX2.out.trans (h2.out.2.2.mono BX2.out.size))
          have B3 := Lib.hid (B2.out.trans (h2.out.2.2.mono B2.out.size))
          have Y3 := Lib.hid (Y2.out.below h2.out.2.2 B2.out.size)
          have S3 := Lib.hid h2.out.2.1
          clear h2 k0 k1 BX2 Y2 S2
          obtain ⟨k0, k1⟩ := box2 _ _ _ _ BX3.out
          go_wp2_with fail
          refine (spend_lit A ys _ _ w.heap.size _ _ _ HL.out Y3.out B3.out.size (by rw [HL.out]; omega) ⟨by omega, by omega⟩ ⟨by omega, by omega⟩ HZY.out _ yb HBO.out HYB.out).mono ?_
          rintro e w4 ⟨D4, d4, rfl, h4⟩
          have B4 := Lib.hid (B3.out.trans (h4.out.2.2.mono B3.out.size))
          have S4 := Lib.hid ((S3.out.below h4.out.2.2 (Nat.le_refl _)).up h4.out.2.2.size)
          have S5 := Lib.hid h4.out.2.1
          clear h4 k0 k1
          go_wp2_with fail
          refine (equal_lit D2 D4 yb yb _ _ _ _ w4.heap.size _ rfl rfl S4.out S5.out hlen3 hlen3 true (by simp)).mono ?_
          rintro e w' ⟨rfl, n5, rfl⟩
          go_wp2_with fail
          go_ret
          exact ⟨rfl, below_drewN B4.out n5⟩
end Go.Proofs.Ytbpehdpcnnaidaa.Ac
