/-
  The walk of AccountSums.
-/
import Derived.Test.YtbpehdpcnnaidaaNh
import Derived.Test.YtbpehdpcnnaidaaAf
import Derived.Test.YtbpehdpcnnaidaaAq
import Derived.Test.YtbpehdpcnnaidaaAz
namespace Go.Proofs.Ytbpehdpcnnaidaa.Ac
open Go Go.RowKit

theorem sumsL_len (es : List En) (n : Int) : (sumsL es n).length = if 1 ≤ n ∧ n ≤ 4 then n.toNat else 0 := by
  unfold sumsL; split <;> simp
theorem sumsL_alike {es fs : List En} (h : Alike es fs) (n : Int) : sumsL fs n = sumsL es n := by
  unfold sumsL; split
  · exact List.map_congr_left (fun t _ => h.2.1 t)
  · rfl
theorem sumsL_get (es : List En) (n : Int) (k : Nat) (hk : k < (sumsL es n).length) : (sumsL es n)[k] = sumOf k es := by
  have h := sumsL_len es n
  unfold sumsL at *
  by_cases hn : 1 ≤ n ∧ n ≤ 4
  · simp only [if_pos hn]; simp
  · simp only [if_neg hn] at hk; simp at hk
theorem few_append {es fs : List En} (h1 : es.length ≤ 8) (h2 : fs.length ≤ 8) (m1 : ∀ e, e ∈ es → e.m ≤ 3) (m2 : ∀ e, e ∈ fs → e.m ≤ 3) : Few (es ++ fs) :=
  ⟨by rw [List.length_append]; omega, fun e he => by
    rcases List.mem_append.1 he with h | h
    · have := m1 e h; omega
    · have := m2 e h; omega⟩
theorem made_lit (A : Option Addr) (zs : List Int) (l c B : Nat) (w : World) (hl' : zs.length = l) (hA : Sl w B A zs) (hB : B ≤ w.heap.size) (hz : ∀ z ∈ zs, I64 z) (hl : zs.length ≤ 17592186044404) :
    Calls Try.prog 21 #[.slice A l c] w fun e w' => ∃ (D : Option Addr) (d k : Nat) (es : List En) (nx : Int), e = .returned (.tuple #[.slice D k d, .int .i64 nx]) ∧ Hid (es.length = k ∧ k ≤ 8 ∧ (∀ e, e ∈ es → e.m ≤ 3) ∧ OwnE w' w.heap.size (.slice D k d) es ∧ Below w.heap.size w w') := by
  subst hl'
  refine (made_any A zs c w (hA.up hB) hz hl).mono ?_
  rintro e w' ⟨v, es, nx, rfl, ho, h8, hm, hb⟩
  obtain ⟨D, d, rfl⟩ := own_slice ho
  exact ⟨D, d, es.length, es, nx, rfl, rfl, h8, hm, ho, hb⟩
theorem sums_n (A : Option Addr) (es : List En) (l c B k : Nat) (n : Int) (w : World) (hl : es.length = l) (h : Se w B A es) (hB : B ≤ w.heap.size) (hf : Few es) (hn : I64 n) (hk : (sumsL es n).length = k) :
    Calls Try.prog 24 #[.slice A l c, .int .i64 n] w fun e w' => ∃ D d, e = .returned (.slice D k d) ∧ Hid (Sl w' w'.heap.size D (sumsL es n) ∧ Below w.heap.size w w') := by
  subst hl hk
  refine (sums_any A es c B n w h hB hf hn).mono ?_
  rintro e w' ⟨v, rfl, ho, hb⟩
  obtain ⟨D, d, rfl, hs⟩ := ho.form
  exact ⟨D, d, rfl, hs, hb⟩
theorem ref_sums_n (A : Option Addr) (es : List En) (l c B k : Nat) (n : Int) (w : World) (hl : es.length = l) (h : Se w B A es) (hB : B ≤ w.heap.size) (hf : Few es) (hn : I64 n) (hk : (sumsL es n).length = k) :
    Calls Try.prog 25 #[.slice A l c, .int .i64 n] w fun e w' => ∃ D d, e = .returned (.slice D k d) ∧ Hid (Sl w' w'.heap.size D (sumsL es n) ∧ Below w.heap.size w w') := by
  subst hl hk
  refine (ref_sums A es c B n w h hB hf hn).mono ?_
  rintro e w' ⟨v, rfl, ho, hb⟩
  obtain ⟨D, d, rfl, hs⟩ := ho.form
  exact ⟨D, d, rfl, hs, hb⟩
/-- append of entries, nil or not. -/
theorem wpList_append_E {w : World} {ops : Array Oper} {rest : List Oper} {o : Oper} {a : Act} {Q : Exit → Act → World → Prop} (hgd : o.guard = none) (s x : Operand)
    (ho : o.op = .call { callee := .builtin .append, args := #[s, x], argTypes := #[45, 45] }) (base base' : Nat) (D1 D2 : Option Addr) (n1 n2 d1 d2 : Nat) (es fs : List En) (hs : a.eval s = .slice D1 n1 d1) (hx : a.eval x = .slice D2 n2 d2)
    (h1 : w.ownsRow base 54 7 (.slice D1 n1 d1) n1 (es.flatMap En.cells)) (h2 : w.ownsRow base' 54 7 (.slice D2 n2 d2) n2 (fs.flatMap En.cells)) (hn1 : n1 ≤ 8) (hn2 : n2 ≤ 8) (hb : base ≤ w.heap.size)
    (h : ∀ A' c' w', w'.ownsRow base 54 7 (.slice A' (n1 + n2) c') (n1 + n2) (es.flatMap En.cells ++ fs.flatMap En.cells) → w.grownBy w' (Value.slice D1 n1 d1).ownBlock → wpList Try.prog ops Q rest (a.put o.dst (.slice A' (n1 + n2) c')) w') : wpList Try.prog ops Q (o :: rest) a w := by
  obtain ⟨i0, hi0, hz0, hz1, hz2⟩ := info_parts infoE
  rcases h2.2 with ⟨e, h0⟩ | ⟨g, cap, cur, e, hbg, hh, hnc, _⟩
  · simp only [Value.slice.injEq] at e
    obtain ⟨rfl, rfl, rfl⟩ := e
    have hf : fs.flatMap En.cells = [] := List.eq_nil_of_length_eq_zero (by rw [h2.1])
    refine wpList_append_own_none hgd s x 45 ho base 54 i0 7 Try.underlying45 hi0 _ n1 _ hs h1 hx ?_
    exact h D1 d1 w (by rw [hf, List.append_nil]; exact h1) (World.grownBy.refl w _)
  · simp only [Value.slice.injEq] at e
    obtain ⟨rfl, _, rfl⟩ := e
    refine wpList_append_own w hgd s x 45 ho base 54 i0 _ 7 88 Try.underlying45 hi0 hz0 hz1 hz2 rfl (by decide) _ n1 _ hs h1 ⟨g, 0, none⟩ n2 _ (fs.flatMap En.cells) hx h2.1 (fun j u hj => h2.cells (g := g) rfl j u hj) (onesE fs) (by unfold maxLen; omega) (by omega) hb (fun v' w' k1 k2 _ => ?_)
    obtain ⟨A', c', rfl⟩ := own_slice k1
    exact h A' c' w' k1 k2
theorem se_of {w : World} {base k d : Nat} {D : Option Addr} {es : List En} (hk : es.length = k) (h : w.ownsRow base 54 7 (.slice D k d) k (es.flatMap En.cells)) : Se w w.heap.size D es := by
  subst hk
  obtain ⟨D', d', e, hs⟩ := OwnE.form h
  injection e with e1 e2 e3
  subst e1
  exact hs
theorem box2s (w : World) (x y : Value) (T : TypeId) {w1 : World} (h : Below (w.alloc (.cells #[x, y] T)).heap.size (w.alloc (.cells #[x, y] T)) w1) :
    w1.cell? ⟨w.heap.size, 0, none⟩ = some x ∧ w1.cell? ⟨w.heap.size, 1, none⟩ = some y := box2 w x y T h
set_option maxRecDepth 10000 in
set_option maxHeartbeats 8000000 in
theorem sums_walk (A1 A2 : Option Addr) (z1 z2 : List Int) (c1 c2 : Nat) (n : Int) (hn : I64 n) (w : World) (h1 : Sl w w.heap.size A1 z1) (h2 : Sl w w.heap.size A2 z2) (l1 : z1.length ≤ 17592186044404) (l2 : z2.length ≤ 17592186044404) (i1 : ∀ z ∈ z1, I64 z) (i2 : ∀ z ∈ z2, I64 z) :
    Calls Try.prog 8 #[.agg #[.slice A1 z1.length c1, .slice A2 z2.length c2], .int .i64 n] w fun e w' => e = .returned (.bool true) ∧ Below w.heap.size w w' := by
  have H1 := Lib.hid h1
  have H2 := Lib.hid h2
  have I1 := Lib.hid i1
  have I2 := Lib.hid i2
  have IN := Lib.hid hn
  clear h1 h2 i1 i2 hn
  go_enter Try.func8, Try.ntmps8
  go_wp2_with fail
  refine (sanity_any _).mono ?_
  rintro e w1 ⟨rfl, hb⟩
  have BX := Lib.hid hb
  obtain ⟨k0, k1⟩ := box2 _ _ _ _ hb
  have B1 := Lib.hid (below_alloc (Below.refl _ w) (Nat.le_refl _) _ hb)
  clear hb
  go_wp2_with fail
  refine (made_lit A1 z1 _ _ w.heap.size _ rfl (H1.out.below B1.out (Nat.le_refl _)) B1.out.size I1.out l1).mono ?_
  rintro e w2 ⟨Da, da, ka, ea, xa, rfl, ha⟩
  have BX2 := Lib.hid (BX.out.trans (ha.out.2.2.2.2.mono BX.out.size))
  have B2 := Lib.hid (B1.out.trans (ha.out.2.2.2.2.mono B1.out.size))
  have OA := Lib.hid (show w2.ownsRow w1.heap.size 54 7 (.slice Da ka da) ka (ea.flatMap En.cells) by have h := ha.out.2.2.2.1; unfold OwnE at h; rw [ha.out.1] at h; exact h)
  have FA := Lib.hid (show ea.length = ka ∧ ka ≤ 8 ∧ ∀ e, e ∈ ea → e.m ≤ 3 from ⟨ha.out.1, ha.out.2.1, ha.out.2.2.1⟩)
  clear ha k0 k1 BX
  obtain ⟨k0, k1⟩ := box2 _ _ _ _ BX2.out
  go_wp2_with fail
  refine (made_lit A2 z2 _ _ w.heap.size _ rfl (H2.out.below B2.out (Nat.le_refl _)) B2.out.size I2.out l2).mono ?_
  rintro e w3 ⟨Db, db, kb, eb, xb, rfl, hb⟩
  have B3 := Lib.hid (B2.out.trans (hb.out.2.2.2.2.mono B2.out.size))
  have OA3 := Lib.hid (kept_none OA.out ⟨hb.out.2.2.2.2.os, hb.out.2.2.2.2.tape, hb.out.2.2.2.2.output, hb.out.2.2.2.2.size, fun i hi _ => hb.out.2.2.2.2.block i hi⟩)
  have OB := Lib.hid (show w3.ownsRow w2.heap.size 54 7 (.slice Db kb db) kb (eb.flatMap En.cells) by have h := hb.out.2.2.2.1; unfold OwnE at h; rw [hb.out.1] at h; exact h)
  have FB := Lib.hid (show eb.length = kb ∧ kb ≤ 8 ∧ ∀ e, e ∈ eb → e.m ≤ 3 from ⟨hb.out.1, hb.out.2.1, hb.out.2.2.1⟩)
  clear hb k0 k1 BX2 OA
  have hka := FA.out.2.1
  have hkb := FB.out.2.1
  go_wp2_with fail
  refine (cloneE_any Da ea ka da w3.heap.size _ FA.out.1 (se_of FA.out.1 OA3.out) (Nat.le_refl _) (by omega)).mono ?_
  rintro e w4 ⟨Dc, dc, rfl, hc⟩
  have B4 := Lib.hid (B3.out.trans (hc.out.2.mono B3.out.size))
  have kp : w3.grownBy w4 none := ⟨hc.out.2.os, hc.out.2.tape, hc.out.2.output, hc.out.2.size, fun i hi _ => hc.out.2.block i hi⟩
  have OA4 := Lib.hid (kept_none OA3.out kp)
  have OB4 := Lib.hid (kept_none OB.out kp)
  have OC := Lib.hid (show w4.ownsRow w3.heap.size 54 7 (.slice Dc ka dc) ka (ea.flatMap En.cells) by have h := hc.out.1; unfold OwnE at h; rw [FA.out.1] at h; exact h)
  have h34 := hc.out.2.size
  have HT4 := Lib.hid hc.out.2
  have SA3 := Lib.hid (se_of FA.out.1 OA3.out)
  have SB3 := Lib.hid (se_of FB.out.1 OB.out)
  clear hc kp OA3 OB
  go_wp2_with (at_builtin; refine wpList_append_E rfl _ _ rfl w3.heap.size w2.heap.size Dc Db ka kb dc db ea eb rfl rfl OC.out OB4.out hka hkb h34 ?_)
  intro De de w5 hown hgrow
  have T4 := Lib.hid (show Below w3.heap.size w3 w4 from HT4.out)
  have T5 := Lib.hid (T4.out.grown hgrow h34 (fun k hk => (OC.out.lt k hk).1))
  have B5 := Lib.hid (B3.out.trans (T5.out.mono B3.out.size))
  have HL := Lib.hid (show (ea ++ eb).length = ka + kb by rw [List.length_append, FA.out.1, FB.out.1])
  have OE := Lib.hid (show OwnE w5 w3.heap.size (.slice De (ka + kb) de) (ea ++ eb) by unfold OwnE; rw [HL.out, List.flatMap_append]; exact hown)
  have SE := Lib.hid (se_of HL.out (show w5.ownsRow w3.heap.size 54 7 (.slice De (ka + kb) de) (ka + kb) ((ea ++ eb).flatMap En.cells) by rw [List.flatMap_append]; exact hown))
  clear hown hgrow OC OA4 OB4 HT4
  go_wp2_with fail
  refine (cloneE_any De (ea ++ eb) (ka + kb) de w5.heap.size _ HL.out SE.out (Nat.le_refl _) (by omega)).mono ?_
  rintro e w6 ⟨Df, df, rfl, hf⟩
  have OF := Lib.hid hf.out.1
  have T6 := Lib.hid hf.out.2
  clear hf
  go_wp2_with fail
  refine (reverse_any Df df (ka + kb) w5.heap.size (ea ++ eb) _ HL.out (by omega) OF.out T6.out.size).mono ?_
  rintro e w7 ⟨rfl, fs, hr⟩
  have AL := Lib.hid hr.out.1
  have T7 := Lib.hid (T6.out.trans hr.out.2.2)
  have LF := Lib.hid (hr.out.1.1.trans HL.out)
  have SF := Lib.hid (se_of LF.out (show w7.ownsRow w5.heap.size 54 7 (.slice Df (ka + kb) df) (ka + kb) (fs.flatMap En.cells) by have h := hr.out.2.1; unfold OwnE at h; rw [LF.out] at h; exact h))
  have SE7 := Lib.hid ((SE.out.below T7.out (Nat.le_refl _)).up T7.out.size)
  have T37 := Lib.hid (T5.out.trans (T7.out.mono T5.out.size))
  have SA7 := Lib.hid ((SA3.out.below T37.out (Nat.le_refl _)).up T37.out.size)
  have SB7 := Lib.hid ((SB3.out.below T37.out (Nat.le_refl _)).up T37.out.size)
  have B7 := Lib.hid (B5.out.trans (T7.out.mono B5.out.size))
  clear hr OF T6 T7 SE T37 SA3 SB3 T5 B5 OE T4
  go_wp2_with fail
  have HL0 := Lib.hid (Bk.new w7 #[.int .i64 n, .int .i64 0, .int .i64 1, .int .i64 2, .int .i64 3, .int .i64 4, .int .i64 5] 3)
  have HB0 := Lib.hid ((Below.refl w7.heap.size w7).alloc (Nat.le_refl _) (.cells #[.int .i64 n, .int .i64 0, .int .i64 1, .int .i64 2, .int .i64 3, .int .i64 4, .int .i64 5] 3))
  have FEW := Lib.hid (few_append (by rw [FA.out.1]; exact hka) (by rw [FB.out.1]; exact hkb) FA.out.2.2 FB.out.2.2)
  go_loopw [42] (fun i wr => ∃ p : Nat, p ≤ 7 ∧ i = .int .i64 p ∧ Hid (Bk wr w7.heap.size #[.int .i64 n, .int .i64 0, .int .i64 1, .int .i64 2, .int .i64 3, .int .i64 4, .int .i64 5] 3) ∧ Hid (Below w7.heap.size w7 wr)) (fun i _ => 7 - (intOf i).toNat)
  case atStart => exact ⟨0, by omega, rfl, HL0, HB0⟩
  case round =>
    clear HL0 HB0
    obtain ⟨p, hp, rfl, KB, T⟩ := hrel
    by_cases hp7 : p < 7
    · obtain ⟨q, hq, IQ⟩ : ∃ q : Int, wr.cell? ⟨w7.heap.size, p, none⟩ = some (.int .i64 q) ∧ Hid (I64 q) := by
        rcases (show p = 0 ∨ p = 1 ∨ p = 2 ∨ p = 3 ∨ p = 4 ∨ p = 5 ∨ p = 6 by omega) with rfl | rfl | rfl | rfl | rfl | rfl | rfl
        · exact ⟨n, KB.out.cell _ _ rfl, IN.out⟩
        · exact ⟨0, KB.out.cell _ _ rfl, ⟨by omega, by omega⟩⟩
        · exact ⟨1, KB.out.cell _ _ rfl, ⟨by omega, by omega⟩⟩
        · exact ⟨2, KB.out.cell _ _ rfl, ⟨by omega, by omega⟩⟩
        · exact ⟨3, KB.out.cell _ _ rfl, ⟨by omega, by omega⟩⟩
        · exact ⟨4, KB.out.cell _ _ rfl, ⟨by omega, by omega⟩⟩
        · exact ⟨5, KB.out.cell _ _ rfl, ⟨by omega, by omega⟩⟩
      have hp7' : (p : Int) < 7 := by omega
      obtain ⟨L, hL⟩ : ∃ L, (if 1 ≤ q ∧ q ≤ 4 then q.toNat else 0) = L := ⟨_, rfl⟩
      have hL4 : L ≤ 4 := by rw [← hL]; split <;> omega
      have LA := Lib.hid ((sumsL_len ea q).trans hL)
      have LB := Lib.hid ((sumsL_len eb q).trans hL)
      have LE := Lib.hid ((sumsL_len (ea ++ eb) q).trans hL)
      have LFs := Lib.hid ((sumsL_len fs q).trans hL)
      clear hL
      go_wp2_with fail
      refine (sums_n Da ea _ _ w7.heap.size L q _ FA.out.1 (SA7.out.below T.out (Nat.le_refl _)) T.out.size ⟨by rw [FA.out.1]; omega, fun e he => by have := FA.out.2.2 e he; omega⟩ IQ.out LA.out).mono ?_
      rintro e wx ⟨Dx, dDx, rfl, hDx⟩
      clear hq
      have U := Lib.hid hDx.out.2
      have SDx := Lib.hid hDx.out.1
      replace KB := Lib.hid (KB.out.below U.out KB.out.lt)
      replace T := Lib.hid (T.out.trans (U.out.mono T.out.size))
      clear hDx U
      go_wp2_with fail
      refine (sums_n Db eb _ _ w7.heap.size L q _ FB.out.1 (SB7.out.below T.out (Nat.le_refl _)) T.out.size ⟨by rw [FB.out.1]; omega, fun e he => by have := FB.out.2.2 e he; omega⟩ IQ.out LB.out).mono ?_
      rintro e wy ⟨Dy, dDy, rfl, hDy⟩
      have U := Lib.hid hDy.out.2
      have SDy := Lib.hid hDy.out.1
      replace SDx := Lib.hid ((SDx.out.below U.out (Nat.le_refl _)).up U.out.size)
      replace KB := Lib.hid (KB.out.below U.out KB.out.lt)
      replace T := Lib.hid (T.out.trans (U.out.mono T.out.size))
      clear hDy U
      go_wp2_with fail
      refine (sums_n De (ea ++ eb) _ _ w7.heap.size L q _ HL.out (SE7.out.below T.out (Nat.le_refl _)) T.out.size FEW.out IQ.out LE.out).mono ?_
      rintro e wz ⟨Dz, dDz, rfl, hDz⟩
      have U := Lib.hid hDz.out.2
      have SDz := Lib.hid hDz.out.1
      replace SDx := Lib.hid ((SDx.out.below U.out (Nat.le_refl _)).up U.out.size)
      replace SDy := Lib.hid ((SDy.out.below U.out (Nat.le_refl _)).up U.out.size)
      replace KB := Lib.hid (KB.out.below U.out KB.out.lt)
      replace T := Lib.hid (T.out.trans (U.out.mono T.out.size))
      clear hDz U
      go_wp2_with fail
      refine (ref_sums_n De (ea ++ eb) _ _ w7.heap.size L q _ HL.out (SE7.out.below T.out (Nat.le_refl _)) T.out.size FEW.out IQ.out LE.out).mono ?_
      rintro e wr2 ⟨Dr, dDr, rfl, hDr⟩
      have U := Lib.hid hDr.out.2
      have SDr := Lib.hid hDr.out.1
      replace SDx := Lib.hid ((SDx.out.below U.out (Nat.le_refl _)).up U.out.size)
      replace SDy := Lib.hid ((SDy.out.below U.out (Nat.le_refl _)).up U.out.size)
      replace SDz := Lib.hid ((SDz.out.below U.out (Nat.le_refl _)).up U.out.size)
      replace KB := Lib.hid (KB.out.below U.out KB.out.lt)
      replace T := Lib.hid (T.out.trans (U.out.mono T.out.size))
      clear hDr U
      go_wp2_with fail
      refine (equal_lit Dz Dr _ _ _ _ _ _ wr2.heap.size _ LE.out LE.out SDz.out SDr.out (by rw [LE.out]; omega) (by rw [LE.out]; omega) true (by simp)).mono ?_
      rintro e w' ⟨rfl, n5, rfl⟩
      replace SDx := Lib.hid (SDx.out.drewN n5)
      replace SDy := Lib.hid (SDy.out.drewN n5)
      replace SDz := Lib.hid (SDz.out.drewN n5)
      replace T := Lib.hid (below_drewN T.out n5)
      replace KB := Lib.hid (show Bk (wr2.drewN n5) _ _ _ from KB.out)
      have hsz : wr2.heap.size = (wr2.drewN n5).heap.size := rfl
      rw [hsz] at SDx SDy SDz
      clear hsz SDr
      generalize wr2.drewN n5 = ws at *
      go_wp2_with fail
      refine (sums_n Df fs _ _ w7.heap.size L q _ LF.out (SF.out.below T.out (Nat.le_refl _)) T.out.size ⟨by rw [LF.out]; omega, fun e he => FEW.out.2 e (AL.out.2.2 e he)⟩ IQ.out LFs.out).mono ?_
      rintro e wu ⟨Du, dDu, rfl, hDu⟩
      have U := Lib.hid hDu.out.2
      have SDu := Lib.hid hDu.out.1
      replace SDx := Lib.hid ((SDx.out.below U.out (Nat.le_refl _)).up U.out.size)
      replace SDy := Lib.hid ((SDy.out.below U.out (Nat.le_refl _)).up U.out.size)
      replace SDz := Lib.hid ((SDz.out.below U.out (Nat.le_refl _)).up U.out.size)
      replace KB := Lib.hid (KB.out.below U.out KB.out.lt)
      replace T := Lib.hid (T.out.trans (U.out.mono T.out.size))
      clear hDu U
      go_wp2_with fail
      refine (equal_lit Du Dz _ _ _ _ _ _ wu.heap.size _ LFs.out LE.out SDu.out SDz.out (by rw [LFs.out]; omega) (by rw [LE.out]; omega) true (by rw [sumsL_alike AL.out]; simp)).mono ?_
      rintro e w' ⟨rfl, n6, rfl⟩
      replace SDx := Lib.hid (SDx.out.drewN n6)
      replace SDy := Lib.hid (SDy.out.drewN n6)
      replace SDz := Lib.hid (SDz.out.drewN n6)
      replace T := Lib.hid (below_drewN T.out n6)
      replace KB := Lib.hid (show Bk (wu.drewN n6) _ _ _ from KB.out)
      clear SDu
      generalize wu.drewN n6 = wv at *
      go_wp2_with fail
      go_loopw [85] (fun i wr => ∃ k : Nat, k ≤ L ∧ i = .int .i64 k ∧ Hid (∃ m, wr = wv.drewN m)) (fun i _ => L - (intOf i).toNat)
      case atStart => exact ⟨0, by omega, rfl, Lib.hid ⟨0, rfl⟩⟩
      case round =>
        obtain ⟨k, hk, rfl, hw⟩ := hrel
        obtain ⟨m, rfl⟩ := hw.out
        by_cases hkL : k < L
        · have hkL' : (k : Int) < L := by omega
          obtain ⟨ax, rfl, _, cx⟩ := SDx.out.get k (by rw [LA.out]; exact hkL)
          obtain ⟨ay, rfl, _, cy⟩ := SDy.out.get k (by rw [LB.out]; exact hkL)
          obtain ⟨az, rfl, _, cz⟩ := SDz.out.get k (by rw [LE.out]; exact hkL)
          rw [sumsL_get] at cx cy cz
          rw [sumOf_append] at cz
          have bx := sumOf_bd k ea (fun e he => by have := FA.out.2.2 e he; omega)
          have by' := sumOf_bd k eb (fun e he => by have := FB.out.2.2 e he; omega)
          rw [FA.out.1] at bx
          rw [FB.out.1] at by'
          obtain ⟨bx1, bx2⟩ := bx
          obtain ⟨by1, by2⟩ := by'
          generalize sumOf k ea = sx at *
          generalize sumOf k eb = sy at *
          have hw1 : IntKind.i64.wrap (sx + sy) = sx + sy := IntWalk.i64_in _ (by omega)
          have hne : (sx + sy != sx + sy) = false := by simp
          go_wp2_with fail
          go_quiet (fail)
          clear cx cy cz hw1 hne
          go_wp2_with fail
          go_roundw
          case rel => exact ⟨k + 1, by omega, by go_num, Lib.hid ⟨_, rfl⟩⟩
          case measure => simp [intOf]; omega
        · have hkL' : (L : Int) ≤ k := by omega
          have KBn := Lib.hid (show Bk (wv.drewN m) _ _ _ from KB.out)
          have Tn := Lib.hid (below_drewN T.out m)
          go_wp2_with fail
          go_roundw
          case rel => exact ⟨p + 1, by omega, by go_num, KBn, Tn⟩
          case measure => simp [intOf]; omega
    · have hp7' : ¬ (p : Int) < 7 := by omega
      go_wp2_with fail
      go_ret
      exact ⟨rfl, B7.out.trans (T.out.mono B7.out.size)⟩
end Go.Proofs.Ytbpehdpcnnaidaa.Ac
