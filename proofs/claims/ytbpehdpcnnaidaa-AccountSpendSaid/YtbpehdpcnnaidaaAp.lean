/-
  The walk of AccountSpend.
-/
import Derived.Test.YtbpehdpcnnaidaaAt
import Derived.Test.YtbpehdpcnnaidaaAq
import Derived.Test.YtbpehdpcnnaidaaAy
import Derived.Test.YtbpehdpcnnaidaaAz
namespace Go.Proofs.Ytbpehdpcnnaidaa.Ac
open Go Go.RowKit

theorem ref_spend_lit (A : Option Addr) (zs : List Int) (l c B : Nat) (k m : Int) (w : World) (hl : zs.length = l) (h : Sl w B A zs) (hB : B ≤ w.heap.size) (hn : zs.length ≤ 17592186044404) (hk : I64 k) (hm : I64 m) (hz : ∀ z ∈ zs, I64 z) (b : Bool) (ys : List Int) (hb : okB zs k m = b) (hy : afterL zs k m = ys) :
    Calls Try.prog 13 #[.slice A l c, .int .i64 k, .int .i64 m] w fun e w' => ∃ D d, e = .returned (.tuple #[.slice D ys.length d, .bool b]) ∧ Hid (OwnI w' w.heap.size (.slice D ys.length d) ys ∧ Sl w' w'.heap.size D ys ∧ Below w.heap.size w w') := by
  subst hl
  refine (ref_spend A zs c B k m w h hB hn hk hm hz).mono ?_
  rintro e w' ⟨v, rfl, ho, hb'⟩
  rw [hy] at ho
  obtain ⟨D, d, rfl, hs⟩ := ho.form
  exact ⟨D, d, by rw [hb], ho, hs, hb'⟩
theorem clone_lit (A : Option Addr) (zs : List Int) (l c B : Nat) (w : World) (hl : zs.length = l) (h : Sl w B A zs) (hB : B ≤ w.heap.size) (hn : zs.length ≤ 17592186044404) :
    Calls Try.prog 11 #[.slice A l c] w fun e w' => ∃ D d, e = .returned (.slice D l d) ∧ Hid (Sl w' w'.heap.size D zs ∧ Below w.heap.size w w') := by
  subst hl
  refine (clone_any A zs c B w h hB hn).mono ?_
  rintro e w' ⟨v, rfl, ho, hb'⟩
  obtain ⟨D, d, rfl, hs⟩ := ho.form
  exact ⟨D, d, rfl, hs, hb'⟩
/-- An own slice of n ints, whatever they are. -/
def OwnLen (w : World) (base : Nat) (D : Option Addr) (n d : Nat) : Prop := ∃ zs : List Int, zs.length = n ∧ OwnI w base (.slice D n d) zs
theorem OwnLen.store {w : World} {base n d : Nat} {D : Option Addr} (h : OwnLen w base D n d) (i : Nat) (hi : i < n) :
    ∃ g, D = some ⟨g, 0, none⟩ ∧ base ≤ g ∧ g < w.heap.size ∧ n ≤ d ∧ (∃ z, w.cell? ⟨g, i, none⟩ = some (.int .i64 z)) ∧ w.frozen? ⟨g, i, none⟩ = false ∧ ∀ z, OwnLen (w.setCell ⟨g, i, none⟩ (.int .i64 z)) base D n d := by
  obtain ⟨zs, rfl, ho⟩ := h
  obtain ⟨g, c, e, hg, hg', hc, hf, hcell⟩ := ho.full (by omega)
  injection e with e1 e2 e3
  subst e1 e3
  exact ⟨g, rfl, hg, hg', hc, ⟨_, hcell i hi⟩, hf i, fun z => ⟨zs.set i z, by simp, by simpa using (ho.set i z).1⟩⟩
set_option maxRecDepth 5000 in
set_option maxHeartbeats 8000000 in
theorem spend_walk (A : Option Addr) (zs : List Int) (c : Nat) (t n : Int) (ht : I64 t) (hn : I64 n) (w : World) (hA : Sl w w.heap.size A zs) (hc : zs.length ≤ c) (hl : zs.length ≤ 17592186044404) (hz : ∀ z ∈ zs, I64 z) :
    Calls Try.prog 3 #[.slice A zs.length c, .int .i64 t, .int .i64 n] w fun e w' => e = .returned (.bool true) ∧ Below w.heap.size w w' := by
  have IT := Lib.hid ht
  have IN := Lib.hid hn
  obtain ⟨ys, L, hL, hys, hLL⟩ : ∃ (ys : List Int) (L : Nat), ys.length = L ∧ ys = zs.take 6 ∧ ((zs.length ≤ 6 ∧ L = zs.length) ∨ (6 < zs.length ∧ L = 6)) := by
    refine ⟨zs.take 6, _, rfl, rfl, ?_⟩
    rw [List.length_take]
    omega
  have HY := Lib.hid (show Sl w w.heap.size A ys by rw [hys]; exact hA.take 6)
  have HZY := Lib.hid (show ∀ z ∈ ys, I64 z by rw [hys]; exact fun z h => hz z (List.mem_of_mem_take h))
  have HL := Lib.hid hL
  clear ht hn hys hz hA hL
  rcases hLL with ⟨h6, rfl⟩ | ⟨h6, rfl⟩
  · go_enter Try.func3, Try.ntmps3
    go_wp2_with fail
    refine (sanity_any _).mono ?_
    rintro e w1 ⟨rfl, hb⟩
    have B1 := Lib.hid hb
    have Y1 := Lib.hid (HY.out.below hb (Nat.le_refl _))
    clear hb HY
    go_wp2_with fail
    refine (clone_lit A ys _ _ w.heap.size _ HL.out Y1.out B1.out.size (by rw [HL.out]; omega)).mono ?_
    rintro e w2 ⟨D, d, rfl, h2⟩
    have B2 := Lib.hid (B1.out.trans (h2.out.2.mono B1.out.size))
    have Y2 := Lib.hid ((Y1.out.below h2.out.2 B1.out.size).up B2.out.size)
    have D2 := Lib.hid h2.out.1
    have hw2 : w.heap.size ≤ w2.heap.size := B2.out.size
    clear h2 B1 Y1
    go_wp2_with fail
    go_loopw [9] (fun i wr => ∃ k : Nat, k ≤ zs.length + 2 ∧ i = .int .i64 ((k : Int) - 1) ∧ Hid (Below w2.heap.size w2 wr)) (fun i _ => zs.length + 2 - (intOf i + 1).toNat)
    case atStart => exact ⟨0, by omega, by simp, Lib.hid (Below.refl _ _)⟩
    case round =>
      obtain ⟨k, hk, rfl, hr⟩ := hrel
      by_cases hlt : k ≤ zs.length + 1
      · have hlt' : (k : Int) - 1 ≤ (zs.length : Int) := by omega
        go_wp2_with fail
        have P0 := Lib.hid (Bk.new wr #[.int .i64 t, .int .i64 n, .int .i64 ((k : Int) - 1), .int .i64 n, .int .i64 ((k : Int) - 1), .int .i64 1, .int .i64 ((k : Int) - 1), .int .i64 0] 25)
        have R0 := Lib.hid (hr.out.alloc hr.out.size (.cells #[.int .i64 t, .int .i64 n, .int .i64 ((k : Int) - 1), .int .i64 n, .int .i64 ((k : Int) - 1), .int .i64 1, .int .i64 ((k : Int) - 1), .int .i64 0] 25))
        have hP : w2.heap.size ≤ wr.heap.size := hr.out.size
        generalize wr.alloc (.cells #[.int .i64 t, .int .i64 n, .int .i64 ((k : Int) - 1), .int .i64 n, .int .i64 ((k : Int) - 1), .int .i64 1, .int .i64 ((k : Int) - 1), .int .i64 0] 25) = wp at *
        generalize wr.heap.size = P at *
        go_loopw [43] (fun i wq => ∃ j : Nat, j ≤ 4 ∧ i = .int .i64 j ∧ Hid (Bk wq P #[.int .i64 t, .int .i64 n, .int .i64 ((k : Int) - 1), .int .i64 n, .int .i64 ((k : Int) - 1), .int .i64 1, .int .i64 ((k : Int) - 1), .int .i64 0] 25) ∧ Hid (Below w2.heap.size w2 wq)) (fun i _ => 4 - (intOf i).toNat)
        case atStart => exact ⟨0, by omega, rfl, P0, R0⟩
        case round =>
          clear P0 R0 hr
          obtain ⟨j, hj, rfl, hP2, hq⟩ := hrel
          by_cases hj4 : j < 4
          · obtain ⟨x, y, hx, I0, I1⟩ : ∃ x y : Int, Hid (wr.cell? ⟨P, j * 2, none⟩ = some (.int .i64 x) ∧ wr.cell? ⟨P, j * 2 + 1, none⟩ = some (.int .i64 y)) ∧ Hid (I64 x) ∧ Hid (I64 y) := by
              have IK : I64 ((k : Int) - 1) := ⟨by omega, by omega⟩
              rcases (show j = 0 ∨ j = 1 ∨ j = 2 ∨ j = 3 by omega) with rfl | rfl | rfl | rfl
              · exact ⟨t, n, ⟨hP2.out.cell _ _ rfl, hP2.out.cell _ _ rfl⟩, IT.out, IN.out⟩
              · exact ⟨(k : Int) - 1, n, ⟨hP2.out.cell _ _ rfl, hP2.out.cell _ _ rfl⟩, IK, IN.out⟩
              · exact ⟨(k : Int) - 1, 1, ⟨hP2.out.cell _ _ rfl, hP2.out.cell _ _ rfl⟩, IK, ⟨by omega, by omega⟩⟩
              · exact ⟨(k : Int) - 1, 0, ⟨hP2.out.cell _ _ rfl, hP2.out.cell _ _ rfl⟩, IK, ⟨by omega, by omega⟩⟩
            obtain ⟨h0, h1⟩ := hx.out
            have hj4' : (j : Int) < 4 := by omega
            have PX := Lib.hid (hP2.out.below ((Below.refl _ _).alloc (Nat.le_refl _) (.cells #[.int .i64 x, .int .i64 y] 25)) hP2.out.lt)
            have QX := Lib.hid (hq.out.alloc hq.out.size (.cells #[.int .i64 x, .int .i64 y] 25))
            have X := Lib.hid (Bk.new wr #[.int .i64 x, .int .i64 y] 25)
            obtain ⟨b, hb⟩ : ∃ b, okB ys x y = b := ⟨_, rfl⟩
            obtain ⟨ya, hya⟩ : ∃ ya, afterL ys x y = ya := ⟨_, rfl⟩
            have hlen : ya.length ≤ 17592186044404 := by rw [← hya]; exact Nat.le_trans after_len (by rw [HL.out]; omega)
            have HB := Lib.hid hb
            have HYA := Lib.hid hya
            clear hb hya
            go_wp2_with fail
            generalize wr.alloc (.cells #[.int .i64 x, .int .i64 y] 25) = wx at *
            generalize wr.heap.size = X0 at *
            clear h0 h1 hx hP2 hq
            refine (spend_lit A ys _ _ w2.heap.size _ _ _ HL.out (Y2.out.below QX.out (Nat.le_refl _)) QX.out.size (by rw [HL.out]; omega) I0.out I1.out HZY.out b ya HB.out HYA.out).mono ?_
            rintro e w3 ⟨D3, d3, rfl, h3⟩
            have P3 := Lib.hid (PX.out.below h3.out.2.2 PX.out.lt)
            have X3 := Lib.hid (X.out.below h3.out.2.2 X.out.lt)
            have Q3 := Lib.hid (QX.out.trans (h3.out.2.2.mono QX.out.size))
            have O3 := Lib.hid h3.out.1
            have hb3 : w2.heap.size ≤ wx.heap.size := QX.out.size
            have hbP : P < wx.heap.size := PX.out.lt
            have W3 := Lib.hid h3.out.2.2.size
            have S3 := Lib.hid h3.out.2.1
            clear h3 PX QX
            have c0 := X3.out.cell 0 _ rfl
            have c1 := X3.out.cell 1 _ rfl
            go_wp2_with fail
            refine (ref_spend_lit A ys _ _ w2.heap.size _ _ _ HL.out (Y2.out.below Q3.out (Nat.le_refl _)) Q3.out.size (by rw [HL.out]; omega) I0.out I1.out HZY.out b ya HB.out HYA.out).mono ?_
            rintro e w4 ⟨D4, d4, rfl, h4⟩
            have P4 := Lib.hid (P3.out.below h4.out.2.2 P3.out.lt)
            have Q4 := Lib.hid (Q3.out.trans (h4.out.2.2.mono Q3.out.size))
            have O4 := Lib.hid (O3.out.below h4.out.2.2 (Nat.le_refl _))
            have S4 := Lib.hid ((S3.out.below h4.out.2.2 (Nat.le_refl _)).up h4.out.2.2.size)
            have T4 := Lib.hid h4.out.2.1
            have W4 := Lib.hid (Nat.le_trans W3.out h4.out.2.2.size)
            clear h4 P3 Q3 O3 S3 c0 c1 X3 X W3
            go_wp2_with fail
            refine (equal_lit D3 D4 ya ya _ _ _ _ w4.heap.size _ rfl rfl S4.out T4.out hlen hlen true (by simp)).mono ?_
            rintro e w' ⟨rfl, n5, rfl⟩
            have P5 := Lib.hid (show Bk (w4.drewN n5) P #[.int .i64 t, .int .i64 n, .int .i64 ((k : Int) - 1), .int .i64 n, .int .i64 ((k : Int) - 1), .int .i64 1, .int .i64 ((k : Int) - 1), .int .i64 0] 25 from P4.out)
            have Q5 := Lib.hid (below_drewN Q4.out n5)
            have O5 := Lib.hid (O4.out.below (below_drewN (Below.refl w4.heap.size w4) n5) (Nat.le_refl _))
            have W5 := Lib.hid (show wx.heap.size ≤ (w4.drewN n5).heap.size from W4.out)
            clear P4 Q4 O4 S4 T4 W4
            generalize w4.drewN n5 = w5 at *
            have O6 := Lib.hid (show OwnLen w5 wx.heap.size D3 ya.length d3 from ⟨ya, rfl, O5.out⟩)
            clear O5
            go_wp2_with fail
            go_loopw [76] (fun i wr => ∃ m : Nat, m ≤ ya.length ∧ i = .int .i64 m ∧ Hid (OwnLen wr wx.heap.size D3 ya.length d3) ∧ Hid (Bk wr P #[.int .i64 t, .int .i64 n, .int .i64 ((k : Int) - 1), .int .i64 n, .int .i64 ((k : Int) - 1), .int .i64 1, .int .i64 ((k : Int) - 1), .int .i64 0] 25) ∧ Hid (Below w2.heap.size w2 wr)) (fun i _ => ya.length - (intOf i).toNat)
            case atStart => exact ⟨0, by omega, rfl, O6, P5, Q5⟩
            case round =>
              clear O6 P5 Q5
              obtain ⟨m, hm, rfl, hO, hPm, hQm⟩ := hrel
              by_cases hml : m < ya.length
              · obtain ⟨g, e, hg, hg', hnd, ⟨z, hcell⟩, hfr, hset⟩ := hO.out.store m hml
                subst e
                have HS := Lib.hid (hset (-9))
                have HP := Lib.hid (hPm.out.far (p := ⟨g, m, none⟩) (by show P ≠ g; omega) (.int .i64 (-9)))
                have HQ := Lib.hid (hQm.out.setCell (p := ⟨g, m, none⟩) (by show w2.heap.size ≤ g; omega) (.int .i64 (-9)))
                have hml' : (m : Int) < ya.length := by omega
                clear hset hO hPm hQm
                go_wp2_with fail
                go_roundw
                case rel => exact ⟨m + 1, by omega, by go_num, HS, HP, HQ⟩
                case measure => simp [intOf]; omega
              · have hml' : (ya.length : Int) ≤ m := by omega
                go_wp2_with fail
                go_roundw
                case rel => exact ⟨j + 1, by omega, by go_num, hPm, hQm⟩
                case measure => simp [intOf]; omega
          · obtain rfl : j = 4 := by omega
            go_wp2_with fail
            go_roundw
            case rel => exact ⟨k + 1, by omega, by rw [show ((k + 1 : Nat) : Int) - 1 = (k : Int) by push_cast; omega], hq⟩
            case measure => simp [intOf]; omega
      · have hge : (zs.length : Int) + 1 ≤ (k : Int) - 1 := by omega
        go_wp2_with fail
        refine (equal_lit A D ys ys _ _ _ _ w2.heap.size _ HL.out HL.out (Y2.out.below hr.out (Nat.le_refl _)) (D2.out.below hr.out (Nat.le_refl _)) (by rw [HL.out]; omega) (by rw [HL.out]; omega) true (by simp)).mono ?_
        rintro e w' ⟨rfl, n5, rfl⟩
        go_wp2_with fail
        go_ret
        exact ⟨rfl, below_drewN (B2.out.trans (hr.out.mono hw2)) n5⟩
  · go_enter Try.func3, Try.ntmps3
    go_wp2_with fail
    refine (sanity_any _).mono ?_
    rintro e w1 ⟨rfl, hb⟩
    have B1 := Lib.hid hb
    have Y1 := Lib.hid (HY.out.below hb (Nat.le_refl _))
    clear hb HY
    go_wp2_with fail
    refine (clone_lit A ys _ _ w.heap.size _ HL.out Y1.out B1.out.size (by rw [HL.out]; omega)).mono ?_
    rintro e w2 ⟨D, d, rfl, h2⟩
    have B2 := Lib.hid (B1.out.trans (h2.out.2.mono B1.out.size))
    have Y2 := Lib.hid ((Y1.out.below h2.out.2 B1.out.size).up B2.out.size)
    have D2 := Lib.hid h2.out.1
    have hw2 : w.heap.size ≤ w2.heap.size := B2.out.size
    clear h2 B1 Y1
    go_wp2_with fail
    go_loopw [9] (fun i wr => ∃ k : Nat, k ≤ 6 + 2 ∧ i = .int .i64 ((k : Int) - 1) ∧ Hid (Below w2.heap.size w2 wr)) (fun i _ => 6 + 2 - (intOf i + 1).toNat)
    case atStart => exact ⟨0, by omega, by simp, Lib.hid (Below.refl _ _)⟩
    case round =>
      obtain ⟨k, hk, rfl, hr⟩ := hrel
      by_cases hlt : k ≤ 6 + 1
      · have hlt' : (k : Int) - 1 ≤ (6 : Int) := by omega
        go_wp2_with fail
        have P0 := Lib.hid (Bk.new wr #[.int .i64 t, .int .i64 n, .int .i64 ((k : Int) - 1), .int .i64 n, .int .i64 ((k : Int) - 1), .int .i64 1, .int .i64 ((k : Int) - 1), .int .i64 0] 25)
        have R0 := Lib.hid (hr.out.alloc hr.out.size (.cells #[.int .i64 t, .int .i64 n, .int .i64 ((k : Int) - 1), .int .i64 n, .int .i64 ((k : Int) - 1), .int .i64 1, .int .i64 ((k : Int) - 1), .int .i64 0] 25))
        have hP : w2.heap.size ≤ wr.heap.size := hr.out.size
        generalize wr.alloc (.cells #[.int .i64 t, .int .i64 n, .int .i64 ((k : Int) - 1), .int .i64 n, .int .i64 ((k : Int) - 1), .int .i64 1, .int .i64 ((k : Int) - 1), .int .i64 0] 25) = wp at *
        generalize wr.heap.size = P at *
        go_loopw [43] (fun i wq => ∃ j : Nat, j ≤ 4 ∧ i = .int .i64 j ∧ Hid (Bk wq P #[.int .i64 t, .int .i64 n, .int .i64 ((k : Int) - 1), .int .i64 n, .int .i64 ((k : Int) - 1), .int .i64 1, .int .i64 ((k : Int) - 1), .int .i64 0] 25) ∧ Hid (Below w2.heap.size w2 wq)) (fun i _ => 4 - (intOf i).toNat)
        case atStart => exact ⟨0, by omega, rfl, P0, R0⟩
        case round =>
          clear P0 R0 hr
          obtain ⟨j, hj, rfl, hP2, hq⟩ := hrel
          by_cases hj4 : j < 4
          · obtain ⟨x, y, hx, I0, I1⟩ : ∃ x y : Int, Hid (wr.cell? ⟨P, j * 2, none⟩ = some (.int .i64 x) ∧ wr.cell? ⟨P, j * 2 + 1, none⟩ = some (.int .i64 y)) ∧ Hid (I64 x) ∧ Hid (I64 y) := by
              have IK : I64 ((k : Int) - 1) := ⟨by omega, by omega⟩
              rcases (show j = 0 ∨ j = 1 ∨ j = 2 ∨ j = 3 by omega) with rfl | rfl | rfl | rfl
              · exact ⟨t, n, ⟨hP2.out.cell _ _ rfl, hP2.out.cell _ _ rfl⟩, IT.out, IN.out⟩
              · exact ⟨(k : Int) - 1, n, ⟨hP2.out.cell _ _ rfl, hP2.out.cell _ _ rfl⟩, IK, IN.out⟩
              · exact ⟨(k : Int) - 1, 1, ⟨hP2.out.cell _ _ rfl, hP2.out.cell _ _ rfl⟩, IK, ⟨by omega, by omega⟩⟩
              · exact ⟨(k : Int) - 1, 0, ⟨hP2.out.cell _ _ rfl, hP2.out.cell _ _ rfl⟩, IK, ⟨by omega, by omega⟩⟩
            obtain ⟨h0, h1⟩ := hx.out
            have hj4' : (j : Int) < 4 := by omega
            have PX := Lib.hid (hP2.out.below ((Below.refl _ _).alloc (Nat.le_refl _) (.cells #[.int .i64 x, .int .i64 y] 25)) hP2.out.lt)
            have QX := Lib.hid (hq.out.alloc hq.out.size (.cells #[.int .i64 x, .int .i64 y] 25))
            have X := Lib.hid (Bk.new wr #[.int .i64 x, .int .i64 y] 25)
            obtain ⟨b, hb⟩ : ∃ b, okB ys x y = b := ⟨_, rfl⟩
            obtain ⟨ya, hya⟩ : ∃ ya, afterL ys x y = ya := ⟨_, rfl⟩
            have hlen : ya.length ≤ 17592186044404 := by rw [← hya]; exact Nat.le_trans after_len (by rw [HL.out]; omega)
            have HB := Lib.hid hb
            have HYA := Lib.hid hya
            clear hb hya
            go_wp2_with fail
            generalize wr.alloc (.cells #[.int .i64 x, .int .i64 y] 25) = wx at *
            generalize wr.heap.size = X0 at *
            clear h0 h1 hx hP2 hq
            refine (spend_lit A ys _ _ w2.heap.size _ _ _ HL.out (Y2.out.below QX.out (Nat.le_refl _)) QX.out.size (by rw [HL.out]; omega) I0.out I1.out HZY.out b ya HB.out HYA.out).mono ?_
            rintro e w3 ⟨D3, d3, rfl, h3⟩
            have P3 := Lib.hid (PX.out.below h3.out.2.2 PX.out.lt)
            have X3 := Lib.hid (X.out.below h3.out.2.2 X.out.lt)
            have Q3 := Lib.hid (QX.out.trans (h3.out.2.2.mono QX.out.size))
            have O3 := Lib.hid h3.out.1
            have hb3 : w2.heap.size ≤ wx.heap.size := QX.out.size
            have hbP : P < wx.heap.size := PX.out.lt
            have W3 := Lib.hid h3.out.2.2.size
            have S3 := Lib.hid h3.out.2.1
            clear h3 PX QX
            have c0 := X3.out.cell 0 _ rfl
            have c1 := X3.out.cell 1 _ rfl
            go_wp2_with fail
            refine (ref_spend_lit A ys _ _ w2.heap.size _ _ _ HL.out (Y2.out.below Q3.out (Nat.le_refl _)) Q3.out.size (by rw [HL.out]; omega) I0.out I1.out HZY.out b ya HB.out HYA.out).mono ?_
            rintro e w4 ⟨D4, d4, rfl, h4⟩
            have P4 := Lib.hid (P3.out.below h4.out.2.2 P3.out.lt)
            have Q4 := Lib.hid (Q3.out.trans (h4.out.2.2.mono Q3.out.size))
            have O4 := Lib.hid (O3.out.below h4.out.2.2 (Nat.le_refl _))
            have S4 := Lib.hid ((S3.out.below h4.out.2.2 (Nat.le_refl _)).up h4.out.2.2.size)
            have T4 := Lib.hid h4.out.2.1
            have W4 := Lib.hid (Nat.le_trans W3.out h4.out.2.2.size)
            clear h4 P3 Q3 O3 S3 c0 c1 X3 X W3
            go_wp2_with fail
            refine (equal_lit D3 D4 ya ya _ _ _ _ w4.heap.size _ rfl rfl S4.out T4.out hlen hlen true (by simp)).mono ?_
            rintro e w' ⟨rfl, n5, rfl⟩
            have P5 := Lib.hid (show Bk (w4.drewN n5) P #[.int .i64 t, .int .i64 n, .int .i64 ((k : Int) - 1), .int .i64 n, .int .i64 ((k : Int) - 1), .int .i64 1, .int .i64 ((k : Int) - 1), .int .i64 0] 25 from P4.out)
            have Q5 := Lib.hid (below_drewN Q4.out n5)
            have O5 := Lib.hid (O4.out.below (below_drewN (Below.refl w4.heap.size w4) n5) (Nat.le_refl _))
            have W5 := Lib.hid (show wx.heap.size ≤ (w4.drewN n5).heap.size from W4.out)
            clear P4 Q4 O4 S4 T4 W4
            generalize w4.drewN n5 = w5 at *
            have O6 := Lib.hid (show OwnLen w5 wx.heap.size D3 ya.length d3 from ⟨ya, rfl, O5.out⟩)
            clear O5
            go_wp2_with fail
            go_loopw [76] (fun i wr => ∃ m : Nat, m ≤ ya.length ∧ i = .int .i64 m ∧ Hid (OwnLen wr wx.heap.size D3 ya.length d3) ∧ Hid (Bk wr P #[.int .i64 t, .int .i64 n, .int .i64 ((k : Int) - 1), .int .i64 n, .int .i64 ((k : Int) - 1), .int .i64 1, .int .i64 ((k : Int) - 1), .int .i64 0] 25) ∧ Hid (Below w2.heap.size w2 wr)) (fun i _ => ya.length - (intOf i).toNat)
            case atStart => exact ⟨0, by omega, rfl, O6, P5, Q5⟩
            case round =>
              clear O6 P5 Q5
              obtain ⟨m, hm, rfl, hO, hPm, hQm⟩ := hrel
              by_cases hml : m < ya.length
              · obtain ⟨g, e, hg, hg', hnd, ⟨z, hcell⟩, hfr, hset⟩ := hO.out.store m hml
                subst e
                have HS := Lib.hid (hset (-9))
                have HP := Lib.hid (hPm.out.far (p := ⟨g, m, none⟩) (by show P ≠ g; omega) (.int .i64 (-9)))
                have HQ := Lib.hid (hQm.out.setCell (p := ⟨g, m, none⟩) (by show w2.heap.size ≤ g; omega) (.int .i64 (-9)))
                have hml' : (m : Int) < ya.length := by omega
                clear hset hO hPm hQm
                go_wp2_with fail
                go_roundw
                case rel => exact ⟨m + 1, by omega, by go_num, HS, HP, HQ⟩
                case measure => simp [intOf]; omega
              · have hml' : (ya.length : Int) ≤ m := by omega
                go_wp2_with fail
                go_roundw
                case rel => exact ⟨j + 1, by omega, by go_num, hPm, hQm⟩
                case measure => simp [intOf]; omega
          · obtain rfl : j = 4 := by omega
            go_wp2_with fail
            go_roundw
            case rel => exact ⟨k + 1, by omega, by rw [show ((k + 1 : Nat) : Int) - 1 = (k : Int) by push_cast; omega], hq⟩
            case measure => simp [intOf]; omega
      · have hge : (6 : Int) + 1 ≤ (k : Int) - 1 := by omega
        go_wp2_with fail
        refine (equal_lit A D ys ys _ _ _ _ w2.heap.size _ HL.out HL.out (Y2.out.below hr.out (Nat.le_refl _)) (D2.out.below hr.out (Nat.le_refl _)) (by rw [HL.out]; omega) (by rw [HL.out]; omega) true (by simp)).mono ?_
        rintro e w' ⟨rfl, n5, rfl⟩
        go_wp2_with fail
        go_ret
        exact ⟨rfl, below_drewN (B2.out.trans (hr.out.mono hw2)) n5⟩
end Go.Proofs.Ytbpehdpcnnaidaa.Ac
