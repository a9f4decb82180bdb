/-
  The walk of AccountWithin.
-/
import Derived.Test.YtbpehdpcnnaidaaAe
import Derived.Test.YtbpehdpcnnaidaaAf
import Derived.Test.YtbpehdpcnnaidaaAj
namespace Go.Proofs.Ytbpehdpcnnaidaa.Ac
open Go Go.RowKit

theorem bits_i64 (x y : Int) : I64 (bits .and .i64 x y) := by
  have h : bits .and .i64 x y = IntKind.i64.wrap ((BitVec.ofInt 64 x &&& BitVec.ofInt 64 y).toNat : Int) := rfl
  rw [h, IntKind.wrap_i64]; unfold I64; omega
set_option maxRecDepth 5000 in
set_option maxHeartbeats 8000000 in
theorem within_walk (f s p q : Int) (hf : I64 f) (hs : I64 s) (hp : I64 p) (hq : I64 q) (w : World) :
    Calls Try.prog 5 #[.int .i64 f, .int .i64 s, .agg #[.int .i64 p, .int .i64 q]] w fun e w' => e = .returned (.bool true) ∧ Below w.heap.size w w' := by
  have IF := Lib.hid hf
  have IS := Lib.hid hs
  have IP := Lib.hid hp
  have IQ := Lib.hid hq
  clear hf hs hp hq
  go_enter Try.func5, Try.ntmps5
  go_wp2_with fail
  refine (sanity_any _).mono ?_
  rintro e w1 ⟨rfl, hb⟩
  obtain ⟨k0, k1⟩ := box2 _ _ _ _ hb
  have B1 := Lib.hid (below_alloc (Below.refl _ w) (Nat.le_refl _) _ hb)
  clear hb
  have IP2 := Lib.hid (bits_i64 p 15)
  have IQ2 := Lib.hid (bits_i64 q 31)
  go_wp2_with fail
  generalize bits .and .i64 p 15 = p2 at *
  generalize bits .and .i64 q 31 = q2 at *
  have K0 := Lib.hid (Bk.new w1 #[.int .i64 f, .int .i64 s, .int .i64 p, .int .i64 q, .int .i64 s, .int .i64 f, .int .i64 q, .int .i64 p, .int .i64 f, .int .i64 s, .int .i64 p2, .int .i64 q2, .int .i64 f, .int .i64 s, .int .i64 p, .int .i64 1] 34)
  have B2 := Lib.hid (B1.out.alloc B1.out.size (.cells #[.int .i64 f, .int .i64 s, .int .i64 p, .int .i64 q, .int .i64 s, .int .i64 f, .int .i64 q, .int .i64 p, .int .i64 f, .int .i64 s, .int .i64 p2, .int .i64 q2, .int .i64 f, .int .i64 s, .int .i64 p, .int .i64 1] 34))
  clear k0 k1
  go_loopw [41] (fun i wr => ∃ k : Nat, k ≤ 4 ∧ i = .int .i64 k ∧ Hid (Bk wr w1.heap.size #[.int .i64 f, .int .i64 s, .int .i64 p, .int .i64 q, .int .i64 s, .int .i64 f, .int .i64 q, .int .i64 p, .int .i64 f, .int .i64 s, .int .i64 p2, .int .i64 q2, .int .i64 f, .int .i64 s, .int .i64 p, .int .i64 1] 34) ∧ Hid (Below w.heap.size w wr)) (fun i _ => 4 - (intOf i).toNat)
  case atStart => exact ⟨0, by omega, rfl, K0, B2⟩
  case round =>
    clear K0 B2
    obtain ⟨k, hk, rfl, hK, hB⟩ := hrel
    by_cases hlt : k < 4
    · obtain ⟨x0, x1, x2, x3, hx, I0, I1, I2, I3⟩ : ∃ x0 x1 x2 x3 : Int, Hid (wr.cell? ⟨w1.heap.size, k * 4, none⟩ = some (.int .i64 x0) ∧ wr.cell? ⟨w1.heap.size, k * 4 + 1, none⟩ = some (.int .i64 x1) ∧ wr.cell? ⟨w1.heap.size, k * 4 + 2, none⟩ = some (.int .i64 x2) ∧ wr.cell? ⟨w1.heap.size, k * 4 + 3, none⟩ = some (.int .i64 x3)) ∧ I64 x0 ∧ I64 x1 ∧ I64 x2 ∧ I64 x3 := by
        rcases (show k = 0 ∨ k = 1 ∨ k = 2 ∨ k = 3 by omega) with rfl | rfl | rfl | rfl
        · exact ⟨f, s, p, q, ⟨hK.out.cell _ _ rfl, hK.out.cell _ _ rfl, hK.out.cell _ _ rfl, hK.out.cell _ _ rfl⟩, IF.out, IS.out, IP.out, IQ.out⟩
        · exact ⟨s, f, q, p, ⟨hK.out.cell _ _ rfl, hK.out.cell _ _ rfl, hK.out.cell _ _ rfl, hK.out.cell _ _ rfl⟩, IS.out, IF.out, IQ.out, IP.out⟩
        · exact ⟨f, s, p2, q2, ⟨hK.out.cell _ _ rfl, hK.out.cell _ _ rfl, hK.out.cell _ _ rfl, hK.out.cell _ _ rfl⟩, IF.out, IS.out, IP2.out, IQ2.out⟩
        · exact ⟨f, s, p, 1, ⟨hK.out.cell _ _ rfl, hK.out.cell _ _ rfl, hK.out.cell _ _ rfl, hK.out.cell _ _ rfl⟩, IF.out, IS.out, IP.out, ⟨by omega, by omega⟩⟩
      obtain ⟨h0, h1, h2, h3⟩ := hx.out
      have hlt' : (k : Int) < 4 := by omega
      go_wp2_with fail
      have X := Lib.hid (Bk.new wr #[.int .i64 x0, .int .i64 x1, .int .i64 x2, .int .i64 x3] 34)
      have BX := Lib.hid (hB.out.alloc hB.out.size (.cells #[.int .i64 x0, .int .i64 x1, .int .i64 x2, .int .i64 x3] 34))
      have KX := Lib.hid (hK.out.below ((Below.refl _ _).alloc (Nat.le_refl _) (.cells #[.int .i64 x0, .int .i64 x1, .int .i64 x2, .int .i64 x3] 34)) hK.out.lt)
      generalize wr.alloc (.cells #[.int .i64 x0, .int .i64 x1, .int .i64 x2, .int .i64 x3] 34) = wx at *
      generalize wr.heap.size = X0 at *
      clear h0 h1 h2 h3 hx
      have c0 := X.out.cell 0 _ rfl
      have c1 := X.out.cell 1 _ rfl
      have c2 := X.out.cell 2 _ rfl
      have c3 := X.out.cell 3 _ rfl
      have CW := Lib.hid (fun W => q_same (fun W => within_any x0 x1 x2 x3 I0 I1 I2 I3 W) W)
      have CR := Lib.hid (fun W => ref_within x0 x1 x2 x3 I0 I1 I2 I3 W)
      have CD := Lib.hid (fun W => q_same (fun W => due_any x1 x2 I1 I2 W) W)
      have CE := Lib.hid (fun W => q_same (fun W => ref_due x1 x2 I1 I2 W) W)
      have CF := Lib.hid (fun W => q_same (fun W => fits_any x0 x1 x2 I0 I1 I2 W) W)
      have CG := Lib.hid (fun W => q_same (fun W => ref_fits x0 x1 x2 I0 I1 I2 W) W)
      have CH := Lib.hid (fun W => q_same (fun W => fits_any x1 x0 x3 I1 I0 I3 W) W)
      have CI := Lib.hid (fun W => q_same (fun W => ref_fits x1 x0 x3 I1 I0 I3 W) W)
      generalize withinB x0 x1 x2 x3 = b1 at *
      generalize dueB x1 x2 = b2 at *
      generalize fitsB x0 x1 x2 = b3 at *
      generalize fitsB x1 x0 x3 = b4 at *
      go_quiet (first | (go_at_call 15; exact qq _ _ CW.out) | (go_at_call 16; exact qq _ _ CR.out) | (go_at_call 17; exact qq _ _ CD.out) | (go_at_call 18; exact qq _ _ CE.out))
      go_wp2_with fail
      have BY := Lib.hid (below_drewN BX.out nq)
      have KY := Lib.hid (show Bk (wx.drewN nq) w1.heap.size #[.int .i64 f, .int .i64 s, .int .i64 p, .int .i64 q, .int .i64 s, .int .i64 f, .int .i64 q, .int .i64 p, .int .i64 f, .int .i64 s, .int .i64 p2, .int .i64 q2, .int .i64 f, .int .i64 s, .int .i64 p, .int .i64 1] 34 from KX.out)
      have Y := Lib.hid (show Bk (wx.drewN nq) X0 #[.int .i64 x0, .int .i64 x1, .int .i64 x2, .int .i64 x3] 34 from X.out)
      clear c0 c1 c2 c3
      generalize wx.drewN nq = wy at *
      have c0 := Y.out.cell 0 _ rfl
      have c1 := Y.out.cell 1 _ rfl
      have c2 := Y.out.cell 2 _ rfl
      have c3 := Y.out.cell 3 _ rfl
      go_quiet (first | (go_at_call 19; first | with_reducible exact qq _ _ CF.out | with_reducible exact qq _ _ CH.out) | (go_at_call 20; first | with_reducible exact qq _ _ CG.out | with_reducible exact qq _ _ CI.out))
      clear c0 c1 c2 c3
      go_wp2_with fail
      go_roundw
      case rel => exact ⟨k + 1, by omega, by go_num, KY, Lib.hid (below_drewN BY.out _)⟩
      case measure => simp [intOf]; omega
    · obtain rfl : k = 4 := by omega
      go_wp2_with fail
      go_ret
      exact ⟨rfl, hB.out⟩
end Go.Proofs.Ytbpehdpcnnaidaa.Ac
