/-
  The walk of AccountLines.
-/
import Derived.Test.YtbpehdpcnnaidaaAe
import Derived.Test.YtbpehdpcnnaidaaAf
namespace Go.Proofs.Ytbpehdpcnnaidaa.Ac
open Go Go.RowKit

set_option maxHeartbeats 4000000 in
theorem lines_walk (f s p q : Int) (hf : 0 ≤ f ∧ f ≤ 255) (hs : 0 ≤ s ∧ s ≤ 65535) (hp : 0 ≤ p ∧ p ≤ 255) (hq : 0 ≤ q ∧ q ≤ 255) (w : World) :
    Calls Try.prog 6 #[.int .u8 f, .int .u16 s, .agg #[.int .u8 p, .int .u8 q]] w fun e w' => e = .returned (.bool true) ∧ Below w.heap.size w w' := by
  obtain ⟨hf1, hf2⟩ := hf
  obtain ⟨hs1, hs2⟩ := hs
  obtain ⟨hp1, hp2⟩ := hp
  obtain ⟨hq1, hq2⟩ := hq
  go_enter Try.func6, Try.ntmps6
  go_wp2_with fail
  refine (sanity_any _).mono ?_
  rintro e w1 ⟨rfl, hb⟩
  obtain ⟨k0, k1⟩ := box2 _ _ _ _ hb
  have B1 := Lib.hid (below_alloc (Below.refl _ w) (Nat.le_refl _) _ hb)
  clear hb
  have t1 : p.tmod 40 = p % 40 := Int.tmod_eq_emod_of_nonneg hp1
  have t2 : q.tmod 60 = q % 60 := Int.tmod_eq_emod_of_nonneg hq1
  go_wp2_with fail
  go_quiet (fail)
  clear k0 k1 t1 t2
  have e1 : 0 ≤ p % 40 := by omega
  have e2 : p % 40 ≤ 39 := by omega
  have n1 : 0 ≤ q % 60 := by omega
  have n2 : q % 60 ≤ 59 := by omega
  generalize p % 40 = e at *
  generalize q % 60 = n at *
  go_wp2_with fail
  have B2 := Lib.hid (below_drewN B1.out nq)
  clear B1
  generalize w1.drewN nq = w2 at *
  go_loopw [10, 11, 12, 27] (fun l a m i wr => ∃ k : Nat, (k : Int) ≤ n ∧ i = .int .i64 k ∧ l = .int .i64 (f - k) ∧ a = .int .i64 (s + k) ∧ m = .bool (withinB f s e k) ∧ At wr w2) (fun _ _ _ i _ => n.toNat - (intOf i).toNat)
  case atStart => exact ⟨0, by omega, rfl, by simp, by simp, by rw [show ((0 : Nat) : Int) = 0 from rfl, within_zero f s e hs1 hf1], rfl⟩
  case round =>
    obtain ⟨k, hk, rfl, rfl, rfl, rfl, hw⟩ := hrel
    obtain rfl : wr = w2 := hw
    by_cases hlt : (k : Int) < n
    · have hst := within_step f s e k hs1 (by omega)
      cases hb : withinB f s e k
      · have HN := Lib.hid (show withinB f s e ((k + 1 : Nat) : Int) = false by push_cast; rw [hst, hb]; rfl)
        clear hst hb
        go_wp2_with fail
        go_roundw
        case rel => exact ⟨k + 1, by omega, by go_num, by rw [show f - ((k + 1 : Nat) : Int) = f - k - 1 by push_cast; omega], by rw [show s + ((k + 1 : Nat) : Int) = s + k + 1 by push_cast; omega], by rw [HN.out], rfl⟩
        case measure => simp [intOf]; omega
      · cases hb1 : withinB (f - k) (s + k) e 1
        · have HN := Lib.hid (show withinB f s e ((k + 1 : Nat) : Int) = false by push_cast; rw [hst, hb, hb1]; rfl)
          have H1 := Lib.hid hb1
          clear hst hb hb1
          go_wp2_with fail
          refine (within_lit _ _ _ _ _ false ⟨by omega, by omega⟩ ⟨by omega, by omega⟩ ⟨by omega, by omega⟩ ⟨by omega, by omega⟩ H1.out).mono ?_
          rintro r w' ⟨rfl, rfl⟩
          go_wp2_with fail
          go_roundw
          case rel => exact ⟨k + 1, by omega, by go_num, by rw [show f - ((k + 1 : Nat) : Int) = f - k - 1 by push_cast; omega], by rw [show s + ((k + 1 : Nat) : Int) = s + k + 1 by push_cast; omega], by rw [HN.out], rfl⟩
          case measure => simp [intOf]; omega
        · cases hd : dueB (s + k + 1) e
          · have HN := Lib.hid (show withinB f s e ((k + 1 : Nat) : Int) = true by push_cast; rw [hst, hb, hb1, hd]; rfl)
            have H1 := Lib.hid hb1
            have H2 := Lib.hid hd
            clear hst hb hb1 hd
            go_wp2_with fail
            refine (within_lit _ _ _ _ _ true ⟨by omega, by omega⟩ ⟨by omega, by omega⟩ ⟨by omega, by omega⟩ ⟨by omega, by omega⟩ H1.out).mono ?_
            rintro r w' ⟨rfl, rfl⟩
            go_wp2_with fail
            refine (due_lit _ _ _ false ⟨by omega, by omega⟩ ⟨by omega, by omega⟩ H2.out).mono ?_
            rintro r w' ⟨rfl, rfl⟩
            go_wp2_with fail
            go_roundw
            case rel => exact ⟨k + 1, by omega, by go_num, by rw [show f - ((k + 1 : Nat) : Int) = f - k - 1 by push_cast; omega], by rw [show s + ((k + 1 : Nat) : Int) = s + k + 1 by push_cast; omega], by rw [HN.out], rfl⟩
            case measure => simp [intOf]; omega
          · have HN := Lib.hid (show withinB f s e ((k + 1 : Nat) : Int) = false by push_cast; rw [hst, hb, hb1, hd]; rfl)
            have H1 := Lib.hid hb1
            have H2 := Lib.hid hd
            clear hst hb hb1 hd
            go_wp2_with fail
            refine (within_lit _ _ _ _ _ true ⟨by omega, by omega⟩ ⟨by omega, by omega⟩ ⟨by omega, by omega⟩ ⟨by omega, by omega⟩ H1.out).mono ?_
            rintro r w' ⟨rfl, rfl⟩
            go_wp2_with fail
            refine (due_lit _ _ _ true ⟨by omega, by omega⟩ ⟨by omega, by omega⟩ H2.out).mono ?_
            rintro r w' ⟨rfl, rfl⟩
            go_wp2_with fail
            go_roundw
            case rel => exact ⟨k + 1, by omega, by go_num, by rw [show f - ((k + 1 : Nat) : Int) = f - k - 1 by push_cast; omega], by rw [show s + ((k + 1 : Nat) : Int) = s + k + 1 by push_cast; omega], by rw [HN.out], rfl⟩
            case measure => simp [intOf]; omega
    · have hge : n ≤ (k : Int) := by omega
      have hkn : (k : Int) = n := by omega
      have Z := Lib.hid (within_zero f s e hs1 hf1)
      cases hb : withinB f s e k
      · have H1 := Lib.hid (show withinB f s e n = false by rw [← hkn]; exact hb)
        clear hb hkn hlt
        go_wp2_with fail
        refine (within_lit _ _ _ _ _ false ⟨by omega, by omega⟩ ⟨by omega, by omega⟩ ⟨by omega, by omega⟩ ⟨by omega, by omega⟩ H1.out).mono ?_
        rintro r w' ⟨rfl, rfl⟩
        go_wp2_with fail
        refine (within_lit _ _ _ _ _ true ⟨by omega, by omega⟩ ⟨by omega, by omega⟩ ⟨by omega, by omega⟩ ⟨by omega, by omega⟩ Z.out).mono ?_
        rintro r w' ⟨rfl, rfl⟩
        go_wp2_with fail
        go_ret
        exact ⟨rfl, B2.out⟩
      · have H1 := Lib.hid (show withinB f s e n = true by rw [← hkn]; exact hb)
        clear hb hkn hlt
        go_wp2_with fail
        refine (within_lit _ _ _ _ _ true ⟨by omega, by omega⟩ ⟨by omega, by omega⟩ ⟨by omega, by omega⟩ ⟨by omega, by omega⟩ H1.out).mono ?_
        rintro r w' ⟨rfl, rfl⟩
        go_wp2_with fail
        refine (within_lit _ _ _ _ _ true ⟨by omega, by omega⟩ ⟨by omega, by omega⟩ ⟨by omega, by omega⟩ ⟨by omega, by omega⟩ Z.out).mono ?_
        rintro r w' ⟨rfl, rfl⟩
        go_wp2_with fail
        go_ret
        exact ⟨rfl, B2.out⟩
end Go.Proofs.Ytbpehdpcnnaidaa.Ac
