/-
  The walk of AccountDue.
-/
import Derived.Test.YtbpehdpcnnaidaaAx
namespace Go.Proofs.Ytbpehdpcnnaidaa.Ac
open Go Go.RowKit

def At (a b : World) : Prop := a = b
theorem div_bd (s e k : Int) (he : 0 < e) (hk : 0 ≤ k) (hke : k ≤ e) : 0 ≤ (s + k) / e - s / e ∧ (s + k) / e - s / e ≤ 1 := by
  have h1 := due_all s e he
  have h2 : s / e ≤ (s + k) / e := Int.ediv_le_ediv he (by omega)
  have h3 : (s + k) / e ≤ (s + e) / e := Int.ediv_le_ediv he (by omega)
  omega
set_option maxHeartbeats 4000000 in
theorem due_walk (c s : Int) (hc : 0 ≤ c ∧ c ≤ 255) (hs : 0 ≤ s ∧ s ≤ 4294967295) (w : World) :
    Calls Try.prog 7 #[.int .u8 c, .int .u32 s] w fun e w' => e = .returned (.bool true) ∧ Below w.heap.size w w' := by
  obtain ⟨hc1, hc2⟩ := hc
  obtain ⟨hs1, hs2⟩ := hs
  have b1 : 0 ≤ c % 50 := by omega
  have b2 : c % 50 ≤ 49 := by omega
  go_enter Try.func7, Try.ntmps7
  go_wp2_with fail
  refine (sanity_any _).mono ?_
  rintro r w1 ⟨rfl, hb⟩
  have B1 := Lib.hid hb
  clear hb
  go_wp2_with fail
  have b3 : 1 ≤ c % 50 + 1 := by omega
  have b4 : c % 50 + 1 ≤ 50 := by omega
  generalize c % 50 + 1 = e at *
  clear b1 b2
  go_loopw [7, 15] (fun m i wr => ∃ k : Nat, (k : Int) ≤ e ∧ i = .int .i64 k ∧ m = .int .i64 ((s + k) / e - s / e) ∧ At wr w1) (fun _ i _ => e.toNat - (intOf i).toNat)
  case atStart => exact ⟨0, by omega, rfl, by simp, rfl⟩
  case round =>
    obtain ⟨k, hk, rfl, rfl, hw⟩ := hrel
    obtain rfl : wr = w1 := hw
    by_cases hlt : (k : Int) < e
    · have hcnt := due_count s e k (by omega) (by omega) (by omega)
      obtain ⟨d1, d2⟩ := div_bd s e k (by omega) (by omega) (by omega)
      obtain ⟨d3, d4⟩ := div_bd s e (k + 1) (by omega) (by omega) (by omega)
      cases hd : dueB (s + 1 + k) e
      · have HC := Lib.hid (show (s + ((k + 1 : Nat) : Int)) / e - s / e = (s + k) / e - s / e by rw [hd] at hcnt; push_cast; rw [hcnt]; simp)
        have HD := Lib.hid hd
        clear hcnt hd
        generalize (s + (k : Int)) / e - s / e = q at *
        clear d3 d4
        go_wp2_with fail
        refine (due_lit _ _ _ false ⟨by omega, by omega⟩ ⟨by omega, by omega⟩ HD.out).mono ?_
        rintro r w' ⟨rfl, rfl⟩
        go_wp2_with fail
        go_roundw
        case rel => exact ⟨k + 1, by omega, by go_num, by rw [HC.out], rfl⟩
        case measure => simp [intOf]; omega
      · have HC := Lib.hid (show (s + ((k + 1 : Nat) : Int)) / e - s / e = (s + k) / e - s / e + 1 by rw [hd] at hcnt; push_cast; rw [hcnt]; simp)
        have HD := Lib.hid hd
        clear hcnt hd
        generalize (s + (k : Int)) / e - s / e = q at *
        clear d3 d4
        go_wp2_with fail
        refine (due_lit _ _ _ true ⟨by omega, by omega⟩ ⟨by omega, by omega⟩ HD.out).mono ?_
        rintro r w' ⟨rfl, rfl⟩
        go_wp2_with fail
        go_roundw
        case rel => exact ⟨k + 1, by omega, by go_num, by rw [HC.out], rfl⟩
        case measure => simp [intOf]; omega
    · have hge : e ≤ (k : Int) := by omega
      have hk : (k : Int) = e := by omega
      have H1 : (s + (k : Int)) / e - s / e = 1 := by rw [hk]; exact due_all s e (by omega)
      have M := Lib.hid (show dueB (e * (1 + s)) e = true by
        unfold dueB; rw [decide_eq_true_eq]
        refine ⟨by omega, Int.mul_pos (by omega) (by omega), Int.mul_emod_right _ _⟩)
      have m1 : 0 ≤ e * (1 + s) := Int.mul_nonneg (by omega) (by omega)
      have m2 : e * (1 + s) ≤ 50 * 4294967296 := Int.mul_le_mul b4 (by omega) (by omega) (by omega)
      rw [H1]
      clear H1 hk hlt
      go_wp2_with fail
      refine (due_lit _ _ _ false ⟨by omega, by omega⟩ ⟨by omega, by omega⟩ (by unfold dueB; rw [decide_eq_false_iff_not]; omega)).mono ?_
      rintro r w' ⟨rfl, rfl⟩
      go_wp2_with fail
      refine (due_lit _ _ _ false ⟨by omega, by omega⟩ ⟨by omega, by omega⟩ (by unfold dueB; rw [decide_eq_false_iff_not]; omega)).mono ?_
      rintro r w' ⟨rfl, rfl⟩
      go_wp2_with fail
      refine (due_lit _ _ _ true ⟨by omega, by omega⟩ ⟨by omega, by omega⟩ M.out).mono ?_
      rintro r w' ⟨rfl, rfl⟩
      go_wp2_with fail
      go_ret
      exact ⟨rfl, B1.out⟩
end Go.Proofs.Ytbpehdpcnnaidaa.Ac
