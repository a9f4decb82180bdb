/-
  Contracts of the reference of layer 6 over ints alone: Due, Within, Fits.
-/
import Derived.Test.YtbpehdpcnnaidaaAi
namespace Go.Proofs.Ytbpehdpcnnaidaa.Ac
open Go Go.RowKit

theorem ref_due (s e : Int) (hs : I64 s) (he : I64 e) (w : World) :
    Calls Try.prog 18 #[.int .i64 s, .int .i64 e] w fun r w' => r = .returned (.bool (dueB s e)) ∧ w = w' := by
  obtain ⟨hs1, hs2⟩ := hs
  obtain ⟨he1, he2⟩ := he
  by_cases h1 : e ≤ 0
  · go_enter Try.func18, Try.ntmps18
    go_wp2
    go_ret
    exact ⟨ret_bool (by unfold dueB; symm; rw [decide_eq_false_iff_not]; omega), rfl⟩
  · by_cases h2 : s ≤ 0
    · go_enter Try.func18, Try.ntmps18
      go_wp2
      go_ret
      exact ⟨ret_bool (by unfold dueB; symm; rw [decide_eq_false_iff_not]; omega), rfl⟩
    · obtain ⟨q1, q2, q3, q4, q5⟩ := quo_mul s e (by omega) (by omega)
      have Q := Lib.hid q3
      clear q3
      have h3 : 1 ≤ e := by omega
      have h4 : 1 ≤ s := by omega
      go_enter Try.func18, Try.ntmps18
      go_wp2
      go_ret
      exact ⟨ret_bool (by
        unfold dueB; rw [Bool.eq_iff_iff]; simp only [decide_eq_true_eq]
        have := Q.out
        generalize s % e = r at *
        generalize s / e * e = q at *
        first | omega | (rw [beq_iff_eq]; omega)), rfl⟩
set_option maxHeartbeats 1000000 in
theorem ref_within (f s e n : Int) (hf : I64 f) (hs : I64 s) (he : I64 e) (hn : I64 n) (w : World) :
    Calls Try.prog 16 #[.int .i64 f, .int .i64 s, .int .i64 e, .int .i64 n] w fun r w' => r = .returned (.bool (withinB f s e n)) ∧ ∃ k, w' = w.drewN k := by
  obtain ⟨hf1, hf2⟩ := hf
  obtain ⟨hs1, hs2⟩ := hs
  obtain ⟨he1, he2⟩ := he
  obtain ⟨hn1, hn2⟩ := hn
  by_cases h1 : n < 0
  · go_enter Try.func16, Try.ntmps16
    go_wp2
    go_ret
    exact ⟨ret_bool (by unfold withinB; symm; rw [decide_eq_false_iff_not]; omega), 0, rfl⟩
  · by_cases h2 : f < n
    · go_enter Try.func16, Try.ntmps16
      go_wp2
      go_ret
      exact ⟨ret_bool (by unfold withinB; symm; rw [decide_eq_false_iff_not]; omega), 0, rfl⟩
    · by_cases h0 : e ≤ 0
      · have G := Lib.hid (within_ref0 f s e n (by omega) (by omega) _ rfl (.inl h0))
        by_cases h3 : s < 0
        · by_cases h4 : 0 < n + s
          all_goals
            go_enter Try.func16, Try.ntmps16
            go_wp2
            go_ret
            exact ⟨ret_bool G.out.symm, 0, rfl⟩
        · go_enter Try.func16, Try.ntmps16
          go_wp2
          go_ret
          exact ⟨ret_bool G.out.symm, 0, rfl⟩
      · have h0' : 1 ≤ e := by omega
        by_cases h3 : s < 0
        · by_cases h4 : 0 < n + s
          · have G := Lib.hid (within_ref f s e n (by omega) (by omega) (n + s) (0) (by rw [if_pos h3]; omega) (by omega) h0 (by omega))
            have hz : (n + s == 0) = false := by rw [beq_eq_false_iff_ne]; omega
            have hne : ¬ e = 0 := by omega
            have bL := mod_bd (n + s) e (by omega)
            have bF := mod_bd (0 : Int) e (by omega)
            have dL := Int.emod_add_mul_ediv (n + s) e
            have hz' : (0 : Int).tmod e = (0 : Int) % e := by rw [Int.tmod_eq_emod_of_nonneg (by omega)]
            have hw' : IntKind.i64.wrap (e - (0 : Int) % e) = e - (0 : Int) % e := IntWalk.i64_in _ (by omega)
            by_cases h5 : n + s < e
            · have hq : (n + s) / e = 0 := Int.ediv_eq_zero_of_lt (by omega) h5
              have hr : (n + s) % e = n + s := Int.emod_eq_of_lt (by omega) h5
              have G' := Lib.hid (show decide (n + s < e - (0 : Int) % e) = withinB f s e n by
                have := G.out; rw [hq, hr] at this; simpa using this)
              have hq' : IntKind.i64.wrap ((n + s).tdiv e) = 0 := by rw [Int.tdiv_eq_ediv_of_nonneg (by omega), hq]; rfl
              have hr' : (n + s).tmod e = n + s := by rw [Int.tmod_eq_emod_of_nonneg (by omega), hr]
              clear hq hr bL bF dL G
              go_enter Try.func16, Try.ntmps16
              go_wp2
              go_quiet (fail)
              clear hq' hr' hz' hw'
              go_wp2
              go_ret
              exact ⟨ret_bool (by rw [← G'.out]; try (symm; rw [decide_eq_true_eq, Int.zero_emod]; omega)), _, rfl⟩
            · have hq : ¬ (n + s) / e = 0 := by
                intro h; rw [h] at dL; omega
              have G' := Lib.hid (show false = withinB f s e n by
                have := G.out; rw [decide_eq_false hq] at this; simpa using this)
              have hq1 : 0 ≤ (n + s) / e := Int.ediv_nonneg (by omega) (by omega)
              have hq2 : (n + s) / e ≤ n + s := Int.ediv_le_self _ (by omega)
              obtain ⟨q, hq', hq0⟩ : ∃ q : Int, IntKind.i64.wrap ((n + s).tdiv e) = q ∧ (q == 0) = false := ⟨_, rfl, by rw [Int.tdiv_eq_ediv_of_nonneg (by omega), IntWalk.i64_in _ (by omega), beq_eq_false_iff_ne]; exact hq⟩
              clear hq hq1 hq2 bL bF dL G hz' hw'
              go_enter Try.func16, Try.ntmps16
              go_wp2
              go_quiet (fail)
              clear hq'
              go_wp2
              go_ret
              exact ⟨ret_bool (by rw [← G'.out]; try (symm; rw [decide_eq_true_eq, Int.zero_emod]; omega)), _, rfl⟩
          · have G := Lib.hid (within_ref0 f s e n (by omega) (by omega) _ rfl (.inr (by rw [if_pos h3]; omega)))
            go_enter Try.func16, Try.ntmps16
            go_wp2
            go_ret
            exact ⟨ret_bool G.out.symm, 0, rfl⟩
        · by_cases h4 : 0 < n
          · have G := Lib.hid (within_ref f s e n (by omega) (by omega) (n) (s) (by rw [if_neg h3]) (by omega) h0 (by omega))
            have hz : (n == 0) = false := by rw [beq_eq_false_iff_ne]; omega
            have hne : ¬ e = 0 := by omega
            have bL := mod_bd (n) e (by omega)
            have bF := mod_bd (s) e (by omega)
            have dL := Int.emod_add_mul_ediv (n) e
            have hz' : (s).tmod e = (s) % e := by rw [Int.tmod_eq_emod_of_nonneg (by omega)]
            have hw' : IntKind.i64.wrap (e - (s) % e) = e - (s) % e := IntWalk.i64_in _ (by omega)
            by_cases h5 : n < e
            · have hq : (n) / e = 0 := Int.ediv_eq_zero_of_lt (by omega) h5
              have hr : (n) % e = n := Int.emod_eq_of_lt (by omega) h5
              have G' := Lib.hid (show decide (n < e - (s) % e) = withinB f s e n by
                have := G.out; rw [hq, hr] at this; simpa using this)
              have hq' : IntKind.i64.wrap ((n).tdiv e) = 0 := by rw [Int.tdiv_eq_ediv_of_nonneg (by omega), hq]; rfl
              have hr' : (n).tmod e = n := by rw [Int.tmod_eq_emod_of_nonneg (by omega), hr]
              clear hq hr bL bF dL G
              go_enter Try.func16, Try.ntmps16
              go_wp2
              go_quiet (fail)
              clear hq' hr' hz' hw'
              go_wp2
              go_ret
              exact ⟨ret_bool (by rw [← G'.out]; try (symm; rw [decide_eq_true_eq, Int.zero_emod]; omega)), _, rfl⟩
            · have hq : ¬ (n) / e = 0 := by
                intro h; rw [h] at dL; omega
              have G' := Lib.hid (show false = withinB f s e n by
                have := G.out; rw [decide_eq_false hq] at this; simpa using this)
              have hq1 : 0 ≤ (n) / e := Int.ediv_nonneg (by omega) (by omega)
              have hq2 : (n) / e ≤ n := Int.ediv_le_self _ (by omega)
              obtain ⟨q, hq', hq0⟩ : ∃ q : Int, IntKind.i64.wrap ((n).tdiv e) = q ∧ (q == 0) = false := ⟨_, rfl, by rw [Int.tdiv_eq_ediv_of_nonneg (by omega), IntWalk.i64_in _ (by omega), beq_eq_false_iff_ne]; exact hq⟩
              clear hq hq1 hq2 bL bF dL G hz' hw'
              go_enter Try.func16, Try.ntmps16
              go_wp2
              go_quiet (fail)
              clear hq'
              go_wp2
              go_ret
              exact ⟨ret_bool (by rw [← G'.out]; try (symm; rw [decide_eq_true_eq, Int.zero_emod]; omega)), _, rfl⟩
          · obtain rfl : n = 0 := by omega
            have G := Lib.hid (within_ref0 f s e 0 (by omega) (by omega) _ rfl (.inr (by rw [if_neg h3])))
            go_enter Try.func16, Try.ntmps16
            go_wp2
            go_ret
            exact ⟨ret_bool G.out.symm, 0, rfl⟩
theorem ref_fits (u l z : Int) (hu : I64 u) (hl : I64 l) (hz : I64 z) (w : World) :
    Calls Try.prog 20 #[.int .i64 u, .int .i64 l, .int .i64 z] w fun r w' => r = .returned (.bool (fitsB u l z)) ∧ w = w' := by
  obtain ⟨hu1, hu2⟩ := hu
  obtain ⟨hl1, hl2⟩ := hl
  obtain ⟨hz1, hz2⟩ := hz
  by_cases h1 : z < 0
  · go_enter Try.func20, Try.ntmps20
    go_wp2
    go_ret
    exact ⟨ret_bool (by unfold fitsB; symm; rw [decide_eq_false_iff_not]; omega), rfl⟩
  · by_cases h2 : l < u
    · go_enter Try.func20, Try.ntmps20
      go_wp2
      go_ret
      exact ⟨ret_bool (by unfold fitsB; symm; rw [decide_eq_false_iff_not]; omega), rfl⟩
    · by_cases h3 : u < 0
      · by_cases h4 : 9223372036854775807 + u < l
        · go_enter Try.func20, Try.ntmps20
          go_wp2
          go_ret
          exact ⟨ret_bool (by unfold fitsB; symm; rw [decide_eq_true_eq]; omega), rfl⟩
        · go_enter Try.func20, Try.ntmps20
          go_wp2
          go_ret
          exact ⟨ret_bool (by unfold fitsB; rw [decide_eq_decide]; omega), rfl⟩
      · go_enter Try.func20, Try.ntmps20
        go_wp2
        go_ret
        exact ⟨ret_bool (by unfold fitsB; rw [decide_eq_decide]; omega), rfl⟩
end Go.Proofs.Ytbpehdpcnnaidaa.Ac
