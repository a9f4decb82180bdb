/-
  Contracts of package account over ints alone: Due, Within, Fits.
-/
import Derived.Test.YtbpehdpcnnaidaaDoorAi
namespace Go.Proofs.YtbpehdpcnnaidaaDoor.Ac
open Go Go.RowKit

theorem due_any (s e : Int) (hs : I64 s) (he : I64 e) (w : World) :
    Calls Tryd.prog 10 #[.int .i64 s, .int .i64 e] w fun r w' => r = .returned (.bool (dueB s e)) ∧ w = w' := by
  obtain ⟨hs1, hs2⟩ := hs
  obtain ⟨he1, he2⟩ := he
  by_cases h1 : s ≤ 0
  · go_enter Tryd.func10, Tryd.ntmps10
    go_wp2
    go_ret
    exact ⟨ret_bool (by unfold dueB; symm; rw [decide_eq_false_iff_not]; omega), rfl⟩
  · by_cases h2 : e ≤ 0
    · go_enter Tryd.func10, Tryd.ntmps10
      go_wp2
      go_ret
      exact ⟨ret_bool (by unfold dueB; symm; rw [decide_eq_false_iff_not]; omega), rfl⟩
    · have h3 : 1 ≤ e := by omega
      have h4 : 1 ≤ s := by omega
      go_enter Tryd.func10, Tryd.ntmps10
      go_wp2
      go_ret
      exact ⟨ret_bool (by
        unfold dueB; rw [Bool.eq_iff_iff]; simp only [decide_eq_true_eq, beq_iff_eq]; omega), rfl⟩
theorem within_any (f s e n : Int) (hf : I64 f) (hs : I64 s) (he : I64 e) (hn : I64 n) (w : World) :
    Calls Tryd.prog 11 #[.int .i64 f, .int .i64 s, .int .i64 e, .int .i64 n] w fun r w' => r = .returned (.bool (withinB f s e n)) ∧ w = w' := by
  obtain ⟨hf1, hf2⟩ := hf
  obtain ⟨hs1, hs2⟩ := hs
  obtain ⟨he1, he2⟩ := he
  obtain ⟨hn1, hn2⟩ := hn
  by_cases h1 : n < 0
  · go_enter Tryd.func11, Tryd.ntmps11
    go_wp2
    go_ret
    exact ⟨ret_bool (by unfold withinB; symm; rw [decide_eq_false_iff_not]; omega), rfl⟩
  · by_cases h2 : f < n
    · go_enter Tryd.func11, Tryd.ntmps11
      go_wp2
      go_ret
      exact ⟨ret_bool (by unfold withinB; symm; rw [decide_eq_false_iff_not]; omega), rfl⟩
    · by_cases h3 : e ≤ 0
      · go_enter Tryd.func11, Tryd.ntmps11
        go_wp2
        go_ret
        exact ⟨ret_bool (by unfold withinB; symm; rw [decide_eq_true_eq]; omega), rfl⟩
      · have h3' : 1 ≤ e := by omega
        have b := mod_bd s e (by omega)
        by_cases h4 : s < 0
        · go_enter Tryd.func11, Tryd.ntmps11
          go_wp2
          go_ret
          exact ⟨ret_bool (by unfold withinB; rw [decide_eq_decide]; omega), rfl⟩
        · go_enter Tryd.func11, Tryd.ntmps11
          go_wp2
          go_ret
          exact ⟨ret_bool (by unfold withinB; rw [decide_eq_decide]; omega), rfl⟩
theorem wrap_u (x : Int) (h : -9223372036854775808 ≤ x) (h' : x ≤ 9223372036854775807) : IntKind.u64.wrap x = if x < 0 then x + 18446744073709551616 else x := by
  simp only [IntKind.wrap_u64]; split <;> omega
theorem fits_any (u l z : Int) (hu : I64 u) (hl : I64 l) (hz : I64 z) (w : World) :
    Calls Tryd.prog 14 #[.int .i64 u, .int .i64 l, .int .i64 z] w fun r w' => r = .returned (.bool (fitsB u l z)) ∧ w = w' := by
  obtain ⟨hu1, hu2⟩ := hu
  obtain ⟨hl1, hl2⟩ := hl
  obtain ⟨hz1, hz2⟩ := hz
  by_cases h1 : z < 0
  · go_enter Tryd.func14, Tryd.ntmps14
    go_wp2
    go_ret
    exact ⟨ret_bool (by unfold fitsB; symm; rw [decide_eq_false_iff_not]; omega), rfl⟩
  · by_cases h2 : l < u
    · go_enter Tryd.func14, Tryd.ntmps14
      go_wp2
      go_ret
      exact ⟨ret_bool (by unfold fitsB; symm; rw [decide_eq_false_iff_not]; omega), rfl⟩
    · go_enter Tryd.func14, Tryd.ntmps14
      go_wp2
      go_ret
      refine ⟨ret_bool ?_, rfl⟩
      unfold fitsB
      rw [decide_eq_decide]
      simp only [IntKind.wrap_u64]
      omega
end Go.Proofs.YtbpehdpcnnaidaaDoor.Ac
