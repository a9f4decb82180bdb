/-
  Plain mathematics of layer 6: when there is an epoch, what fits, what can be executed without a stop.
-/
import Derived.Test.YtkdpcnikgdbmaaaGreatDoorProg
namespace Go.Proofs.YtkdpcnikgdbmaaaGreatDoor.Ac
def dueB (s e : Int) : Bool := decide (0 < e ∧ 0 < s ∧ s % e = 0)
def withinB (f s e n : Int) : Bool := decide (0 ≤ n ∧ n ≤ f ∧ (e ≤ 0 ∨ (s < 0 ∧ s + n < e) ∨ (0 ≤ s ∧ n < e - s % e)))
def fitsB (u l z : Int) : Bool := decide (0 ≤ z ∧ u + z ≤ l)
theorem mod_bd (s e : Int) (he : 0 < e) : 0 ≤ s % e ∧ s % e < e := ⟨Int.emod_nonneg _ (by omega), Int.emod_lt_of_pos _ he⟩
theorem mod_add {s e k : Int} (he : 0 < e) (hk : 0 ≤ k) (h : s % e + k < e) : (s + k) % e = s % e + k := by
  have h1 := mod_bd s e he
  rw [Int.add_emod]
  have hk1 : k % e = k := Int.emod_eq_of_lt hk (by omega)
  rw [hk1, Int.emod_eq_of_lt (by omega) h]
theorem mod_add' {s e k : Int} (h : s % e + k = e) : (s + k) % e = 0 := by
  rw [← Int.emod_add_mul_ediv s e] at *
  have h2 : s % e + e * (s / e) + k = e * (s / e + 1) := by rw [Int.mul_add, Int.mul_one]; simp at h; omega
  rw [h2]; exact Int.mul_emod_right _ _
/-- One line more can be executed without a stop. -/
theorem within_step (f s e n : Int) (hs : 0 ≤ s) (hn : 0 ≤ n) :
    withinB f s e (n + 1) = (withinB f s e n && (withinB (f - n) (s + n) e 1 && !dueB (s + n + 1) e)) := by
  unfold withinB dueB
  rw [Bool.eq_iff_iff]
  simp only [Bool.and_eq_true, Bool.not_eq_true', decide_eq_true_eq, decide_eq_false_iff_not]
  by_cases he : e ≤ 0
  · omega
  · have he0 : 0 < e := by omega
    have b0 := mod_bd s e he0
    by_cases h : n < e - s % e
    · have m1 := mod_add (s := s) (k := n) he0 hn (by omega)
      by_cases h2 : n + 1 < e - s % e
      · have m2 := mod_add (s := s) (k := n + 1) he0 (by omega) (by omega)
        rw [← Int.add_assoc] at m2
        omega
      · have m2 := mod_add' (s := s) (e := e) (k := n + 1) (by omega)
        rw [← Int.add_assoc] at m2
        omega
    · omega
theorem within_zero (f s e : Int) (hs : 0 ≤ s) (hf : 0 ≤ f) : withinB f s e 0 = true := by
  unfold withinB
  rw [decide_eq_true_eq]
  by_cases he : e ≤ 0
  · omega
  · have b0 := mod_bd s e (by omega); omega
/-- How many of the lines s + 1 to s + k have an epoch behind them. -/
theorem due_count (s e k : Int) (he : 0 < e) (hs : 0 ≤ s) (hk : 0 ≤ k) :
    (s + (k + 1)) / e - s / e = ((s + k) / e - s / e) + if dueB (s + 1 + k) e = true then 1 else 0 := by
  have e1 : s + 1 + k = s + k + 1 := by omega
  have e2 : s + (k + 1) = s + k + 1 := by omega
  rw [e1, e2]
  have b0 := mod_bd (s + k) e he
  have d0 := Int.emod_add_mul_ediv (s + k) e
  have d1 := Int.emod_add_mul_ediv (s + k + 1) e
  by_cases h : (s + k) % e + 1 < e
  · have m := mod_add (s := s + k) (k := 1) he (by omega) h
    have hd : dueB (s + k + 1) e = false := by unfold dueB; rw [decide_eq_false_iff_not]; omega
    rw [if_neg (by rw [hd]; decide)]
    have : e * ((s + k + 1) / e) = e * ((s + k) / e) := by omega
    have := Int.eq_of_mul_eq_mul_left (by omega) this
    omega
  · have m := mod_add' (s := s + k) (e := e) (k := 1) (by omega)
    have hd : dueB (s + k + 1) e = true := by unfold dueB; rw [decide_eq_true_eq]; omega
    rw [if_pos hd]
    have : e * ((s + k + 1) / e) = e * ((s + k) / e + 1) := by rw [Int.mul_add, Int.mul_one]; omega
    have := Int.eq_of_mul_eq_mul_left (by omega) this
    omega
theorem due_all (s e : Int) (he : 0 < e) : (s + e) / e - s / e = 1 := by
  have := Int.add_mul_ediv_right s 1 (show e ≠ 0 by omega)
  rw [Int.one_mul] at this; omega
/-- The reference's own form of withinB. -/
theorem within_ref (f s e n : Int) (h0 : 0 ≤ n) (h1 : n ≤ f) (lines fr : Int) (hl : lines = if s < 0 then max 0 (n + s) else n) (hf : fr = max s 0) (he : ¬ e ≤ 0) (hz : ¬ lines = 0) :
    (decide (lines / e = 0) && decide (lines % e < e - fr % e)) = withinB f s e n := by
  unfold withinB
  rw [Bool.eq_iff_iff]
  simp only [Bool.and_eq_true, decide_eq_true_eq]
  have he0 : 0 < e := by omega
  have hlp : 0 ≤ lines := by rw [hl]; split <;> omega
  have b0 := mod_bd lines e he0
  have d0 := Int.emod_add_mul_ediv lines e
  have hq : lines / e = 0 ↔ lines < e := by
    constructor
    · intro h; rw [h] at d0; omega
    · intro h; exact Int.ediv_eq_zero_of_lt hlp h
  have hm : lines < e → lines % e = lines := fun h => Int.emod_eq_of_lt hlp h
  rw [hq]
  by_cases hs : s < 0
  · rw [if_pos hs] at hl
    have : fr = 0 := by omega
    rw [this, Int.zero_emod]
    constructor
    · rintro ⟨a, b⟩; omega
    · intro h
      have : lines < e := by omega
      exact ⟨this, by rw [hm this]; omega⟩
  · rw [if_neg hs] at hl
    have : fr = s := by omega
    rw [this]
    have b1 := mod_bd s e he0
    constructor
    · rintro ⟨a, b⟩; rw [hm a] at b; omega
    · intro h
      have : lines < e := by omega
      exact ⟨this, by rw [hm this]; omega⟩
theorem within_ref0 (f s e n : Int) (h0 : 0 ≤ n) (h1 : n ≤ f) (lines : Int) (hl : lines = if s < 0 then max 0 (n + s) else n) (h : e ≤ 0 ∨ lines = 0) : withinB f s e n = true := by
  unfold withinB
  rw [decide_eq_true_eq]
  by_cases he : e ≤ 0
  · omega
  · have b1 := mod_bd s e (by omega)
    by_cases hs : s < 0
    · rw [if_pos hs] at hl; omega
    · rw [if_neg hs] at hl; omega
end Go.Proofs.YtkdpcnikgdbmaaaGreatDoor.Ac
