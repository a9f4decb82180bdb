/-
  Laws of the answers: sums, products and equality do not depend on the order; quotient and rest make the number again; not and neg undo themselves.
-/
import Derived.Test.YtfgdloliconbaaaGreatDoorUb
import Derived.Test.YtfgdloliconbaaaGreatDoorVp
namespace Go.Proofs.YtfgdloliconbaaaGreatDoor.Va
open Go Go.RowKit Mp

theorem veq_comm (ka na kb nb : Int) (sa sb : ByteArray) : veq ka na kb nb sa sb = veq kb nb ka na sb sa := by
  unfold veq
  rw [decide_eq_decide.2 (eq_comm (a := ka)), decide_eq_decide.2 (eq_comm (a := na)), decide_eq_decide.2 (eq_comm (a := sa.data.toList))]
theorem right_facts {k n : Int} {s : ByteArray} (h : rightB k n s = true) : bndB k n = true ∧ (k ≠ 4 → s = es) := by
  unfold rightB at h
  simp only [Bool.and_eq_true, Bool.or_eq_true, decide_eq_true_eq] at h
  refine ⟨h.1.1, fun hk => ?_⟩
  have h2 := h.1.2.resolve_left hk
  obtain ⟨⟨l⟩⟩ := s
  simp only [List.isEmpty_iff] at h2
  subst h2; rfl
theorem right_int {n : Int} {s : ByteArray} (h : rightB 3 n s = true) : s = es ∧ -1000000000000000 ≤ n ∧ n ≤ 1000000000000000 := by
  obtain ⟨h1, h2⟩ := right_facts h
  unfold bndB at h1
  simp only [decide_eq_true_eq] at h1
  exact ⟨h2 (by decide), by omega⟩
theorem right_bool {n : Int} {s : ByteArray} (h : rightB 2 n s = true) : s = es ∧ 0 ≤ n ∧ n ≤ 1 := by
  obtain ⟨h1, h2⟩ := right_facts h
  unfold bndB at h1
  simp only [decide_eq_true_eq] at h1
  exact ⟨h2 (by decide), by omega⟩
theorem okk {a : Int} (h : -1000000000000000 ≤ a ∧ a ≤ 1000000000000000) : ok15 a = true := by unfold ok15; simp; omega
theorem div_mul_le (x y : Int) (hx : 0 < x) : y ≤ 1000000000000000 / x ↔ y * x ≤ 1000000000000000 := Int.le_ediv_iff_mul_le hx
theorem ints7 (a b : Int) : ints3 7 a b = if b = 0 then (i3 0, es) else if (a.natAbs : Int) ≤ 1000000000000000 / (b.natAbs : Int) then (i3 (a * b), es) else (z3, rangeS) := rfl
theorem mul_comm7 (a b : Int) : ints3 7 a b = ints3 7 b a := by
  rw [ints7, ints7]
  by_cases ha : a = 0 <;> by_cases hb : b = 0
  · rw [if_pos ha, if_pos hb]
  · subst ha
    rw [if_neg hb, if_pos rfl, if_pos (by have := Int.ediv_nonneg (a := 1000000000000000) (b := (b.natAbs : Int)) (by decide) (by omega); simpa using this), Int.zero_mul]
  · subst hb
    rw [if_pos rfl, if_neg ha, if_pos (by have := Int.ediv_nonneg (a := 1000000000000000) (b := (a.natAbs : Int)) (by decide) (by omega); simpa using this), Int.zero_mul]
  · rw [if_neg ha, if_neg hb, Int.mul_comm b a]
    have e : ((a.natAbs : Int) ≤ 1000000000000000 / (b.natAbs : Int)) = ((b.natAbs : Int) ≤ 1000000000000000 / (a.natAbs : Int)) := by
      rw [eq_iff_iff, div_mul_le _ _ (by omega), div_mul_le _ _ (by omega), Int.mul_comm]
    simp only [e]
def commutes (op : Int) : Prop := op = 5 ∨ op = 7 ∨ op = 12 ∨ op = 13 ∨ op = 11
theorem bin_comm {op : Int} (ho : commutes op) (a b : V3) : bin op a b = bin op b a := by
  unfold bin
  simp only [Or.comm (a := b.1 = 0), Or.comm (a := right3 b = false), veq_comm b.1]
  by_cases h0 : a.1 = 0 ∨ b.1 = 0
  · rw [if_pos h0, if_pos h0]
  rw [if_neg h0, if_neg h0]
  by_cases h1 : right3 a = false ∨ right3 b = false
  · rw [if_pos h1, if_pos h1]
  rw [if_neg h1, if_neg h1]
  by_cases h11 : op = 11
  · rw [if_pos h11, if_pos h11]
  rw [if_neg h11, if_neg h11]
  by_cases hk : a.1 = b.1
  · have hk' := hk.symm
    rw [if_neg (show ¬ a.1 ≠ b.1 from fun h => h hk), if_neg (show ¬ b.1 ≠ a.1 from fun h => h hk'), hk]
    by_cases h2 : b.1 = 2
    · rw [if_pos h2, if_pos h2]
      unfold bools3
      rw [Bool.and_comm, Bool.or_comm]
    rw [if_neg h2, if_neg h2]
    by_cases h3 : b.1 = 3
    · rw [if_pos h3, if_pos h3]
      rcases ho with rfl | rfl | rfl | rfl | rfl
      · unfold ints3; rw [if_pos rfl, if_pos rfl, Int.add_comm]
      · exact mul_comm7 _ _
      · rfl
      · rfl
      · exact absurd rfl h11
    rw [if_neg h3, if_neg h3]
    by_cases h4 : b.1 = 4
    · rw [if_pos h4, if_pos h4]
      rcases ho with rfl | rfl | rfl | rfl | rfl <;> rfl
    rw [if_neg h4, if_neg h4]
  · rw [if_pos hk, if_pos (fun h => hk h.symm)]
theorem bin7 {a b : Int} (ha : -1000000000000000 ≤ a ∧ a ≤ 1000000000000000) (hb : -1000000000000000 ≤ b ∧ b ≤ 1000000000000000) (h0 : b ≠ 0) (hm : -1000000000000000 ≤ a * b ∧ a * b ≤ 1000000000000000) : bin 7 (3, a, es) (3, b, es) = ((3, a * b, es), es) := by
  rw [bin_ints (okk ha) (okk hb) (by decide), ints7, if_neg h0, if_pos]
  · rfl
  · rw [Int.le_ediv_iff_mul_le (by omega)]
    have h := Int.natAbs_mul a b
    have : (a.natAbs : Int) * (b.natAbs : Int) = ((a * b).natAbs : Int) := by rw [h]; push_cast; rfl
    omega
theorem bin5 {a b : Int} (ha : -1000000000000000 ≤ a ∧ a ≤ 1000000000000000) (hb : -1000000000000000 ≤ b ∧ b ≤ 1000000000000000) (hm : -1000000000000000 ≤ a + b ∧ a + b ≤ 1000000000000000) : bin 5 (3, a, es) (3, b, es) = ((3, a + b, es), es) := by
  rw [bin_ints (okk ha) (okk hb) (by decide)]
  show within3 (a + b) = _
  unfold within3
  rw [if_pos (okk hm)]; rfl
/-- The quotient's fault is the rest's; where there is none, b times the quotient and the rest make a. -/
theorem div_mod (a b : V3) : ∃ (q r k : Int) (f : ByteArray), bin 8 a b = ((k, q, es), f) ∧ bin 9 a b = ((k, r, es), f) ∧
    (f.data.toList ≠ [] ∨ f = es ∧ k = 3 ∧ ∃ p, bin 7 (3, q, es) b = ((3, p, es), es) ∧ bin 5 (3, p, es) (3, r, es) = (a, es)) := by
  by_cases h0 : a.1 = 0 ∨ b.1 = 0
  · unfold bin
    simp only [if_pos h0]
    exact ⟨0, 0, 0, unsetS, rfl, rfl, .inl (by decide)⟩
  by_cases h1 : right3 a = false ∨ right3 b = false
  · unfold bin
    simp only [if_neg h0, if_pos h1]
    exact ⟨0, 0, 0, typeS, rfl, rfl, .inl (by decide)⟩
  by_cases hk : a.1 ≠ b.1
  · unfold bin
    simp only [if_neg h0, if_neg h1, if_neg (show ¬ (8 : Int) = 11 by decide), if_neg (show ¬ (9 : Int) = 11 by decide), if_pos hk]
    exact ⟨0, 0, 0, typeS, rfl, rfl, .inl (by decide)⟩
  obtain ⟨ka, na, sa⟩ := a
  obtain ⟨kb, nb, sb⟩ := b
  simp only [ne_eq, Decidable.not_not] at hk
  subst hk
  simp only [not_or, Bool.not_eq_false] at h1
  obtain ⟨ra, rb⟩ := h1
  unfold right3 at ra rb
  simp only at ra rb
  by_cases h3 : ka = 3
  · subst h3
    obtain ⟨rfl, ha⟩ := right_int ra
    obtain ⟨rfl, hb⟩ := right_int rb
    by_cases hz : nb = 0
    · subst hz
      rw [bin_ints (okk ha) (okk hb) (by decide), bin_ints (okk ha) (okk hb) (by decide)]
      exact ⟨0, 0, 0, zeroS, rfl, rfl, .inl (by decide)⟩
    · have hq := ok_div nb ha
      have hr := ok_mod nb ha
      unfold ok15 at hq hr
      simp only [Bool.and_eq_true, decide_eq_true_eq] at hq hr
      have e := Int.tdiv_mul_add_tmod na nb
      have hm : -1000000000000000 ≤ na.tdiv nb * nb ∧ na.tdiv nb * nb ≤ 1000000000000000 := by
        have h := Int.natAbs_tdiv_le_natAbs na nb
        have := Int.natAbs_mul (na.tdiv nb) nb
        have h2 : (na.tdiv nb).natAbs * nb.natAbs ≤ na.natAbs := by rw [Int.natAbs_tdiv]; exact Nat.div_mul_le_self _ _
        omega
      rw [bin_ints (okk ha) (okk hb) (by decide), bin_ints (okk ha) (okk hb) (by decide)]
      refine ⟨na.tdiv nb, na.tmod nb, 3, es, ?_, ?_, .inr ⟨rfl, rfl, na.tdiv nb * nb, bin7 hq hb hz hm, ?_⟩⟩
      · show (if nb = 0 then _ else _) = _
        rw [if_neg hz]; rfl
      · show (if nb = 0 then _ else _) = _
        rw [if_neg hz]; rfl
      · have h5 := bin5 (a := na.tdiv nb * nb) (b := na.tmod nb) hm hr (by omega)
        rw [e] at h5
        exact h5
  · have h : ∀ op, op = 8 ∨ op = 9 → bin op (ka, na, sa) (ka, nb, sb) = ((0, 0, es), typeS) := by
      intro op ho
      have h11 : op ≠ 11 := by omega
      unfold bin right3
      simp only [ra, rb, Bool.true_eq_false, or_self, if_false, if_neg h11, if_neg h3, ne_eq, not_true_eq_false]
      unfold bools3 strs3
      rcases ho with rfl | rfl
      all_goals (repeat' split)
      all_goals first | rfl | omega
    rw [h 8 (.inl rfl), h 9 (.inr rfl)]
    exact ⟨0, 0, 0, typeS, rfl, rfl, .inl (by decide)⟩
/-- Not and neg undo themselves where they answer. -/
theorem un_un {op : Int} (ho : op = 3 ∨ op = 4) (a : V3) : ∃ (k n : Int) (h : ByteArray), un op a = ((k, n, es), h) ∧ (h.data.toList ≠ [] ∨ h = es ∧ un op (k, n, es) = (a, es)) := by
  obtain ⟨k, n, s⟩ := a
  by_cases h0 : k = 0
  · unfold un; simp only [if_pos h0]; exact ⟨0, 0, unsetS, rfl, .inl (by decide)⟩
  by_cases hr : right3 (k, n, s) = false
  · unfold un; simp only [if_neg h0, if_pos hr]; exact ⟨0, 0, typeS, rfl, .inl (by decide)⟩
  by_cases h2 : k = 2 ∧ op = 3
  · obtain ⟨rfl, rfl⟩ := h2
    obtain ⟨rfl, hb⟩ := right_bool (by simpa [right3] using hr)
    rcases (show n = 0 ∨ n = 1 by omega) with rfl | rfl
    · exact ⟨2, 1, es, by decide +kernel, .inr ⟨rfl, by decide +kernel⟩⟩
    · exact ⟨2, 0, es, by decide +kernel, .inr ⟨rfl, by decide +kernel⟩⟩
  by_cases h3 : k = 3 ∧ op = 4
  · obtain ⟨rfl, rfl⟩ := h3
    obtain ⟨rfl, hb⟩ := right_int (by simpa [right3] using hr)
    have hu : ∀ m : Int, -1000000000000000 ≤ m ∧ m ≤ 1000000000000000 → un 4 (3, m, es) = ((3, -m, es), es) := by
      intro m hm
      unfold un right3
      simp only [right_i (okk hm), Bool.true_eq_false, if_false, and_true]
      rfl
    refine ⟨3, -n, es, hu n hb, .inr ⟨rfl, ?_⟩⟩
    rw [hu (-n) (by omega), Int.neg_neg]
  · unfold un
    simp only [if_neg h0, if_neg hr, if_neg h2, if_neg h3]
    exact ⟨0, 0, typeS, rfl, .inl (by decide)⟩
end Go.Proofs.YtfgdloliconbaaaGreatDoor.Va
