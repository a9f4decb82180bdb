/-
  The text of a right value is read as this value; the text of another one is empty, and not read.
-/
import Derived.Test.YtibjhcgfjhbgoaaGreatDoorTm
namespace Go.Proofs.YtibjhcgfjhbgoaaGreatDoor.Va
open Go Go.RowKit Mp

theorem bs_toList (l : List UInt8) : (bs l).toList = l := by rw [ByteArray.toList_eq, bs_list]
theorem bs_tail (c : UInt8) (l : List UInt8) : ((bs (c :: l)).extract 1 (bs (c :: l)).size).data.toList = l := by
  rw [Lib.extract_data, bs_list, bs_size]; simp
theorem tx_0 {n : Int} (h : rightB 0 n es = true) : text3 (0, n, es) = [117, 110, 115, 101, 116] := by
  unfold text3 right3; simp only; rw [if_neg (by rw [h]; decide)]; rfl
theorem tx_1 {n : Int} (h : rightB 1 n es = true) : text3 (1, n, es) = [110, 105, 108] := by
  unfold text3 right3; simp only; rw [if_neg (by rw [h]; decide)]; rfl
theorem tx_2 {n : Int} (h : rightB 2 n es = true) : text3 (2, n, es) = Lib.formatBool (n == 1) := by
  unfold text3 right3; simp only; rw [if_neg (by rw [h]; decide)]; rfl
theorem tx_3 {n : Int} (h : rightB 3 n es = true) : text3 (3, n, es) = Lib.itoa n := by
  unfold text3 right3; simp only; rw [if_neg (by rw [h]; decide)]; rfl
theorem tx_4 {n : Int} {s : ByteArray} (h : rightB 4 n s = true) : text3 (4, n, s) = 39 :: (quo s.data.toList ++ [39]) := by
  unfold text3 right3; simp only; rw [if_neg (by rw [h]; decide), quoted_eq]; rfl
theorem tx_5 {n : Int} (h : rightB 5 n es = true) : text3 (5, n, es) = 64 :: Lib.itoa n := by
  unfold text3 right3; simp only; rw [if_neg (by rw [h]; decide)]; rfl
theorem tx_6 {n : Int} (h : rightB 6 n es = true) : text3 (6, n, es) = 38 :: Lib.itoa n := by
  unfold text3 right3; simp only; rw [if_neg (by rw [h]; decide)]; rfl
theorem text_no {v : V3} (h : right3 v = false) : text3 v = [] := by unfold text3; rw [if_pos h]
theorem bnd_of {k n : Int} {s : ByteArray} (h : rightB k n s = true) : bndB k n = true := by
  unfold rightB at h
  simp only [Bool.and_eq_true] at h
  exact h.1.1
theorem num3_of {k n : Int} (h : -1000000000000000 ≤ n ∧ n ≤ 1000000000000000) : num3 k (Lib.itoa n) = (k, n, es) := by
  unfold num3; rw [atoi_itoa n h.1 h.2]
/-- The guess, by what a text begins with. -/
theorem guess_other (l : List UInt8) (h1 : l ≠ [110, 105, 108]) (h2 : l ≠ [116, 114, 117, 101]) (h3 : l ≠ [102, 97, 108, 115, 101]) :
    guess3 (bs l) = if Lib.hasPrefix l [39] = true then (4, 0, bs (Lib.replaceAll (inner (bs l)) [39, 39] [39]))
      else if Lib.hasPrefix l [64] = true then num3 5 ((bs l).extract 1 (bs l).size).data.toList
      else if Lib.hasPrefix l [38] = true then num3 6 ((bs l).extract 1 (bs l).size).data.toList else num3 3 l := by
  unfold guess3
  rw [bs_toList, bs_list, if_neg (by simpa using h1), if_neg (by simpa using h2), if_neg (by simpa using h3)]
theorem pre_cons (c d : UInt8) (l : List UInt8) : Lib.hasPrefix (c :: l) [d] = (d == c) := by
  unfold Lib.hasPrefix; simp [List.isPrefixOf]
theorem head_ne {c d : UInt8} {l r : List UInt8} (h : c ≠ d) : c :: l ≠ d :: r := fun e => h (by injection e)
theorem guess_text (v : V3) (h : right3 v = true) : guess3 (bs (text3 v)) = v := by
  obtain ⟨k, n, s⟩ := v
  unfold right3 at h
  simp only at h
  have hb := bnd_of h
  unfold bndB at hb
  simp only [decide_eq_true_eq] at hb
  rcases kinds_of h with ⟨rfl, rfl⟩ | ⟨rfl, rfl⟩ | ⟨rfl, rfl⟩ | ⟨rfl, rfl⟩ | rfl | ⟨rfl, rfl⟩ | ⟨rfl, rfl⟩
  · obtain rfl : n = 0 := by omega
    rw [tx_0 h]; decide +kernel
  · obtain rfl : n = 0 := by omega
    rw [tx_1 h]; decide +kernel
  · have hn : n = 0 ∨ n = 1 := by omega
    rcases hn with rfl | rfl <;> rw [tx_2 h] <;> decide +kernel
  · have hn : -1000000000000000 ≤ n ∧ n ≤ 1000000000000000 := by omega
    rw [tx_3 h]
    obtain ⟨c, r, e, hc⟩ := itoa_head n
    have hc' : ∀ d : UInt8, d.toNat = 110 ∨ d.toNat = 116 ∨ d.toNat = 102 ∨ d.toNat = 39 ∨ d.toNat = 64 ∨ d.toNat = 38 → c ≠ d := by
      rintro d hd rfl
      rcases hc with rfl | hc
      · revert hd; decide
      · omega
    have p : ∀ d : UInt8, d.toNat = 110 ∨ d.toNat = 116 ∨ d.toNat = 102 ∨ d.toNat = 39 ∨ d.toNat = 64 ∨ d.toNat = 38 → (d == c) = false := fun d hd => by simpa using (hc' d hd).symm
    rw [guess_other (Lib.itoa n) (by rw [e]; exact head_ne (hc' _ (by decide))) (by rw [e]; exact head_ne (hc' _ (by decide))) (by rw [e]; exact head_ne (hc' _ (by decide)))]
    rw [e, pre_cons, pre_cons, pre_cons, p 39 (by decide), p 64 (by decide), p 38 (by decide), ← e]
    simp only [Bool.false_eq_true, if_false]
    exact num3_of hn
  · obtain rfl : n = 0 := by omega
    rw [tx_4 h, guess_other _ (head_ne (by decide)) (head_ne (by decide)) (head_ne (by decide)), pre_cons, if_pos (by decide)]
    unfold inner
    rw [bs_tail, trim_end, unquoted, bs_of]
  · have hn : -1000000000000000 ≤ n ∧ n ≤ 1000000000000000 := by omega
    rw [tx_5 h, guess_other _ (head_ne (by decide)) (head_ne (by decide)) (head_ne (by decide)), pre_cons, pre_cons, if_neg (by decide), if_pos (by decide), bs_tail]
    exact num3_of hn
  · have hn : -1000000000000000 ≤ n ∧ n ≤ 1000000000000000 := by omega
    rw [tx_6 h, guess_other _ (head_ne (by decide)) (head_ne (by decide)) (head_ne (by decide)), pre_cons, pre_cons, pre_cons, if_neg (by decide), if_neg (by decide), if_pos (by decide), bs_tail]
    exact num3_of hn
theorem text_ne (v : V3) (h : right3 v = true) : text3 v ≠ [] := by
  obtain ⟨k, n, s⟩ := v
  unfold right3 at h
  simp only at h
  rcases kinds_of h with ⟨rfl, rfl⟩ | ⟨rfl, rfl⟩ | ⟨rfl, rfl⟩ | ⟨rfl, rfl⟩ | rfl | ⟨rfl, rfl⟩ | ⟨rfl, rfl⟩
  · rw [tx_0 h]; simp
  · rw [tx_1 h]; simp
  · rw [tx_2 h]; cases (n == 1) <;> decide
  · rw [tx_3 h]
    obtain ⟨c, r, e, _⟩ := itoa_head n
    rw [e]; simp
  · rw [tx_4 h]; simp
  · rw [tx_5 h]; simp
  · rw [tx_6 h]; simp
theorem guess_none : guess3 (bs []) = z3 := by decide +kernel
theorem text_z3 : text3 z3 = [117, 110, 115, 101, 116] := by decide +kernel
theorem read_text (v : V3) : read3 (bs (text3 v)) = if right3 v = true then (v, true) else (z3, false) := by
  unfold read3
  by_cases h : right3 v = true
  · rw [guess_text v h, if_pos (same_refl _), if_pos h]
  · rw [Bool.not_eq_true] at h
    rw [text_no h, guess_none, text_z3, if_neg (by decide), if_neg (by rw [h]; decide)]
/-- Two right values with one text are one value. -/
theorem text_inj {u v : V3} (hu : right3 u = true) (hv : right3 v = true) (h : text3 u = text3 v) : u = v := by
  rw [← guess_text u hu, ← guess_text v hv, h]
end Go.Proofs.YtibjhcgfjhbgoaaGreatDoor.Va
