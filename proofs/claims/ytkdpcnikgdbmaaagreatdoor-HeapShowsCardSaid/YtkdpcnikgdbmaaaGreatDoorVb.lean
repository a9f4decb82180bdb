/-
  Contracts of printable, Right, number, truth, size.
-/
import Derived.Test.YtkdpcnikgdbmaaaGreatDoorVa
import Derived.Test.YtkdpcnikgdbmaaaGreatDoorProg
import Derived.WalkKit
import Derived.WalkLawsBesides
import Derived.WalkSpells
import Derived.Deep.QuietTactic
import Derived.BigQuiet
import Derived.Lib.Hide
import Derived.WideShapes
namespace Go.Proofs.YtkdpcnikgdbmaaaGreatDoor.Va
open Go Go.RowKit

theorem ret_bool {a b : Bool} (h : a = b) : Ending.returned (.bool a) = Ending.returned (.bool b) := by rw [h]
theorem ret_int {k : IntKind} {a b : Int} (h : a = b) : Ending.returned (.int k a) = Ending.returned (.int k b) := by rw [h]

theorem printable_any (s : ByteArray) (w : World) (hs : s.size ≤ maxLen) :
    Calls Tryz.prog 126 #[.string s] w fun e w' => e = .returned (.bool (prtB s.data.toList)) ∧ w = w' := by
  unfold maxLen at hs
  by_cases hl : s.size ≤ 200
  · go_enter Tryz.func126, Tryz.ntmps126
    go_wp2
    go_loop [9] (fun i => ∃ k : Nat, k ≤ s.size ∧ i = .int .i64 k ∧ allB s.data.toList = allB (s.data.toList.drop k)) (fun i => s.size - (intOf i).toNat)
    case atStart => exact ⟨0, Nat.zero_le _, rfl, by simp⟩
    case round =>
      obtain ⟨k, hk, rfl, hr⟩ := hrel
      have HR := Lib.hid hr; clear hr
      by_cases hlt : k < s.size
      · go_wp2
        · go_ret
          exact ⟨ret_bool (by unfold prtB; rw [HR.out, all_stop s k hlt (by unfold chrB; simp; omega)]; simp), rfl⟩
        · go_round
          case rel => exact ⟨k + 1, by omega, by go_num, by rw [HR.out, all_step s k hlt (by unfold chrB; simp; omega)]⟩
          case measure => simp [intOf]; omega
        · go_ret
          exact ⟨ret_bool (by unfold prtB; rw [HR.out, all_stop s k hlt (by unfold chrB; simp; omega)]; simp), rfl⟩
      · go_wp2
        go_ret
        exact ⟨ret_bool (by unfold prtB; rw [HR.out, all_end s k hlt]; simp; exact hl), rfl⟩
  · go_enter Tryz.func126, Tryz.ntmps126
    go_wp2
    go_ret
    exact ⟨ret_bool (by unfold prtB; simp; intro h; omega), rfl⟩

/-- What the table 'bounds' holds. -/
def bv : Nat → Int
  | 5 => 1 | 6 => -1000000000000000 | 7 => 1000000000000000 | 11 => 1000000000 | 13 => 23 | _ => 0
def Bnds (w : World) : Prop := ∀ i : Nat, i < 14 → w.cell? ⟨0, i, none⟩ = some (.int .i64 (bv i))

theorem cell_lt {w : World} {b o : Nat} {v : Value} (h : w.cell? ⟨b, o, none⟩ = some v) : b < w.heap.size := by
  unfold World.cell? at h
  by_cases hb : b < w.heap.size
  · exact hb
  · rw [Array.getElem?_eq_none (by simpa using hb)] at h; simp at h
theorem Bnds.size {w : World} (h : Bnds w) : 0 < w.heap.size := cell_lt (h 0 (by omega))

theorem right_out (k n : Int) (s : ByteArray) (w : World) (hk : k < 0 ∨ 7 ≤ k) :
    Calls Tryz.prog 117 #[.agg #[.int .i64 k, .int .i64 n, .string s]] w fun e w' => e = .returned (.bool (rightB k n s)) ∧ Below w.heap.size w w' := by
  have hR : rightB k n s = false := by unfold rightB bndB; simp; omega
  have HR := Lib.hid hR; clear hR
  rcases hk with hk | hk
  all_goals
    go_enter Tryz.func117, Tryz.ntmps117
    go_wp2
    go_ret
    exact ⟨ret_bool HR.out.symm, (Below.refl _ _).alloc (Nat.le_refl _) _⟩

theorem right_full (k n : Int) (s : ByteArray) (w : World) (h0 : 0 ≤ k) (h7 : k < 7) (h4 : (k != 4) = true) (hs : (!s.toList.isEmpty) = true) :
    Calls Tryz.prog 117 #[.agg #[.int .i64 k, .int .i64 n, .string s]] w fun e w' => e = .returned (.bool (rightB k n s)) ∧ Below w.heap.size w w' := by
  go_enter Tryz.func117, Tryz.ntmps117
  go_wp2
  go_ret
  refine ⟨ret_bool ?_, (Below.refl _ _).alloc (Nat.le_refl _) _⟩
  have e4 : decide (k = 4) = false := by simpa using h4
  have es : s.data.toList.isEmpty = false := by
    have h : s.toList.isEmpty = false := by simpa using hs
    rwa [ByteArray.toList_eq] at h
  unfold rightB
  rw [e4, es]
  simp
theorem right_0 (n : Int) (w : World) (hB : Bnds w) :
    Calls Tryz.prog 117 #[.agg #[.int .i64 0, .int .i64 n, .string ⟨#[]⟩]] w fun e w' => e = .returned (.bool (rightB 0 n ⟨#[]⟩)) ∧ Below w.heap.size w w' := by
  have hz := hB.size
  have b0 := hB 0 (by omega)
  have b1 := hB 1 (by omega)
  unfold bv at b0 b1
  clear hB
  go_enter Tryz.func117, Tryz.ntmps117
  go_wp2_with (go_at_call 126; refine (printable_any _ _ (by unfold maxLen; decide)).mono ?_; rintro e w' ⟨rfl, rfl⟩)
  all_goals
    go_ret
    refine ⟨ret_bool ?_, ((Below.refl _ _).alloc (Nat.le_refl _) _).alloc (by simp) _⟩
    unfold rightB bndB
    simp
  all_goals (intros; first | omega | (exfalso; omega))
theorem right_1 (n : Int) (w : World) (hB : Bnds w) :
    Calls Tryz.prog 117 #[.agg #[.int .i64 1, .int .i64 n, .string ⟨#[]⟩]] w fun e w' => e = .returned (.bool (rightB 1 n ⟨#[]⟩)) ∧ Below w.heap.size w w' := by
  have hz := hB.size
  have b0 := hB 2 (by omega)
  have b1 := hB 3 (by omega)
  unfold bv at b0 b1
  clear hB
  go_enter Tryz.func117, Tryz.ntmps117
  go_wp2_with (go_at_call 126; refine (printable_any _ _ (by unfold maxLen; decide)).mono ?_; rintro e w' ⟨rfl, rfl⟩)
  all_goals
    go_ret
    refine ⟨ret_bool ?_, ((Below.refl _ _).alloc (Nat.le_refl _) _).alloc (by simp) _⟩
    unfold rightB bndB
    simp
  all_goals (intros; first | omega | (exfalso; omega))
theorem right_2 (n : Int) (w : World) (hB : Bnds w) :
    Calls Tryz.prog 117 #[.agg #[.int .i64 2, .int .i64 n, .string ⟨#[]⟩]] w fun e w' => e = .returned (.bool (rightB 2 n ⟨#[]⟩)) ∧ Below w.heap.size w w' := by
  have hz := hB.size
  have b0 := hB 4 (by omega)
  have b1 := hB 5 (by omega)
  unfold bv at b0 b1
  clear hB
  go_enter Tryz.func117, Tryz.ntmps117
  go_wp2_with (go_at_call 126; refine (printable_any _ _ (by unfold maxLen; decide)).mono ?_; rintro e w' ⟨rfl, rfl⟩)
  all_goals
    go_ret
    refine ⟨ret_bool ?_, ((Below.refl _ _).alloc (Nat.le_refl _) _).alloc (by simp) _⟩
    unfold rightB bndB
    simp
  all_goals (intros; first | omega | (exfalso; omega))
theorem right_3 (n : Int) (w : World) (hB : Bnds w) :
    Calls Tryz.prog 117 #[.agg #[.int .i64 3, .int .i64 n, .string ⟨#[]⟩]] w fun e w' => e = .returned (.bool (rightB 3 n ⟨#[]⟩)) ∧ Below w.heap.size w w' := by
  have hz := hB.size
  have b0 := hB 6 (by omega)
  have b1 := hB 7 (by omega)
  unfold bv at b0 b1
  clear hB
  go_enter Tryz.func117, Tryz.ntmps117
  go_wp2_with (go_at_call 126; refine (printable_any _ _ (by unfold maxLen; decide)).mono ?_; rintro e w' ⟨rfl, rfl⟩)
  all_goals
    go_ret
    refine ⟨ret_bool ?_, ((Below.refl _ _).alloc (Nat.le_refl _) _).alloc (by simp) _⟩
    unfold rightB bndB
    simp
  all_goals (intros; first | omega | (exfalso; omega))
theorem right_4 (n : Int) (s : ByteArray) (w : World) (hm : s.size ≤ maxLen) (hB : Bnds w) :
    Calls Tryz.prog 117 #[.agg #[.int .i64 4, .int .i64 n, .string s]] w fun e w' => e = .returned (.bool (rightB 4 n s)) ∧ Below w.heap.size w w' := by
  have hz := hB.size
  have b0 := hB 8 (by omega)
  have b1 := hB 9 (by omega)
  unfold bv at b0 b1
  clear hB
  go_enter Tryz.func117, Tryz.ntmps117
  go_wp2_with (go_at_call 126; refine (printable_any _ _ hm).mono ?_; rintro e w' ⟨rfl, rfl⟩)
  all_goals
    go_ret
    refine ⟨ret_bool ?_, ((Below.refl _ _).alloc (Nat.le_refl _) _).alloc (by simp) _⟩
    unfold rightB bndB
    simp
  all_goals (intros; first | omega | (exfalso; omega))
theorem right_5 (n : Int) (w : World) (hB : Bnds w) :
    Calls Tryz.prog 117 #[.agg #[.int .i64 5, .int .i64 n, .string ⟨#[]⟩]] w fun e w' => e = .returned (.bool (rightB 5 n ⟨#[]⟩)) ∧ Below w.heap.size w w' := by
  have hz := hB.size
  have b0 := hB 10 (by omega)
  have b1 := hB 11 (by omega)
  unfold bv at b0 b1
  clear hB
  go_enter Tryz.func117, Tryz.ntmps117
  go_wp2_with (go_at_call 126; refine (printable_any _ _ (by unfold maxLen; decide)).mono ?_; rintro e w' ⟨rfl, rfl⟩)
  all_goals
    go_ret
    refine ⟨ret_bool ?_, ((Below.refl _ _).alloc (Nat.le_refl _) _).alloc (by simp) _⟩
    unfold rightB bndB
    simp
  all_goals (intros; first | omega | (exfalso; omega))
theorem right_6 (n : Int) (w : World) (hB : Bnds w) :
    Calls Tryz.prog 117 #[.agg #[.int .i64 6, .int .i64 n, .string ⟨#[]⟩]] w fun e w' => e = .returned (.bool (rightB 6 n ⟨#[]⟩)) ∧ Below w.heap.size w w' := by
  have hz := hB.size
  have b0 := hB 12 (by omega)
  have b1 := hB 13 (by omega)
  unfold bv at b0 b1
  clear hB
  go_enter Tryz.func117, Tryz.ntmps117
  go_wp2_with (go_at_call 126; refine (printable_any _ _ (by unfold maxLen; decide)).mono ?_; rintro e w' ⟨rfl, rfl⟩)
  all_goals
    go_ret
    refine ⟨ret_bool ?_, ((Below.refl _ _).alloc (Nat.le_refl _) _).alloc (by simp) _⟩
    unfold rightB bndB
    simp
  all_goals (intros; first | omega | (exfalso; omega))

theorem right_any (k n : Int) (s : ByteArray) (w : World) (hm : s.size ≤ maxLen) (hB : Bnds w) :
    Calls Tryz.prog 117 #[.agg #[.int .i64 k, .int .i64 n, .string s]] w fun e w' => e = .returned (.bool (rightB k n s)) ∧ Below w.heap.size w w' := by
  by_cases h0 : k < 0 ∨ 7 ≤ k
  · exact right_out k n s w h0
  by_cases h4 : k = 4
  · subst h4; exact right_4 n s w hm hB
  by_cases hs : s.toList = []
  · obtain rfl : s = ⟨#[]⟩ := by rw [ByteArray.toList_eq] at hs; exact WideShapes.bytes_inj (by simpa using hs)
    have hk : k = 0 ∨ k = 1 ∨ k = 2 ∨ k = 3 ∨ k = 5 ∨ k = 6 := by omega
    rcases hk with rfl | rfl | rfl | rfl | rfl | rfl
    · exact right_0 n w hB
    · exact right_1 n w hB
    · exact right_2 n w hB
    · exact right_3 n w hB
    · exact right_5 n w hB
    · exact right_6 n w hB
  · exact right_full k n s w (by omega) (by omega) (by simpa using h4) (by simpa using hs)
end Go.Proofs.YtkdpcnikgdbmaaaGreatDoor.Va
