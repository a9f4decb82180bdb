/-
  The reference's Right of values.
-/
import Derived.Test.YtkdpcnikgdbmaaaGreatDoorVb
import Derived.Below
import Derived.Test.YtkdpcnikgdbmaaaGreatDoorAi
namespace Go.Proofs.YtkdpcnikgdbmaaaGreatDoor.Va
open Go Go.RowKit

def vv (k n : Int) (s : ByteArray) : Value := .agg #[.int .i64 k, .int .i64 n, .string s]
def es : ByteArray := ⟨#[]⟩
abbrev V3 := Int × Int × ByteArray
def V3.val (v : V3) : Value := vv v.1 v.2.1 v.2.2
def z3 : V3 := (0, 0, es)
def bs (l : List UInt8) : ByteArray := ⟨l.toArray⟩
def right3 (v : V3) : Bool := rightB v.1 v.2.1 v.2.2
theorem plain_any (s : ByteArray) (w : World) (hs : s.size ≤ maxLen) :
    Calls Tryz.prog 108 #[.string s] w fun e w' => e = .returned (.bool (prtB s.data.toList)) ∧ w = w' := by
  unfold maxLen at hs
  go_enter Tryz.func108, Tryz.ntmps108
  go_wp2
  go_loop [3] (fun i => ∃ k : Nat, k ≤ s.size ∧ i = .int .i64 k ∧ allB s.data.toList = allB (s.data.toList.drop k)) (fun i => s.size - (intOf i).toNat)
  case atStart => exact ⟨0, Nat.zero_le _, rfl, by simp⟩
  case round =>
    obtain ⟨k, hk, rfl, hr⟩ := hrel
    have HR := Lib.hid hr; clear hr
    by_cases hlt : k < s.size
    · go_wp2
      · go_ret
        exact ⟨ret_bool (by unfold prtB; rw [HR.out, all_stop s k hlt (by unfold chrB; simp; omega)]; simp), rfl⟩
      · go_round
        case rel => exact ⟨k + 1, by omega, by go_num, by rw [HR.out, all_step s k hlt (by unfold chrB; simp; omega)]⟩
        case measure => simp [intOf]; omega
      · go_ret
        exact ⟨ret_bool (by unfold prtB; rw [HR.out, all_stop s k hlt (by unfold chrB; simp; omega)]; simp), rfl⟩
    · go_wp2
      go_ret
      exact ⟨ret_bool (by unfold prtB; rw [HR.out, all_end s k hlt]; simp; omega), rfl⟩
theorem refRight_str (n : Int) (s : ByteArray) (w : World) (hm : s.size ≤ maxLen) :
    Calls Tryz.prog 88 #[vv 4 n s] w fun e w' => e = .returned (.bool (rightB 4 n s)) ∧ Below w.heap.size w w' := by
  have C := Lib.hid (fun w => plain_any s w hm)
  have hr : rightB 4 n s = (prtB s.data.toList && (n == 0)) := by
    unfold rightB bndB; rw [Bool.eq_iff_iff]; simp; exact And.comm
  rw [hr]
  clear hr
  generalize prtB s.data.toList = p at *
  unfold vv
  go_enter Tryz.func88, Tryz.ntmps88
  go_wp2_with fail
  refine (C.out _).mono ?_
  rintro e w1 ⟨rfl, rfl⟩
  cases p
  all_goals
    go_wp2_with fail
    all_goals go_ret
    all_goals exact ⟨ret_bool (by simp), (Below.refl _ _).alloc (Nat.le_refl _) _⟩
theorem refRight_full (k n : Int) (s : ByteArray) (w : World) (h4 : (k == 4) = false) (hs : (!s.toList.isEmpty) = true) :
    Calls Tryz.prog 88 #[vv k n s] w fun e w' => e = .returned (.bool (rightB k n s)) ∧ Below w.heap.size w w' := by
  unfold vv
  go_enter Tryz.func88, Tryz.ntmps88
  go_wp2
  go_ret
  refine ⟨ret_bool ?_, (Below.refl _ _).alloc (Nat.le_refl _) _⟩
  have e4 : decide (k = 4) = false := by simpa using h4
  have es : s.data.toList.isEmpty = false := by
    have h : s.toList.isEmpty = false := by simpa using hs
    rwa [ByteArray.toList_eq] at h
  unfold rightB
  rw [e4, es]
  simp
theorem right_es (k n : Int) (_h : k ≠ 4) : rightB k n es = bndB k n := by
  unfold rightB es; simp [prtB, allB]
theorem refRight_none (k n : Int) (w : World) (h4 : (k == 4) = false) :
    Calls Tryz.prog 88 #[vv k n es] w fun e w' => e = .returned (.bool (rightB k n es)) ∧ Below w.heap.size w w' := by
  have hk : k ≠ 4 := by simpa using h4
  rw [right_es k n hk]
  by_cases hk' : k = 0 ∨ k = 1 ∨ k = 2 ∨ k = 3 ∨ k = 5 ∨ k = 6
  · clear h4 hk
    rcases hk' with rfl | rfl | rfl | rfl | rfl | rfl
    all_goals
      unfold vv es
      go_enter Tryz.func88, Tryz.ntmps88
      go_wp2
    all_goals
      go_ret
      refine ⟨ret_bool ?_, (Below.refl _ _).alloc (Nat.le_refl _) _⟩
      unfold bndB
      first | rfl | (rw [Bool.eq_iff_iff]; simp; done) | (rw [Bool.eq_iff_iff]; simp; omega)
  · have a0 : (k == 0) = false := by simp; omega
    have a1 : (k == 1) = false := by simp; omega
    have a2 : (k == 2) = false := by simp; omega
    have a3 : (k == 3) = false := by simp; omega
    have a5 : (k == 5) = false := by simp; omega
    have a6 : (k == 6) = false := by simp; omega
    have hb : bndB k n = false := by unfold bndB; simp; omega
    rw [hb]
    clear hk hk' hb
    unfold vv es
    go_enter Tryz.func88, Tryz.ntmps88
    go_wp2
    go_ret
    exact ⟨rfl, (Below.refl _ _).alloc (Nat.le_refl _) _⟩
theorem refRight_any (v : V3) (w : World) (hm : v.2.2.size ≤ maxLen) :
    Calls Tryz.prog 88 #[v.val] w fun e w' => e = .returned (.bool (right3 v)) ∧ Below w.heap.size w w' := by
  obtain ⟨k, n, s⟩ := v
  simp only at hm
  show Calls Tryz.prog 88 #[vv k n s] w _
  unfold right3
  simp only
  by_cases h4 : k = 4
  · subst h4; exact refRight_str n s w hm
  by_cases hs : s.toList = []
  · obtain rfl : s = es := by rw [ByteArray.toList_eq] at hs; exact WideShapes.bytes_inj (by simpa [es] using hs)
    exact refRight_none k n w (by simpa using h4)
  · exact refRight_full k n s w (by simpa using h4) (by simpa using hs)
theorem refRight_at (k n : Int) (s : ByteArray) (b : Bool) (h : rightB k n s = b) (hm : s.size ≤ maxLen) (w : World) :
    Calls Tryz.prog 88 #[vv k n s] w fun e w' => e = .returned (.bool b) ∧ Below w.heap.size w w' :=
  (refRight_any (k, n, s) w hm).mono fun e w' ⟨he, hb⟩ => ⟨by rw [he, show right3 (k, n, s) = b from h], hb⟩
end Go.Proofs.YtkdpcnikgdbmaaaGreatDoor.Va
