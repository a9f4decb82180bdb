/-
  The plain functions that package value computes: which values are right, operators. No dump is imported.
-/
import Derived.WalkKit
namespace Go.Proofs.YtkdpcnikgdbmaaaGreatDoor.Va
open Go Go.RowKit

def chrB (c : UInt8) : Bool := decide (32 ≤ (c.toNat : Int)) && decide ((c.toNat : Int) ≤ 126)
def allB (l : List UInt8) : Bool := l.all chrB
def prtB (l : List UInt8) : Bool := decide (l.length ≤ 200) && allB l
def bndB (k n : Int) : Bool :=
  decide (k = 0 ∧ n = 0 ∨ k = 1 ∧ n = 0 ∨ k = 2 ∧ 0 ≤ n ∧ n ≤ 1 ∨ k = 3 ∧ -1000000000000000 ≤ n ∧ n ≤ 1000000000000000 ∨ k = 4 ∧ n = 0 ∨ k = 5 ∧ 0 ≤ n ∧ n ≤ 1000000000 ∨ k = 6 ∧ 0 ≤ n ∧ n ≤ 23)
def rightB (k n : Int) (s : ByteArray) : Bool := bndB k n && (decide (k = 4) || s.data.toList.isEmpty) && prtB s.data.toList

theorem drop_data (s : ByteArray) (k : Nat) (h : k < s.size) : s.data.toList.drop k = s[k] :: s.data.toList.drop (k + 1) := by
  rw [List.drop_eq_getElem_cons (by simpa using h)]; rfl
theorem all_step (s : ByteArray) (k : Nat) (h : k < s.size) (hc : chrB s[k] = true) : allB (s.data.toList.drop k) = allB (s.data.toList.drop (k + 1)) := by
  rw [drop_data s k h]; unfold allB; rw [List.all_cons, hc, Bool.true_and]
theorem all_stop (s : ByteArray) (k : Nat) (h : k < s.size) (hc : chrB s[k] = false) : allB (s.data.toList.drop k) = false := by
  rw [drop_data s k h]; unfold allB; rw [List.all_cons, hc, Bool.false_and]
theorem all_end (s : ByteArray) (k : Nat) (h : ¬ k < s.size) : allB (s.data.toList.drop k) = true := by
  rw [List.drop_of_length_le (by simp; omega)]; rfl
end Go.Proofs.YtkdpcnikgdbmaaaGreatDoor.Va
