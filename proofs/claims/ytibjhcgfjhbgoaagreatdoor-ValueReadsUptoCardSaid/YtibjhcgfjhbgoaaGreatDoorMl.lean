/-
  Lengths of what Made makes.
-/
import Derived.Test.YtibjhcgfjhbgoaaGreatDoorRa
import Derived.Test.YtibjhcgfjhbgoaaGreatDoorSx
namespace Go.Proofs.YtibjhcgfjhbgoaaGreatDoor.Va
open Go Go.RowKit Mp

theorem pick_len (l : List (List UInt8)) (hl : ∀ x, x ∈ l → x.length ≤ 100) (k : Int) : (pick l k).size ≤ 100 := by
  have h : (pick l k).size = (l.getD k.toNat []).length := by unfold pick bs; simp [ByteArray.size]
  rw [h]
  by_cases hk : k.toNat < l.length
  · have : l.getD k.toNat [] = l[k.toNat] := by simp [List.getD, hk]
    rw [this]; exact hl _ (List.getElem_mem hk)
  · have : l.getD k.toNat [] = [] := by simp [List.getD, List.getElem?_eq_none (Nat.le_of_not_lt hk)]
    rw [this]; exact Nat.zero_le _
theorem made_len (n : Int) : (made3 n).2.2.size ≤ maxLen := by
  have h8 : ∀ k, (pick words8 k).size ≤ 100 := pick_len _ (by decide)
  have h6 : ∀ k, (pick strs6 k).size ≤ 100 := pick_len _ (by decide)
  have hc : ∀ m, (const3 m).2.2.size ≤ maxLen := by
    intro m
    unfold const3
    repeat' split
    all_goals first | exact es_le | exact small _ (h6 _) | exact small _ (h8 _)
  unfold made3
  repeat' split
  all_goals first | exact es_le | exact hc _
end Go.Proofs.YtibjhcgfjhbgoaaGreatDoor.Va
