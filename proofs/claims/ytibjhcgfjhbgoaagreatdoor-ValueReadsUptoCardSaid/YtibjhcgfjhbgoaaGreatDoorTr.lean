/-
  Contract of Truth.
-/
import Derived.Test.YtibjhcgfjhbgoaaGreatDoorVp
namespace Go.Proofs.YtibjhcgfjhbgoaaGreatDoor.Va
open Go Go.RowKit Mp

def truth3 (a : V3) : Bool × Bool := if a.1 = 2 ∧ right3 a = true then (a.2.1 == 1, true) else (false, false)
set_option maxRecDepth 3000 in
theorem truth_other (k : Int) (n : Int) (s : ByteArray) (w : World) (_hB : Bnds w) (_hm : s.size ≤ maxLen) (hk : (k == 2) = false) :
    Calls Tryz.prog 19 #[vv k n s] w fun e w' => e = .returned (.tuple #[.bool false, .bool false]) ∧ Below w.heap.size w w' := by
  clear _hB _hm
  unfold vv
  go_enter Tryz.func19, Tryz.ntmps19
  go_wp2_with fail
  go_ret2
  exact ⟨rfl, (Below.refl _ _).alloc (Nat.le_refl _) _⟩
set_option maxRecDepth 3000 in
theorem truth_wrong (n : Int) (s : ByteArray) (w : World) (hB : Bnds w) (hm : s.size ≤ maxLen) (hr : rightB 2 n s = false) :
    Calls Tryz.prog 19 #[vv 2 n s] w fun e w' => e = .returned (.tuple #[.bool false, .bool false]) ∧ Below w.heap.size w w' := by
  have C := Lib.hid (fun w hB => right_at _ n s false hr hm w hB)
  have HB := Lib.hid hB
  clear hB hm hr
  unfold vv
  go_enter Tryz.func19, Tryz.ntmps19
  go_wp2_with fail
  refine (C.out _ (HB.out.below ((Below.refl _ _).alloc (Nat.le_refl _) _) HB.out.size)).mono ?_
  rintro e w1 ⟨rfl, hb1⟩
  obtain ⟨k0, k1, k2, _, kz⟩ := ((Own.new _ _ _).below hb1 (by simp only [World.size_alloc]; omega)).facts
  have G1 := Lib.hid (((Below.refl w.heap.size w).alloc (Nat.le_refl _) _).trans (hb1.mono (by simp only [World.size_alloc]; omega)))
  clear hb1
  go_wp2_with fail
  go_ret2
  exact ⟨rfl, G1.out⟩
set_option maxRecDepth 3000 in
theorem truth_right (n : Int) (s : ByteArray) (w : World) (hB : Bnds w) (hm : s.size ≤ maxLen) (hr : rightB 2 n s = true) :
    Calls Tryz.prog 19 #[vv 2 n s] w fun e w' => e = .returned (.tuple #[.bool (n == 1), .bool true]) ∧ Below w.heap.size w w' := by
  have C := Lib.hid (fun w hB => right_at _ n s true hr hm w hB)
  have HB := Lib.hid hB
  clear hB hm hr
  unfold vv
  go_enter Tryz.func19, Tryz.ntmps19
  go_wp2_with fail
  refine (C.out _ (HB.out.below ((Below.refl _ _).alloc (Nat.le_refl _) _) HB.out.size)).mono ?_
  rintro e w1 ⟨rfl, hb1⟩
  obtain ⟨k0, k1, k2, _, kz⟩ := ((Own.new _ _ _).below hb1 (by simp only [World.size_alloc]; omega)).facts
  have G1 := Lib.hid (((Below.refl w.heap.size w).alloc (Nat.le_refl _) _).trans (hb1.mono (by simp only [World.size_alloc]; omega)))
  clear hb1
  go_wp2_with fail
  go_ret2
  exact ⟨rfl, G1.out⟩
theorem truth3_any (a : V3) (w : World) (hB : Bnds w) (hm : a.2.2.size ≤ maxLen) :
    Calls Tryz.prog 19 #[a.val] w fun e w' => e = .returned (.tuple #[.bool (truth3 a).1, .bool (truth3 a).2]) ∧ Below w.heap.size w w' := by
  obtain ⟨k, n, s⟩ := a
  simp only at hm
  show Calls Tryz.prog 19 #[vv k n s] w _
  unfold truth3 right3
  simp only
  by_cases h2 : k = 2
  · subst h2
    cases hr : rightB 2 n s
    · rw [if_neg (by simp)]; exact truth_wrong n s w hB hm hr
    · rw [if_pos ⟨rfl, rfl⟩]; exact truth_right n s w hB hm hr
  · rw [if_neg (by simp [h2])]; exact truth_other k n s w hB hm (by simpa using h2)
end Go.Proofs.YtibjhcgfjhbgoaaGreatDoor.Va
