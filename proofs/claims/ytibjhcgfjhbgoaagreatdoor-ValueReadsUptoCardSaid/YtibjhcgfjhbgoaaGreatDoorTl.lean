/-
  Contracts of the reference's Literal and Text.
-/
import Derived.Test.YtibjhcgfjhbgoaaGreatDoorTd
import Derived.Test.YtibjhcgfjhbgoaaGreatDoorRr
namespace Go.Proofs.YtibjhcgfjhbgoaaGreatDoor.Va
open Go Go.RowKit Mp

theorem right_e (k n : Int) (s : ByteArray) (hk : k ≠ 4) : rightB k n s = (bndB k n && s.data.toList.isEmpty) := by
  unfold rightB
  have e : decide (k = 4) = false := by simpa using hk
  rw [e, Bool.false_or]
  cases h : s.data.toList.isEmpty
  · simp
  · have : s.data.toList = [] := by simpa using h
    unfold prtB allB
    rw [this]; simp
def lit3 (v : V3) : List UInt8 := if 1 ≤ v.1 ∧ v.1 ≤ 4 then text3 v else []
theorem lit_no {k n : Int} {s : ByteArray} (h : ¬ (1 ≤ k ∧ k ≤ 4) ∨ rightB k n s = false) : lit3 (k, n, s) = [] := by
  unfold lit3
  rcases h with h | h
  · rw [if_neg h]
  · split
    · exact text_no h
    · rfl
theorem lit_yes {k n : Int} {s : ByteArray} (h : 1 ≤ k ∧ k ≤ 4) : lit3 (k, n, s) = text3 (k, n, s) := by unfold lit3; rw [if_pos h]
theorem full_of {s : ByteArray} (h : s.data.toList.isEmpty = false) : s.toList.isEmpty = false := by rw [ByteArray.toList_eq]; exact h
theorem es_of {s : ByteArray} (h : s.data.toList.isEmpty = true) : s = es := bytes_of_list (by simpa [es] using h)
/-- An own struct, and what the walk returns: a string. -/
def LitOf (l : List UInt8) (w : World) (e : Ending) (w' : World) : Prop := e = .returned (.string (bs l)) ∧ Below w.heap.size w w'
theorem litOf {l : List UInt8} {s : ByteArray} {w w' : World} (h : s.data.toList = l) (hb : Below w.heap.size w w') : LitOf l w (.returned (.string s)) w' :=
  ⟨ret_str (bytes_of_list (by rw [bs_list]; exact h)), hb⟩
set_option maxRecDepth 3000 in
theorem literal_out (k n : Int) (s : ByteArray) (w : World) (h1 : (k == 1) = false) (h2 : (k == 2) = false) (h3 : (k == 3) = false) (h4 : (k == 4) = false) :
    Calls Tryz.prog 32 #[vv k n s] w (LitOf [] w) := by
  unfold vv
  go_enter Tryz.func32, Tryz.ntmps32
  go_wp2_with fail
  go_ret
  exact litOf rfl ((Below.refl _ _).alloc (Nat.le_refl _) _)
set_option maxRecDepth 3000 in
theorem literal_1 (n : Int) (s : ByteArray) (w : World) :
    Calls Tryz.prog 32 #[vv 1 n s] w (LitOf (lit3 (1, n, s)) w) := by
  have hr := right_e 1 n s (by decide)
  unfold vv
  cases he : s.data.toList.isEmpty
  · rw [lit_no (.inr (by rw [hr, he, Bool.and_false]))]
    have hf := full_of he
    clear he hr
    cases h0 : n == 0
    all_goals
      go_enter Tryz.func32, Tryz.ntmps32
      go_wp2_with fail
      go_ret
      exact litOf rfl ((Below.refl _ _).alloc (Nat.le_refl _) _)
  · obtain rfl := es_of he
    cases h0 : n == 0
    · rw [lit_no (.inr (by rw [hr]; unfold bndB; simp at h0 ⊢; omega))]
      clear he hr
      go_enter Tryz.func32, Tryz.ntmps32
      go_wp2_with fail
      go_ret
      exact litOf rfl ((Below.refl _ _).alloc (Nat.le_refl _) _)
    · obtain rfl : n = 0 := by simpa using h0
      rw [lit_yes (by decide), tx_1 (by decide +kernel)]
      clear he hr h0
      unfold es
      go_enter Tryz.func32, Tryz.ntmps32
      go_wp2_with fail
      go_ret
      exact litOf rfl ((Below.refl _ _).alloc (Nat.le_refl _) _)
set_option maxRecDepth 3000 in
theorem literal_2 (n : Int) (s : ByteArray) (w : World) :
    Calls Tryz.prog 32 #[vv 2 n s] w (LitOf (lit3 (2, n, s)) w) := by
  have hr := right_e 2 n s (by decide)
  unfold vv
  cases he : s.data.toList.isEmpty
  · rw [lit_no (.inr (by rw [hr, he, Bool.and_false]))]
    have hf := full_of he
    clear he hr
    go_enter Tryz.func32, Tryz.ntmps32
    go_wp2_with fail
    go_ret
    exact litOf rfl ((Below.refl _ _).alloc (Nat.le_refl _) _)
  · obtain rfl := es_of he
    cases h0 : n == 0
    · cases h1 : n == 1
      · rw [lit_no (.inr (by rw [hr]; unfold bndB; simp at h0 h1 ⊢; omega))]
        clear he hr
        unfold es
        go_enter Tryz.func32, Tryz.ntmps32
        go_wp2_with fail
        go_ret
        exact litOf rfl ((Below.refl _ _).alloc (Nat.le_refl _) _)
      · obtain rfl : n = 1 := by simpa using h1
        rw [lit_yes (by decide), tx_2 (by decide +kernel)]
        clear he hr h0 h1
        unfold es
        go_enter Tryz.func32, Tryz.ntmps32
        go_wp2_with fail
        go_ret
        exact litOf rfl ((Below.refl _ _).alloc (Nat.le_refl _) _)
    · obtain rfl : n = 0 := by simpa using h0
      rw [lit_yes (by decide), tx_2 (by decide +kernel)]
      clear he hr h0
      unfold es
      go_enter Tryz.func32, Tryz.ntmps32
      go_wp2_with fail
      go_ret
      exact litOf rfl ((Below.refl _ _).alloc (Nat.le_refl _) _)
set_option maxRecDepth 3000 in
theorem literal_3 (n : Int) (s : ByteArray) (w : World) :
    Calls Tryz.prog 32 #[vv 3 n s] w (LitOf (lit3 (3, n, s)) w) := by
  have hr := right_e 3 n s (by decide)
  unfold vv
  cases he : s.data.toList.isEmpty
  · rw [lit_no (.inr (by rw [hr, he, Bool.and_false]))]
    have hf := full_of he
    clear he hr
    go_enter Tryz.func32, Tryz.ntmps32
    go_wp2_with fail
    go_ret
    exact litOf rfl ((Below.refl _ _).alloc (Nat.le_refl _) _)
  · obtain rfl := es_of he
    by_cases h1 : -1000000000000000 ≤ n
    · by_cases h2 : n ≤ 1000000000000000
      · have C := Lib.hid (decimal_any n ⟨h1, h2⟩)
        have hy : rightB 3 n es = true := by rw [hr]; unfold bndB; simp [es]; omega
        rw [lit_yes (by decide), tx_3 hy]
        have hs := Lib.hid ((Sx0.init w).add #[.int .i64 3, .int .i64 n, .string ⟨#[]⟩] 23)
        clear he hr hy
        unfold es
        go_enter Tryz.func32, Tryz.ntmps32
        go_wp2_with fail
        refine (C.out _).mono ?_
        rintro e w1 ⟨rfl, hb⟩
        replace hs := Lib.hid (hs.out.step hb)
        clear hb
        go_wp2_with fail
        go_ret
        exact ⟨rfl, hs.out.be⟩
      · rw [lit_no (.inr (by rw [hr]; unfold bndB; simp; omega))]
        clear he hr
        unfold es
        go_enter Tryz.func32, Tryz.ntmps32
        go_wp2_with fail
        go_ret
        exact litOf rfl ((Below.refl _ _).alloc (Nat.le_refl _) _)
    · rw [lit_no (.inr (by rw [hr]; unfold bndB; simp; omega))]
      clear he hr
      unfold es
      go_enter Tryz.func32, Tryz.ntmps32
      go_wp2_with fail
      go_ret
      exact litOf rfl ((Below.refl _ _).alloc (Nat.le_refl _) _)
set_option maxRecDepth 3000 in
theorem literal_4 (n : Int) (s : ByteArray) (hm : s.size ≤ maxLen) (w : World) :
    Calls Tryz.prog 32 #[vv 4 n s] w (LitOf (lit3 (4, n, s)) w) := by
  have hr : rightB 4 n s = (bndB 4 n && prtB s.data.toList) := by unfold rightB; simp
  have CP := Lib.hid (fun w => plain_any s w hm)
  unfold vv
  cases hp : prtB s.data.toList
  · rw [hp] at CP
    rw [lit_no (.inr (by rw [hr, hp, Bool.and_false]))]
    clear hp hr hm
    go_enter Tryz.func32, Tryz.ntmps32
    go_wp2_with fail
    refine (CP.out _).mono ?_
    rintro e w1 ⟨rfl, rfl⟩
    go_wp2_with fail
    go_ret
    exact litOf rfl ((Below.refl _ _).alloc (Nat.le_refl _) _)
  · rw [hp] at CP
    cases h0 : n == 0
    · rw [lit_no (.inr (by rw [hr]; unfold bndB; simp at h0 ⊢; omega))]
      clear hp hr hm
      go_enter Tryz.func32, Tryz.ntmps32
      go_wp2_with fail
      refine (CP.out _).mono ?_
      rintro e w1 ⟨rfl, rfl⟩
      go_wp2_with fail
      go_ret
      exact litOf rfl ((Below.refl _ _).alloc (Nat.le_refl _) _)
    · obtain rfl : n = 0 := by simpa using h0
      have hy : rightB 4 0 s = true := by rw [hr, hp]; decide
      have CQ := Lib.hid (quote_any s (str_bd hy))
      rw [lit_yes (by decide), tx_4 hy]
      clear hp hr hm hy h0
      go_enter Tryz.func32, Tryz.ntmps32
      go_wp2_with fail
      refine (CP.out _).mono ?_
      rintro e w1 ⟨rfl, rfl⟩
      go_wp2_with fail
      refine (CQ.out _).mono ?_
      rintro e w1 ⟨rfl, rfl⟩
      go_wp2_with fail
      go_ret
      exact ⟨rfl, (Below.refl _ _).alloc (Nat.le_refl _) _⟩
theorem literal_any (v : V3) (hm : v.2.2.size ≤ maxLen) (w : World) :
    Calls Tryz.prog 32 #[v.val] w (LitOf (lit3 v) w) := by
  obtain ⟨k, n, s⟩ := v
  simp only at hm
  show Calls Tryz.prog 32 #[vv k n s] w _
  by_cases h1 : k = 1
  · subst h1; exact literal_1 n s w
  by_cases h2 : k = 2
  · subst h2; exact literal_2 n s w
  by_cases h3 : k = 3
  · subst h3; exact literal_3 n s w
  by_cases h4 : k = 4
  · subst h4; exact literal_4 n s hm w
  rw [lit_no (.inl (by omega))]
  exact literal_out k n s w (by simpa using h1) (by simpa using h2) (by simpa using h3) (by simpa using h4)
end Go.Proofs.YtibjhcgfjhbgoaaGreatDoor.Va
