/-
  The comparison of two transitions.
-/
import Derived.Test.YtjodmjadpooipaaGreatDoorKp
import Derived.Shelf.SlSortCmp.WholeK
namespace Go.Proofs.YtjodmjadpooipaaGreatDoor.Sh
open Go Go.RowKit

def cfI (x y : Int) : Int := if x < y then -1 else if y < x then 1 else 0
def cfS (x y : ByteArray) : Int := if ltB x y = true then -1 else if ltB y x = true then 1 else 0
def cfK (q r : Ky) : Int := if cfI q.1 r.1 = 0 then cfS q.2 r.2 else cfI q.1 r.1
theorem ltB_asymm {a b : ByteArray} (h : ltB a b = true) : ltB b a = false := by
  cases k : ltB b a
  · rfl
  · have := ltB_trans h k; rw [ltB_irrefl] at this; cases this
theorem nan_int (x : Int) (W : World) : Calls Tryz.prog 76 #[.int .i64 x] W fun e w' => e = .returned (.bool false) ∧ W = w' := by
  have h := beq_self_eq_true x
  go_enter Tryz.func76, Tryz.ntmps76
  go_wp2
  go_ret
  exact ⟨rfl, rfl⟩
theorem nan_str (x : ByteArray) (W : World) : Calls Tryz.prog 77 #[.string x] W fun e w' => e = .returned (.bool false) ∧ W = w' := by
  have h := beq_self_eq_true x.toList
  go_enter Tryz.func77, Tryz.ntmps77
  go_wp2
  go_ret
  exact ⟨rfl, rfl⟩
set_option maxHeartbeats 1000000 in
theorem cmp_int (x y : Int) (W : World) : Calls Tryz.prog 68 #[.int .i64 x, .int .i64 y] W fun e w' => e = .returned (.int .i64 (cfI x y)) ∧ W = w' := by
  rcases (show x < y ∨ (¬ x < y ∧ y < x) ∨ (¬ x < y ∧ ¬ y < x) by omega) with h | ⟨h, k⟩ | ⟨h, k⟩
  · have e : cfI x y = -1 := if_pos h
    rw [e]
    go_enter Tryz.func68, Tryz.ntmps68
    go_wp2_with (go_at_call 76; refine (nan_int _ _).mono ?_; rintro e w' ⟨rfl, rfl⟩)
    go_ret
    exact ⟨rfl, rfl⟩
  · have e : cfI x y = 1 := (if_neg h).trans (if_pos k)
    rw [e]
    go_enter Tryz.func68, Tryz.ntmps68
    go_wp2_with (go_at_call 76; refine (nan_int _ _).mono ?_; rintro e w' ⟨rfl, rfl⟩)
    go_ret
    exact ⟨rfl, rfl⟩
  · have e : cfI x y = 0 := (if_neg h).trans (if_neg k)
    rw [e]
    go_enter Tryz.func68, Tryz.ntmps68
    go_wp2_with (go_at_call 76; refine (nan_int _ _).mono ?_; rintro e w' ⟨rfl, rfl⟩)
    go_ret
    exact ⟨rfl, rfl⟩
set_option maxHeartbeats 1000000 in
theorem cmp_str (x y : ByteArray) (W : World) : Calls Tryz.prog 69 #[.string x, .string y] W fun e w' => e = .returned (.int .i64 (cfS x y)) ∧ W = w' := by
  have h1 := ltB_less x y
  have h2 := ltB_less y x
  cases k1 : ltB x y
  · cases k2 : ltB y x
    · have e : cfS x y = 0 := by unfold cfS; rw [k1, k2]; rfl
      rw [e]
      have h3 : (x.toList == y.toList) = true := by
        rw [beq_iff_eq]
        by_cases hxy : x = y
        · rw [hxy]
        · rw [ltB_tri k1 hxy] at k2; cases k2
      rw [k1] at h1
      rw [k2] at h2
      clear k1 k2
      go_enter Tryz.func69, Tryz.ntmps69
      go_wp2_with (go_at_call 77; refine (nan_str _ _).mono ?_; rintro e w' ⟨rfl, rfl⟩)
      go_ret
      exact ⟨rfl, rfl⟩
    · have e : cfS x y = 1 := by unfold cfS; rw [k1, k2]; rfl
      rw [e]
      have h3 : (x.toList == y.toList) = false := by
        rw [beq_eq_false_iff_ne, ByteArray.toList_eq, ByteArray.toList_eq]
        exact fun hxy => ltB_ne k2 (Go.WideShapes.bytes_inj hxy.symm)
      rw [k1] at h1
      rw [k2] at h2
      clear k1 k2
      go_enter Tryz.func69, Tryz.ntmps69
      go_wp2_with (go_at_call 77; refine (nan_str _ _).mono ?_; rintro e w' ⟨rfl, rfl⟩)
      go_ret
      exact ⟨rfl, rfl⟩
  · have e : cfS x y = -1 := by unfold cfS; rw [k1]; rfl
    rw [e]
    rw [k1] at h1
    clear k1 h2
    go_enter Tryz.func69, Tryz.ntmps69
    go_wp2_with (go_at_call 77; refine (nan_str _ _).mono ?_; rintro e w' ⟨rfl, rfl⟩)
    go_ret
    exact ⟨rfl, rfl⟩
set_option maxHeartbeats 2000000 in
/-- The first of two numbers that is not 0. -/
theorem or_two (a b r : Int) (hr : (if a = 0 then b else a) = r) (g c : Nat) (W : World) (h0 : W.cell? ⟨g, 0, none⟩ = some (.int .i64 a)) (h1 : W.cell? ⟨g, 1, none⟩ = some (.int .i64 b)) :
    Calls Tryz.prog 67 #[.slice (some ⟨g, 0, none⟩) 2 c] W fun e w' => e = .returned (.int .i64 r) ∧ W = w' := by
  have HR := Lib.hid hr
  clear hr
  go_enter Tryz.func67, Tryz.ntmps67
  go_wp2
  go_loop [5, 8] (fun _ i => ∃ k : Nat, k ≤ 2 ∧ i = .int .i64 (k : Int) ∧ Hid (1 ≤ k → a = 0) ∧ Hid (2 ≤ k → b = 0)) (fun _ i => 2 - (intOf i).toNat)
  case atStart => exact ⟨0, by omega, rfl, Lib.hid (by omega), Lib.hid (by omega)⟩
  case round =>
    obtain ⟨k, hk, rfl, k1, k2⟩ := hrel
    rcases (show k = 0 ∨ k = 1 ∨ k = 2 by omega) with rfl | rfl | rfl
    · by_cases ha : a = 0
      · subst ha
        go_wp2
        go_round
        case rel => exact ⟨1, by omega, rfl, Lib.hid (by simp), Lib.hid (by omega)⟩
        case measure => simp [intOf]
      · have hf : (a == 0) = false := by simpa using ha
        have R := Lib.hid (HR.out.symm.trans (if_neg ha))
        clear ha
        go_wp2
        go_ret
        exact ⟨by rw [R.out]; rfl, rfl⟩
    · by_cases hb : b = 0
      · subst hb
        have R := Lib.hid k1.out
        go_wp2
        go_round
        case rel => exact ⟨2, by omega, rfl, Lib.hid (fun _ => R.out (by omega)), Lib.hid (by simp)⟩
        case measure => simp [intOf]
      · have hf : (b == 0) = false := by simpa using hb
        have R := Lib.hid (HR.out.symm.trans (if_pos (k1.out (by omega))))
        clear hb
        go_wp2
        go_ret
        exact ⟨by rw [R.out]; rfl, rfl⟩
    · have R := Lib.hid (show r = 0 by rw [← HR.out, if_pos (k1.out (by omega))]; exact k2.out (by omega))
      go_wp2
      go_ret
      exact ⟨by rw [R.out]; rfl, rfl⟩
set_option maxHeartbeats 2000000 in
theorem compare_any (q r : Ky) (W : World) : Calls Tryz.prog 59 #[.agg #[.int .i64 q.1, .string q.2], .agg #[.int .i64 r.1, .string r.2]] W fun e w' =>
    e = .returned (.int .i64 (cfK q r)) ∧ ∃ n os, w' = Sort.grow (W.drewN n) os := by
  obtain ⟨k, hk⟩ : ∃ k, cfK q r = k := ⟨_, rfl⟩
  rw [hk]
  have HK := Lib.hid hk
  obtain ⟨a, ha⟩ : ∃ a, cfI q.1 r.1 = a := ⟨_, rfl⟩
  obtain ⟨b, hb⟩ : ∃ b, cfS q.2 r.2 = b := ⟨_, rfl⟩
  have CI := Lib.hid (fun W => ha ▸ cmp_int q.1 r.1 W)
  have CS := Lib.hid (fun W => hb ▸ cmp_str q.2 r.2 W)
  have R := Lib.hid (show (if a = 0 then b else a) = k by rw [← hk, ← ha, ← hb]; rfl)
  clear hk HK ha hb
  obtain ⟨f, x⟩ := q
  obtain ⟨g, y⟩ := r
  dsimp only at CI CS ⊢
  go_enter Tryz.func59, Tryz.ntmps59
  go_wp2
  have X1 := Bk.new W #[.int .i64 f, .string x] 77
  have X2 : Bk ((W.alloc (.cells #[.int .i64 f, .string x] 77)).alloc (.cells #[.int .i64 g, .string y] 77)) W.heap.size #[.int .i64 f, .string x] 77 := X1.alloc _
  have X3 := Bk.new (W.alloc (.cells #[.int .i64 f, .string x] 77)) #[.int .i64 g, .string y] 77
  rw [World.size_alloc] at X3
  have EW : (W.alloc (.cells #[.int .i64 f, .string x] 77)).alloc (.cells #[.int .i64 g, .string y] 77) = Sort.grow W #[.cells #[.int .i64 f, .string x] 77, .cells #[.int .i64 g, .string y] 77] := by
    rw [Sort.alloc_eq_grow, Sort.alloc_eq_grow, Sort.grow_grow]; rfl
  generalize (W.alloc (.cells #[.int .i64 f, .string x] 77)).alloc (.cells #[.int .i64 g, .string y] 77) = W2 at *
  have x0 := X2.cell 0 (.int .i64 f) rfl
  have x1 := X2.cell 1 (.string x) rfl
  have y0 := X3.cell 0 (.int .i64 g) rfl
  have y1 := X3.cell 1 (.string y) rfl
  replace EW := Lib.hid EW
  have BA := Lib.hid (Bk.new W2.drew #[.int .i64 a, .int .i64 b] 3)
  have OR := Lib.hid (fun c => or_two a b k R.out W2.drew.heap.size c _ (BA.out.cell 0 _ rfl) (BA.out.cell 1 _ rfl))
  have FIN := Lib.hid (show ∃ n os, (W2.alloc (.cells #[.int .i64 a, .int .i64 b] 3)).drew = Sort.grow (W.drewN n) os from ⟨1, _, by rw [EW.out, Sort.alloc_eq_grow, Sort.grow_grow]; rfl⟩)
  clear X1 X2 X3
  go_region_law (first
    | (go_simp; go_at_call 68; (with_reducible refine (CI.out _).mono ?_); rintro e w' ⟨rfl, rfl⟩)
    | (go_simp; go_at_call 69; (with_reducible refine (CS.out _).mono ?_); rintro e w' ⟨rfl, rfl⟩)
    | (go_simp; go_at_call 67; (refine (OR.out _).mono ?_); rintro e w' ⟨rfl, rfl⟩))
  all_goals
    go_wp2_with fail
    go_ret
    exact ⟨rfl, FIN.out⟩
end Go.Proofs.YtjodmjadpooipaaGreatDoor.Sh
