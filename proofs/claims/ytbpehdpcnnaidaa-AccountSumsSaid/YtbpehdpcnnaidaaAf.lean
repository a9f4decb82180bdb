/-
  The walk of AccountFits.
-/
import Derived.Test.YtbpehdpcnnaidaaAx
namespace Go.Proofs.Ytbpehdpcnnaidaa.Ac
open Go Go.RowKit

theorem box2 (w : World) (x y : Value) (T : TypeId) {w1 : World} (h : Below (w.alloc (.cells #[x, y] T)).heap.size (w.alloc (.cells #[x, y] T)) w1) :
    w1.cell? ⟨w.heap.size, 0, none⟩ = some x ∧ w1.cell? ⟨w.heap.size, 1, none⟩ = some y := by
  constructor
  · rw [h.cell (by rw [World.size_alloc]; exact Nat.lt_succ_self _), World.cell?_alloc_new]; rfl
  · rw [h.cell (by rw [World.size_alloc]; exact Nat.lt_succ_self _), World.cell?_alloc_new]; rfl
set_option maxHeartbeats 4000000 in
theorem fits_walk (u l a b : Int) (hu : 0 ≤ u ∧ u ≤ 4294967295) (hl : 0 ≤ l ∧ l ≤ 4294967295) (ha : 0 ≤ a ∧ a ≤ 65535) (hb : 0 ≤ b ∧ b ≤ 65535) (w : World) :
    Calls Try.prog 9 #[.int .u32 u, .int .u32 l, .agg #[.int .u16 a, .int .u16 b]] w fun e w' => e = .returned (.bool true) ∧ Below w.heap.size w w' := by
  obtain ⟨hu1, hu2⟩ := hu
  obtain ⟨hl1, hl2⟩ := hl
  obtain ⟨ha1, ha2⟩ := ha
  obtain ⟨hb1, hb2⟩ := hb
  have hc : (u + a + b ≤ l) ∨ (u + a ≤ l ∧ ¬ u + a + b ≤ l) ∨ (¬ u + a ≤ l) := by omega
  rcases hc with h1 | ⟨h1, h2⟩ | h1
  · go_enter Try.func9, Try.ntmps9
    go_wp2_with fail
    refine (sanity_any _).mono ?_
    rintro e w1 ⟨rfl, hs⟩
    obtain ⟨k0, k1⟩ := box2 _ _ _ _ hs
    have B1 := Lib.hid (below_alloc (Below.refl _ w) (Nat.le_refl _) _ hs)
    clear hs
    go_wp2_with fail
    go_quiet (fail)
    clear k0 k1
    go_wp2_with fail
    refine (fits_lit _ _ _ _ true ⟨by omega, by omega⟩ ⟨by omega, by omega⟩ ⟨by omega, by omega⟩ (by unfold fitsB; rw [decide_eq_true_eq]; omega)).mono ?_
    rintro e w' ⟨rfl, rfl⟩
    go_wp2_with fail
    refine (fits_lit _ _ _ _ true ⟨by omega, by omega⟩ ⟨by omega, by omega⟩ ⟨by omega, by omega⟩ (by unfold fitsB; rw [decide_eq_true_eq]; omega)).mono ?_
    rintro e w' ⟨rfl, rfl⟩
    go_wp2_with fail
    refine (fits_lit _ _ _ _ true ⟨by omega, by omega⟩ ⟨by omega, by omega⟩ ⟨by omega, by omega⟩ (by unfold fitsB; rw [decide_eq_true_eq]; omega)).mono ?_
    rintro e w' ⟨rfl, rfl⟩
    go_wp2_with fail
    refine (fits_lit _ _ _ _ true ⟨by omega, by omega⟩ ⟨by omega, by omega⟩ ⟨by omega, by omega⟩ (by unfold fitsB; rw [decide_eq_true_eq]; omega)).mono ?_
    rintro e w' ⟨rfl, rfl⟩
    go_wp2_with fail
    refine (fits_lit _ _ _ _ false ⟨by omega, by omega⟩ ⟨by omega, by omega⟩ ⟨by omega, by omega⟩ (by unfold fitsB; rw [decide_eq_false_iff_not]; omega)).mono ?_
    rintro e w' ⟨rfl, rfl⟩
    go_wp2_with fail
    refine (fits_lit _ _ _ _ true ⟨by omega, by omega⟩ ⟨by omega, by omega⟩ ⟨by omega, by omega⟩ (by unfold fitsB; rw [decide_eq_true_eq]; omega)).mono ?_
    rintro e w' ⟨rfl, rfl⟩
    go_wp2_with fail
    refine (fits_lit _ _ _ _ false ⟨by omega, by omega⟩ ⟨by omega, by omega⟩ ⟨by omega, by omega⟩ (by unfold fitsB; rw [decide_eq_false_iff_not]; omega)).mono ?_
    rintro e w' ⟨rfl, rfl⟩
    go_wp2_with fail
    go_ret
    exact ⟨rfl, below_drewN B1.out _⟩
  · go_enter Try.func9, Try.ntmps9
    go_wp2_with fail
    refine (sanity_any _).mono ?_
    rintro e w1 ⟨rfl, hs⟩
    obtain ⟨k0, k1⟩ := box2 _ _ _ _ hs
    have B1 := Lib.hid (below_alloc (Below.refl _ w) (Nat.le_refl _) _ hs)
    clear hs
    go_wp2_with fail
    go_quiet (fail)
    clear k0 k1
    go_wp2_with fail
    refine (fits_lit _ _ _ _ true ⟨by omega, by omega⟩ ⟨by omega, by omega⟩ ⟨by omega, by omega⟩ (by unfold fitsB; rw [decide_eq_true_eq]; omega)).mono ?_
    rintro e w' ⟨rfl, rfl⟩
    go_wp2_with fail
    refine (fits_lit _ _ _ _ false ⟨by omega, by omega⟩ ⟨by omega, by omega⟩ ⟨by omega, by omega⟩ (by unfold fitsB; rw [decide_eq_false_iff_not]; omega)).mono ?_
    rintro e w' ⟨rfl, rfl⟩
    go_wp2_with fail
    refine (fits_lit _ _ _ _ false ⟨by omega, by omega⟩ ⟨by omega, by omega⟩ ⟨by omega, by omega⟩ (by unfold fitsB; rw [decide_eq_false_iff_not]; omega)).mono ?_
    rintro e w' ⟨rfl, rfl⟩
    go_wp2_with fail
    refine (fits_lit _ _ _ _ false ⟨by omega, by omega⟩ ⟨by omega, by omega⟩ ⟨by omega, by omega⟩ (by unfold fitsB; rw [decide_eq_false_iff_not]; omega)).mono ?_
    rintro e w' ⟨rfl, rfl⟩
    go_wp2_with fail
    refine (fits_lit _ _ _ _ true ⟨by omega, by omega⟩ ⟨by omega, by omega⟩ ⟨by omega, by omega⟩ (by unfold fitsB; rw [decide_eq_true_eq]; omega)).mono ?_
    rintro e w' ⟨rfl, rfl⟩
    go_wp2_with fail
    refine (fits_lit _ _ _ _ false ⟨by omega, by omega⟩ ⟨by omega, by omega⟩ ⟨by omega, by omega⟩ (by unfold fitsB; rw [decide_eq_false_iff_not]; omega)).mono ?_
    rintro e w' ⟨rfl, rfl⟩
    go_wp2_with fail
    go_ret
    exact ⟨rfl, below_drewN B1.out _⟩
  · go_enter Try.func9, Try.ntmps9
    go_wp2_with fail
    refine (sanity_any _).mono ?_
    rintro e w1 ⟨rfl, hs⟩
    obtain ⟨k0, k1⟩ := box2 _ _ _ _ hs
    have B1 := Lib.hid (below_alloc (Below.refl _ w) (Nat.le_refl _) _ hs)
    clear hs
    go_wp2_with fail
    go_quiet (fail)
    clear k0 k1
    go_wp2_with fail
    refine (fits_lit _ _ _ _ false ⟨by omega, by omega⟩ ⟨by omega, by omega⟩ ⟨by omega, by omega⟩ (by unfold fitsB; rw [decide_eq_false_iff_not]; omega)).mono ?_
    rintro e w' ⟨rfl, rfl⟩
    go_wp2_with fail
    refine (fits_lit _ _ _ _ false ⟨by omega, by omega⟩ ⟨by omega, by omega⟩ ⟨by omega, by omega⟩ (by unfold fitsB; rw [decide_eq_false_iff_not]; omega)).mono ?_
    rintro e w' ⟨rfl, rfl⟩
    go_wp2_with fail
    refine (fits_lit _ _ _ _ false ⟨by omega, by omega⟩ ⟨by omega, by omega⟩ ⟨by omega, by omega⟩ (by unfold fitsB; rw [decide_eq_false_iff_not]; omega)).mono ?_
    rintro e w' ⟨rfl, rfl⟩
    go_wp2_with fail
    refine (fits_lit _ _ _ _ false ⟨by omega, by omega⟩ ⟨by omega, by omega⟩ ⟨by omega, by omega⟩ (by unfold fitsB; rw [decide_eq_false_iff_not]; omega)).mono ?_
    rintro e w' ⟨rfl, rfl⟩
    go_wp2_with fail
    refine (fits_lit _ _ _ _ true ⟨by omega, by omega⟩ ⟨by omega, by omega⟩ ⟨by omega, by omega⟩ (by unfold fitsB; rw [decide_eq_true_eq]; omega)).mono ?_
    rintro e w' ⟨rfl, rfl⟩
    go_wp2_with fail
    refine (fits_lit _ _ _ _ false ⟨by omega, by omega⟩ ⟨by omega, by omega⟩ ⟨by omega, by omega⟩ (by unfold fitsB; rw [decide_eq_false_iff_not]; omega)).mono ?_
    rintro e w' ⟨rfl, rfl⟩
    go_wp2_with fail
    go_ret
    exact ⟨rfl, below_drewN B1.out _⟩
end Go.Proofs.Ytbpehdpcnnaidaa.Ac
