/-
  The reference's limits of a list of ints.
-/
import Derived.Test.YtbpehdpcnnaidaaDoorAw
namespace Go.Proofs.YtbpehdpcnnaidaaDoor.Ac
open Go Go.RowKit

/-- At most so many elements, all of them within limits. -/
def inB (lo hi : Int) (zs : List Int) : Bool := zs.all fun z => decide (lo ≤ z ∧ z ≤ hi)
def numB (zs : List Int) (most lo hi : Int) : Bool := decide ((zs.length : Int) ≤ most) && inB lo hi zs
theorem inB_step (lo hi : Int) (zs : List Int) (k : Nat) (h : k < zs.length) : inB lo hi (zs.drop k) = (decide (lo ≤ zs[k] ∧ zs[k] ≤ hi) && inB lo hi (zs.drop (k + 1))) := by
  unfold inB; rw [List.drop_eq_getElem_cons h, List.all_cons]
theorem ref_numbers (A : Option Addr) (zs : List Int) (c B : Nat) (most lo hi : Int) (w : World) (h : Sl w B A zs) (hl : zs.length ≤ 17592186044404) :
    Calls Tryd.prog 24 #[.slice A zs.length c, .int .i64 most, .int .i64 lo, .int .i64 hi] w fun e w' => e = .returned (.bool (numB zs most lo hi)) ∧ w = w' := by
  have H := Lib.hid h
  clear h
  go_enter Tryd.func24, Tryd.ntmps24
  go_wp2_with fail
  go_loop [9] (fun i => ∃ k : Nat, k ≤ zs.length ∧ i = .int .i64 k ∧ Hid (inB lo hi zs = inB lo hi (zs.drop k))) (fun i => zs.length - (intOf i).toNat)
  case atStart => exact ⟨0, by omega, rfl, Lib.hid rfl⟩
  case round =>
    obtain ⟨k, hk, rfl, hr⟩ := hrel
    by_cases hlt : k < zs.length
    · obtain ⟨ad, rfl, _, hc⟩ := H.out.get k hlt
      have hlt' : (k : Int) < zs.length := by omega
      have hst := inB_step lo hi zs k hlt
      generalize zs[k] = z at *
      by_cases hz : lo ≤ z ∧ z ≤ hi
      · rw [decide_eq_true hz, Bool.true_and] at hst
        have HN := Lib.hid (hr.out.trans hst)
        obtain ⟨h1, h2⟩ := hz
        clear hst
        go_wp2_with fail
        go_round
        case rel => exact ⟨k + 1, by omega, by go_num, HN⟩
        case measure => simp [intOf]; omega
      · rw [decide_eq_false hz, Bool.false_and] at hst
        have HN := Lib.hid (show numB zs most lo hi = false by unfold numB; rw [hr.out, hst, Bool.and_false])
        have hz' : z < lo ∨ (lo ≤ z ∧ hi < z) := by omega
        clear hst hz
        rcases hz' with h1 | ⟨h1, h2⟩
        all_goals
          go_wp2_with fail
          go_ret
          exact ⟨ret_bool HN.out.symm, rfl⟩
    · have hge : (zs.length : Int) ≤ k := by omega
      have HN := Lib.hid (show numB zs most lo hi = decide ((zs.length : Int) ≤ most) by
        unfold numB; rw [hr.out, List.drop_of_length_le (by omega)]; unfold inB; simp)
      go_wp2_with fail
      go_ret
      exact ⟨ret_bool HN.out.symm, rfl⟩
end Go.Proofs.YtbpehdpcnnaidaaDoor.Ac
