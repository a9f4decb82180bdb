/-
  The contract of slices.Clone at []int.
-/
import Derived.Test.YtbpehdpcnnaidaaDoorAw
namespace Go.Proofs.YtbpehdpcnnaidaaDoor.Ac
open Go Go.RowKit

theorem eqlNil (w : World) (a : Option Addr) (n c n' c' : Nat) : (binOp .eql 22 (.slice a n c) (.slice none n' c')).run Tryd.prog w = .ok (.bool a.isNone) w := Lib.run_eql_slice_nil w _ _ a n c n' c' Tryd.underlying22
theorem clone_nil (n c : Nat) (w : World) : Calls Tryd.prog 25 #[.slice none n c] w fun e w' => e = .returned (.slice none 0 0) ∧ w = w' := by
  have q := eqlNil
  go_enter Tryd.func25, Tryd.ntmps25
  go_wp2
  go_ret
  exact ⟨rfl, rfl⟩
theorem clone_some (ad : Addr) (zs : List Int) (c B : Nat) (w : World) (h : Sl w B (some ad) zs) (hB : B ≤ w.heap.size) (hl : zs.length ≤ 17592186044404) :
    Calls Tryd.prog 25 #[.slice (some ad) zs.length c] w fun e w' => ∃ v, e = .returned v ∧ OwnI w' w.heap.size v zs ∧ Below w.heap.size w w' := by
  obtain ⟨i0, hi0, hz0, hz1, hz2⟩ := info_parts infoI
  have q := eqlNil
  have H := Lib.hid h
  have HO := Lib.hid (ones zs)
  have HL := Lib.hid (show (zs.map (Value.int .i64)).length = zs.length * 1 by simp)
  clear h
  go_enter Tryd.func25, Tryd.ntmps25
  go_wp2_with (at_builtin; refine wpList_append_own _ rfl _ _ 22 rfl w.heap.size 3 i0 (.int .i64 0) 1 8 Tryd.underlying22 hi0 hz0 hz1 hz2 rfl (by decide) _ _ _ rfl (World.ownsRow_made w #[] 0 (Nat.le_refl _) (Nat.zero_le _) (by simp)) ad zs.length c (zs.map (Value.int .i64)) rfl ?qc1 ?qc2 ?qc3 ?qc4 ?qc5 ?qc6 ?_)
  case qc1 => exact HL.out
  case qc2 =>
    intro j u hj
    rw [List.getElem?_map, Option.map_eq_some_iff] at hj
    obtain ⟨z, hz, rfl⟩ := hj
    obtain ⟨ad', e, hb, hc⟩ := H.out j z hz
    injection e with e
    subst e
    rw [World.cell?_alloc_lt _ _ _ (by rw [blk_add]; omega)]; exact hc
  case qc3 => exact HO.out
  case qc4 => unfold maxLen; omega
  case qc5 => omega
  case qc6 => simp
  intro v' w1 hown hgrow hnil
  go_wp2
  go_ret
  refine ⟨v', rfl, by simpa [OwnI] using hown, ?_⟩
  exact ((Below.refl _ w).alloc (Nat.le_refl _) _).grown hgrow (by simp) (by intro k hk; simp [Value.ownBlock] at hk; omega)
/-- slices.Clone of a slice that reads as zs. -/
theorem clone_any (A : Option Addr) (zs : List Int) (c B : Nat) (w : World) (h : Sl w B A zs) (hB : B ≤ w.heap.size) (hl : zs.length ≤ 17592186044404) :
    Calls Tryd.prog 25 #[.slice A zs.length c] w fun e w' => ∃ v, e = .returned v ∧ OwnI w' w.heap.size v zs ∧ Below w.heap.size w w' := by
  rcases A with _ | ad
  · rcases zs with _ | ⟨z, zs⟩
    · refine (clone_nil 0 c w).mono ?_
      rintro e w' ⟨rfl, rfl⟩
      exact ⟨_, rfl, World.ownsRow_nil _ _ _ _, Below.refl _ _⟩
    · obtain ⟨ad, e, _⟩ := h 0 z rfl
      cases e
  · exact clone_some ad zs c B w h hB hl
end Go.Proofs.YtbpehdpcnnaidaaDoor.Ac
