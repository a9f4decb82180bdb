/-
  The reference's Spend.
-/
import Derived.Test.YtbpehdpcnnaidaaAs
namespace Go.Proofs.Ytbpehdpcnnaidaa.Ac
open Go Go.RowKit

theorem ref_spend (A : Option Addr) (zs : List Int) (c B : Nat) (k m : Int) (w : World) (h : Sl w B A zs) (hB : B ≤ w.heap.size) (hl : zs.length ≤ 17592186044404) (hk : I64 k) (hm : I64 m) (hz : ∀ z ∈ zs, I64 z) :
    Calls Try.prog 13 #[.slice A zs.length c, .int .i64 k, .int .i64 m] w (SpendTo zs k m w) := by
  obtain ⟨hk1, hk2⟩ := hk
  obtain ⟨hm1, hm2⟩ := hm
  by_cases h1 : m < 0
  · have G := Lib.hid (spend_not (w := w) (zs := zs) (k := k) (m := m) (by unfold okB; rw [decide_eq_false_iff_not]; omega))
    go_enter Try.func13, Try.ntmps13
    go_wp2
    go_ret2
    exact G.out
  · by_cases h2 : k < 0
    · have G := Lib.hid (spend_not (w := w) (zs := zs) (k := k) (m := m) (by unfold okB; rw [decide_eq_false_iff_not]; omega))
      go_enter Try.func13, Try.ntmps13
      go_wp2
      go_ret2
      exact G.out
    · by_cases h3 : (zs.length : Int) ≤ k
      · have G := Lib.hid (spend_not (w := w) (zs := zs) (k := k) (m := m) (by unfold okB; rw [decide_eq_false_iff_not]; omega))
        go_enter Try.func13, Try.ntmps13
        go_wp2
        go_ret2
        exact G.out
      · obtain ⟨k, rfl⟩ := Int.eq_ofNat_of_zero_le (show 0 ≤ k by omega)
        have hk : k < zs.length := by omega
        obtain ⟨ad, rfl, hb, hc⟩ := h.get k hk
        have hz1 := hz _ (List.getElem_mem hk)
        obtain ⟨hz1, hz2⟩ := hz1
        by_cases h4 : zs[k] < m
        · have G := Lib.hid (spend_not (w := w) (zs := zs) (k := k) (m := m) (by unfold okB; rw [decide_eq_false_iff_not, Int.toNat_natCast, map_getD _ _ hk]; omega))
          clear h
          generalize zs[k] = z at *
          go_enter Try.func13, Try.ntmps13
          go_wp2
          go_ret2
          exact G.out
        · have OK := Lib.hid (show okB zs k m = true by unfold okB; rw [decide_eq_true_eq, Int.toNat_natCast, map_getD _ _ hk]; omega)
          have H := Lib.hid h
          have HC := Lib.hid hc
          obtain ⟨z, hzk⟩ : ∃ z, zs[k] = z := ⟨_, rfl⟩
          rw [hzk] at hz1 hz2 h4 hc
          have HZ := Lib.hid hzk
          obtain ⟨i0, hi0, hz0, hz1', hz2'⟩ := info_parts infoI
          clear h hzk hz
          go_enter Try.func13, Try.ntmps13
          go_wp2
          go_loopw [8, 9] (fun v i wr => ∃ j : Nat, j ≤ zs.length ∧ i = .int .i64 j ∧ Hid (OwnI wr w.heap.size v (zs.take j)) ∧ Hid (Below w.heap.size w wr)) (fun _ i _ => zs.length - (intOf i).toNat)
          case atStart => exact ⟨0, by omega, rfl, Lib.hid (World.ownsRow_nil _ _ _ _), Lib.hid (Below.refl _ _)⟩
          case round =>
            obtain ⟨j, hj, rfl, ho, hw⟩ := hrel
            by_cases hlt : j < zs.length
            · obtain ⟨ad', e, _, hc⟩ := (H.out.below hw.out hB).get j hlt
              injection e with e
              subst e
              have h3 : (j : Int) < zs.length := by omega
              have hown := World.ownsRow.alloc ho.out (.cells #[.int .i64 zs[j]] 3)
              have HO := Lib.hid hown
              clear hown
              have HLT := Lib.hid (show (zs.take j).length = j by rw [List.length_take]; omega)
              generalize hy : zs[j] = y at *
              have HY := Lib.hid hy
              clear hy
              go_wp2_with (at_builtin; refine wpList_append_own _ rfl _ _ 22 rfl w.heap.size 3 i0 (.int .i64 0) 1 8 Try.underlying22 hi0 hz0 hz1' hz2' rfl (by decide) _ _ _ rfl HO.out ⟨_, 0, none⟩ 1 1 [.int .i64 y] rfl ?qc1 ?qc2 ?qc3 ?qc4 ?qc5 ?qc6 ?_)
              case qc1 => rfl
              case qc2 => exact oneNew _ _
              case qc3 => exact ones [y]
              case qc4 => rw [HLT.out]; unfold maxLen; omega
              case qc5 => rw [HLT.out]; omega
              case qc6 => rw [World.size_alloc]; have := hw.out.size; omega
              intro v' w1 hown' hgrow _
              have hn := ownBlock_ge ho.out
              have HW := Lib.hid (((hw.out.alloc hw.out.size (.cells #[.int .i64 y] 3)).grown hgrow (by rw [World.size_alloc]; have := hw.out.size; omega) hn))
              have HO' := Lib.hid (own_next hlt HY.out hown')
              clear hown' hgrow hn
              go_wp2
              go_roundw
              case rel => exact ⟨j + 1, by omega, by go_num, HO', HW⟩
              case measure => simp [intOf]; omega
            · obtain rfl : j = zs.length := by omega
              have ho' := ho.out
              rw [List.take_length] at ho'
              obtain ⟨g, c', rfl, hg, hg', hcc, hf, hcell⟩ := ho'.full (by omega)
              have hcell := hcell k hk
              rw [HZ.out] at hcell
              have hf := hf k
              have HS := Lib.hid (ho'.set k (z - m))
              have hgs : g < wr.heap.size := hg'
              clear ho' ho
              go_wp2
              go_ret2
              refine ⟨.slice (some ⟨g, 0, none⟩) zs.length c', by rw [OK.out]; rfl, ?_, hw.out.setCell (p := ⟨g, k, none⟩) hg _⟩
              unfold afterL
              rw [if_pos OK.out, Int.toNat_natCast, map_getD _ _ hk, HZ.out]
              have := HS.out.1
              unfold OwnI at this ⊢
              rw [List.length_set] at this ⊢
              rw [show wrap64 (z - m) = z - m from IntWalk.wrap64_in _ ⟨by omega, by omega⟩]
              exact this
end Go.Proofs.Ytbpehdpcnnaidaa.Ac
