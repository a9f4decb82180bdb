/-
  The reference's Sums.
-/
import Derived.Test.YtbpehdpcnnaidaaNf
import Derived.Deep.RegionLaw
import Derived.BigRegion
namespace Go.Proofs.Ytbpehdpcnnaidaa.Ac
open Go Go.RowKit

theorem sumOf_take (t : Int) (es : List En) (k : Nat) (hk : k < es.length) : sumOf t (es.take (k + 1)) = sumOf t (es.take k) + if (es[k]).ten = t then 16 + 8 * ((es[k]).m : Int) else 0 := by
  rw [List.take_succ_eq_append_getElem hk, sumOf_append]; simp [sumOf]
/-- The sums, as far as they are reckoned: those of the tenants below t, s of tenant t. -/
def part (es : List En) (N t : Nat) (s : Int) : List Int := (List.range N).map fun i : Nat => if i < t then sumOf i es else if i = t then s else 0
theorem part_len (es : List En) (N t : Nat) (s : Int) : (part es N t s).length = N := by simp [part]
theorem part_get (es : List En) (N t : Nat) (s : Int) (ht : t < N) : (part es N t s)[t]'(by rw [part_len]; exact ht) = s := by simp [part]
theorem part_set (es : List En) (N t : Nat) (s s' : Int) : (part es N t s).set t s' = part es N t s' := by
  apply List.ext_getElem?
  intro i
  rw [List.getElem?_set]
  unfold part
  simp only [List.getElem?_map, List.length_map, List.length_range]
  by_cases h : t = i
  · subst h
    by_cases ht : t < N
    · simp [ht]
    · rw [if_pos rfl, if_neg ht]
      simp [Nat.le_of_not_lt ht]
  · rw [if_neg h]
    by_cases hi : i < N
    · simp only [List.getElem?_range hi, Option.map_some]
      by_cases h1 : i < t
      · simp [h1]
      · have : ¬ i = t := fun e => h e.symm
        simp [h1, this]
    · simp [Nat.le_of_not_lt hi]
theorem part_next (es : List En) (N t : Nat) : part es N t (sumOf t es) = part es N (t + 1) 0 := by
  unfold part
  apply List.map_congr_left
  intro i _
  by_cases h : i < t
  · rw [if_pos h, if_pos (by omega)]
  · rw [if_neg h]
    by_cases h1 : i = t
    · subst h1; rw [if_pos rfl, if_pos (by omega)]
    · rw [if_neg h1, if_neg (by omega)]; split <;> rfl
theorem part_zero (es : List En) (N : Nat) : part es N 0 0 = List.replicate N 0 := by
  unfold part
  apply List.ext_getElem
  · simp
  · intro i h1 h2; simp
theorem part_all (es : List En) (N : Nat) (h : 1 ≤ N ∧ N ≤ 4) : part es N N 0 = sumsL es N := by
  unfold part sumsL
  rw [if_pos (by omega), Int.toNat_natCast]
  apply List.map_congr_left
  intro i hi
  rw [if_pos (List.mem_range.1 hi)]
theorem size_any (kd cl fn tn : Int) (nA iA : Option Addr) (nn nc m ic : Nat) (hm : m ≤ 1000) (w : World) :
    Calls Try.prog 29 #[.agg #[.int .i64 kd, .int .i64 cl, .int .i64 fn, .int .i64 tn, .slice nA nn nc, .slice iA m ic]] w fun e w' => e = .returned (.int .i64 (16 + 8 * (m : Int))) ∧ w' = w.alloc (.cells #[.int .i64 kd, .int .i64 cl, .int .i64 fn, .int .i64 tn, .slice nA nn nc, .slice iA m ic] 52) := by
  go_enter Try.func29, Try.ntmps29
  go_wp2
  go_ret
  exact ⟨rfl, rfl⟩
set_option maxRecDepth 10000 in
set_option maxHeartbeats 8000000 in
theorem ref_sums (A : Option Addr) (es : List En) (c B : Nat) (n : Int) (w : World) (h : Se w B A es) (hB : B ≤ w.heap.size) (hf : Few es) (hn : I64 n) :
    Calls Try.prog 25 #[.slice A es.length c, .int .i64 n] w (SumsTo es n w) := by
  obtain ⟨hn1, hn2⟩ := hn
  obtain ⟨hlen, hm⟩ := hf
  by_cases hno : n < 1 ∨ 4 < n
  · have G := Lib.hid (show SumsTo es n w (.returned (.slice none 0 0)) w from ⟨_, rfl, by unfold sumsL; rw [if_neg (by omega)]; exact World.ownsRow_nil _ _ _ _, Below.refl _ _⟩)
    rcases hno with h1 | h1
    all_goals
      go_enter Try.func25, Try.ntmps25
      go_wp2
      go_ret
      exact G.out
  · obtain ⟨N, rfl⟩ := Int.eq_ofNat_of_zero_le (show 0 ≤ n by omega)
    have hN1 : 1 ≤ N := by omega
    have hN4 : N ≤ 4 := by omega
    have hmk := make_any N hN1 hN4
    have hi1 : ¬ (N : Int) < 1 := by omega
    have hi2 : ¬ 4 < (N : Int) := by omega
    have H := Lib.hid h
    have HM := Lib.hid hm
    have HB0 := Lib.hid (Below.refl w.heap.size w)
    clear h hm hno
    go_enter Try.func25, Try.ntmps25
    go_wp2_with fail
    have O0 := Lib.hid (show OwnI (w.alloc (.cells (Array.replicate N (.int .i64 0)) 3)) w.heap.size (.slice (some ⟨w.heap.size, 0, none⟩) N N) (part es N 0 0) by
      have h := World.ownsRow_lit (base := w.heap.size) (e := 3) (size := 1) w (Array.replicate N (Value.int .i64 0)) N (Nat.le_refl _) (by unfold maxLen; omega) (by simp)
      unfold OwnI
      rw [part_zero, List.length_replicate]
      simpa using h)
    have B0 := Lib.hid ((Below.refl w.heap.size w).alloc (Nat.le_refl _) (.cells (Array.replicate N (.int .i64 0)) 3))
    clear hmk
    generalize w.alloc (.cells (Array.replicate N (.int .i64 0)) 3) = w0 at *
    go_loopw [6] (fun i wr => ∃ t : Nat, t ≤ N ∧ i = .int .i64 t ∧ Hid (OwnI wr w.heap.size (.slice (some ⟨w.heap.size, 0, none⟩) N N) (part es N t 0)) ∧ Hid (Below w.heap.size w wr)) (fun i _ => N - (intOf i).toNat)
    case atStart => exact ⟨0, by omega, rfl, O0, B0⟩
    case round =>
      clear O0 B0
      obtain ⟨t, ht, rfl, hO, hBw⟩ := hrel
      by_cases htN : t < N
      · have htN' : (t : Int) < N := by omega
        go_wp2_with fail
        go_loopw [7] (fun i wr => ∃ k : Nat, k ≤ es.length ∧ i = .int .i64 k ∧ Hid (OwnI wr w.heap.size (.slice (some ⟨w.heap.size, 0, none⟩) N N) (part es N t (sumOf t (es.take k)))) ∧ Hid (Below w.heap.size w wr)) (fun i _ => es.length - (intOf i).toNat)
        case atStart => exact ⟨0, by omega, rfl, hO, hBw⟩
        case round =>
          clear hO hBw
          obtain ⟨k, hk, rfl, hO, hBw⟩ := hrel
          by_cases hkl : k < es.length
          · have hkl' : (k : Int) < es.length := by omega
            obtain ⟨ga, rfl, hab, hc⟩ := (H.out.below hBw.out hB) k _ (List.getElem?_eq_getElem hkl)
            have hst := sumOf_take t es k hkl
            have hme := HM.out _ (List.getElem_mem hkl)
            have hbd := sumOf_bd t (es.take k) (fun e he => HM.out e (List.mem_of_mem_take he))
            have hbl : (es.take k).length ≤ 1000 := by rw [List.length_take]; omega
            obtain ⟨e, he⟩ : ∃ e, es[k] = e := ⟨_, rfl⟩
            rw [he] at hc hst hme
            obtain ⟨id, kd, cl, fn, tn, nA, nn, nc, iA, m, ic⟩ := e
            have y1 := hc 1 _ rfl
            have y2 := hc 2 _ rfl
            have y3 := hc 3 _ rfl
            have y4 := hc 4 _ rfl
            have y5 := hc 5 _ rfl
            have y6 := hc 6 _ rfl
            simp only at hst hme
            obtain ⟨hb1, hb2⟩ := hbd
            have HST := Lib.hid hst
            have HE := Lib.hid he
            clear hc hst he
            have hga : ga < wr.heap.size := by have := hBw.out.size; omega
            have hGw : w.heap.size < wr.heap.size := by
              have h : wr.ownsRow w.heap.size 3 1 (.slice (some ⟨w.heap.size, 0, none⟩) N N) _ _ := hO.out
              exact (h.lt w.heap.size rfl).2
            by_cases htt : tn = (t : Int)
            · have hbb : (tn == (t : Int)) = true := by simp [htt]
              rw [if_pos htt] at HST
              have hO' : wr.ownsRow w.heap.size 3 1 (.slice (some ⟨w.heap.size, 0, none⟩) N N) N ((part es N t (sumOf t (es.take k))).map (Value.int .i64)) := by
                have h := hO.out; unfold OwnI at h; rw [part_len] at h; exact h
              have g1 := World.ownsRow.cellAt hO' t (by omega)
              rw [List.getElem?_map, List.getElem?_eq_getElem (by rw [part_len]; exact htN), part_get es N t _ htN] at g1
              simp only [Option.map_some] at g1
              have g2 := World.ownsRow.frozenAt hO' t
              have HO' := Lib.hid hO'
              obtain ⟨s, hs⟩ : ∃ s, sumOf t (es.take k) = s := ⟨_, rfl⟩
              rw [hs] at g1 hb1 hb2 HST
              have HS := Lib.hid hs
              have hw1 : IntKind.i64.wrap (s + (16 + 8 * (m : Int))) = s + (16 + 8 * (m : Int)) := IntWalk.i64_in _ (by omega)
              clear htt hO' hs hO
              go_wp2_with fail
              go_region_law (go_simp; go_at_call 29; refine (size_any _ _ _ _ _ _ _ _ _ _ hme _).mono ?_; rintro e w6 ⟨rfl, rfl⟩)
              all_goals have HSt := Lib.hid (World.ownsRow.stored HO'.out t (.int .i64 (s + (16 + 8 * (m : Int)))))
              all_goals have HN := Lib.hid (show OwnI (((wr.setCell ⟨w.heap.size, t, none⟩ (.int .i64 (s + (16 + 8 * (m : Int))))).alloc (.cells #[.int .i64 kd, .int .i64 cl, .int .i64 fn, .int .i64 tn, .slice nA nn nc, .slice iA m ic] 52)).drew) w.heap.size (.slice (some ⟨w.heap.size, 0, none⟩) N N) (part es N t (sumOf t (es.take (k + 1)))) by
                have h := World.ownsRow.alloc HSt.out.1 (.cells #[.int .i64 kd, .int .i64 cl, .int .i64 fn, .int .i64 tn, .slice nA nn nc, .slice iA m ic] 52)
                rw [HS.out, ← List.map_set, part_set] at h
                unfold OwnI
                rw [part_len, HST.out]; exact h)
              all_goals have HBN := Lib.hid (((hBw.out.setCell (p := ⟨w.heap.size, t, none⟩) (Nat.le_refl _) (.int .i64 (s + (16 + 8 * (m : Int))))).alloc (hBw.out.setCell (p := ⟨w.heap.size, t, none⟩) (Nat.le_refl _) (.int .i64 (s + (16 + 8 * (m : Int))))).size (.cells #[.int .i64 kd, .int .i64 cl, .int .i64 fn, .int .i64 tn, .slice nA nn nc, .slice iA m ic] 52)).drew)
              all_goals
                clear g1 g2 hw1 y1 y2 y3 y4 y5 y6 hbb
                go_wp2_with fail
                go_roundw
                case rel => exact ⟨k + 1, by omega, by go_num, HN, HBN⟩
                case measure => simp [intOf]; omega
            · have hbb : (tn == (t : Int)) = false := by simp [htt]
              rw [if_neg htt, Int.add_zero] at HST
              have HN := Lib.hid (show OwnI wr w.heap.size (.slice (some ⟨w.heap.size, 0, none⟩) N N) (part es N t (sumOf t (es.take (k + 1)))) by rw [HST.out]; exact hO.out)
              clear htt
              go_wp2_with fail
              go_roundw
              case rel => exact ⟨k + 1, by omega, by go_num, HN, hBw⟩
              case measure => simp [intOf]; omega
          · obtain rfl : k = es.length := by omega
            have HN := Lib.hid (show OwnI wr w.heap.size (.slice (some ⟨w.heap.size, 0, none⟩) N N) (part es N (t + 1) 0) by have h := hO.out; rw [List.take_length, part_next] at h; exact h)
            go_wp2_with fail
            go_roundw
            case rel => exact ⟨t + 1, by omega, by go_num, HN, hBw⟩
            case measure => simp [intOf]; omega
      · obtain rfl : t = N := by omega
        have HN := Lib.hid (show OwnI wr w.heap.size (.slice (some ⟨w.heap.size, 0, none⟩) t t) (sumsL es t) by have h := hO.out; rw [part_all es t ⟨hN1, hN4⟩] at h; exact h)
        go_wp2_with fail
        go_ret
        exact ⟨_, rfl, HN.out, hBw.out⟩
end Go.Proofs.Ytbpehdpcnnaidaa.Ac
