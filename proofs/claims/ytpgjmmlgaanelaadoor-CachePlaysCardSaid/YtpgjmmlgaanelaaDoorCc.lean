/-
  The walk of CacheCounts.
-/
import Derived.Test.YtpgjmmlgaanelaaDoorCa
import Derived.Test.YtpgjmmlgaanelaaDoorCo
namespace Go.Proofs.YtpgjmmlgaanelaaDoor.Ch
open Go Go.RowKit

theorem find_some {t : Ste} {s b : Int} (h : lk s t.l = some b) : t.find s = ((b, true), { t with hits := t.hits + 1 }) := by unfold Ste.find; rw [h]
theorem find_none {t : Ste} {s : Int} (h : lk s t.l = none) : t.find s = ((0, false), { t with miss := t.miss + 1 }) := by unfold Ste.find; rw [h]
theorem learn_cnt (t : Ste) (s v : Int) : (t.learn s v).2.hits = t.hits ∧ (t.learn s v).2.miss = t.miss := by
  unfold Ste.learn
  split
  · exact ⟨rfl, rfl⟩
  split
  · exact ⟨rfl, rfl⟩
  split
  · exact ⟨rfl, rfl⟩
  split <;> exact ⟨rfl, rfl⟩
theorem tm (n k : Int) (hk : 0 < k) : ∃ t, n.tmod k = t ∧ -k < t ∧ t < k ∧ (t + k) % k = n % k := by
  refine ⟨_, rfl, ?_⟩
  have h1 := Int.emod_nonneg n (show k ≠ 0 by omega)
  have h2 := Int.emod_lt_of_pos n hk
  rcases Int.le_total 0 n with h | h
  · rw [Int.tmod_eq_emod_of_nonneg h]
    refine ⟨by omega, h2, ?_⟩
    rw [Int.add_emod_right]; exact Int.emod_emod_of_dvd _ (Int.dvd_refl _)
  · have e : n.tmod k = -((-n) % k) := by
      have := Int.neg_tmod (-n) k
      rw [Int.neg_neg] at this
      rw [this, Int.tmod_eq_emod_of_nonneg (by omega)]
    have g1 := Int.emod_nonneg (-n) (show k ≠ 0 by omega)
    have g2 := Int.emod_lt_of_pos (-n) hk
    rw [e]
    refine ⟨by omega, by omega, ?_⟩
    rw [Int.add_emod_right]
    have : n = -((-n) % k) + k * (-((-n) / k)) := by
      have := Int.emod_add_mul_ediv (-n) k
      rw [Int.mul_neg]; omega
    conv => rhs; rw [this]
    rw [Int.add_mul_emod_self_left]
set_option maxRecDepth 100000 in
set_option maxHeartbeats 8000000 in
theorem counts_walk (K : Kit) (acts : List Act) (A : Option Addr) (c B : Nat) (w : World) (ha : ActS w B A acts) (hB : B ≤ w.heap.size) (hl : acts.length ≤ 5864062014634) (hok : ∀ x ∈ acts, x.OK) (hk : K.V w) :
    Calls Tryd.prog 7 #[.slice A acts.length c] w fun e w' => e = .returned (.bool true) ∧ Below w.heap.size w w' := by
  have HV := Lib.hid hk
  have HA := Lib.hid ha
  have HOK := Lib.hid hok
  clear hk ha hok
  go_enter Tryd.func7, Tryd.ntmps7
  go_wp2_with fail
  refine (sanity_any K _ HV.out).mono ?_
  rintro e w1 ⟨rfl, hb⟩
  have B1 := Lib.hid hb
  clear hb
  go_wp2_with fail
  refine (new_at (w0 := w) HV.out B1.out).mono ?_
  rintro e w2 ⟨p, F, rfl, h, _⟩
  have TW := Lib.hid h
  clear h
  go_wp2_with fail
  go_loopw [5, 6, 7] (fun h a i wr => ∃ (k : Nat) (F : Nat → Prop) (t : Ste), k ≤ 60 ∧ k ≤ acts.length ∧ i = .int .i64 k ∧ h = .int .i64 t.hits ∧ a = .int .i64 (t.hits + t.miss) ∧ Hid (Tr K w wr p t F k)) (fun _ _ i _ => 60 - (intOf i).toNat)
  case atStart => exact ⟨0, F, st0, by omega, by omega, rfl, rfl, rfl, TW⟩
  case round =>
    clear TW
    obtain ⟨k, F, t, h60, hk, rfl, rfl, rfl, TW⟩ := hrel
    by_cases h1 : k < acts.length
    · by_cases h2 : k < 60
      · obtain ⟨b, o, rfl, hb, c0, c1, c2⟩ := HA.out.below TW.out.b hB k _ (List.getElem?_eq_getElem h1)
        obtain ⟨x1, x2, x3⟩ := HOK.out _ (List.getElem_mem h1)
        generalize acts[k] = x at *
        obtain ⟨q, xa, xb⟩ := x
        simp only at c0 c1 c2 x1 x2 x3
        have h3 : (k : Int) < acts.length := by omega
        have h4 : (k : Int) < 60 := by omega
        have XA := Lib.hid x2
        have XB := Lib.hid x3
        obtain ⟨q1, q2⟩ := x1
        obtain ⟨y1, y2⟩ := x2
        obtain ⟨z1, z2⟩ := x3
        obtain ⟨t4, e4, l4, g4, v4⟩ := tm q 4 (by omega)
        have r0 := Int.emod_nonneg q (show (4 : Int) ≠ 0 by omega)
        have r1 := Int.emod_lt_of_pos q (show 0 < (4 : Int) by omega)
        obtain ⟨hh, hhe⟩ : ∃ hh, t.hits = hh := ⟨_, rfl⟩
        obtain ⟨mm, hme⟩ : ∃ mm, t.miss = mm := ⟨_, rfl⟩
        have s0 := TW.out.k.h0
        have s1 := TW.out.k.m0
        have s2 := TW.out.k.sum
        rw [hhe] at s0
        rw [hme] at s1
        rw [hhe, hme] at s2
        rw [hhe, hme]
        have HH := Lib.hid hhe
        have HM := Lib.hid hme
        clear hhe hme hb
        rcases (show q % 4 = 2 ∨ q % 4 = 3 ∨ (q % 4 = 0 ∨ q % 4 = 1) by omega) with hr | hr | hr
        · have v5 : (t4 + 4) % 4 = 2 := by rw [v4]; exact hr
          clear v4 hr r0 r1
          obtain ⟨cn1, cn2⟩ := learn_cnt t xa xb
          obtain ⟨t', ht'⟩ : ∃ t', (t.learn xa xb).2 = t' := ⟨_, rfl⟩
          obtain ⟨y, hy⟩ : ∃ y, (t.learn xa xb).1 = y := ⟨_, rfl⟩
          have LE := Lib.hid (show t.learn xa xb = (y, t') by rw [← ht', ← hy])
          rw [ht', HH.out] at cn1
          rw [ht', HM.out] at cn2
          have C1 := Lib.hid cn1
          have C2 := Lib.hid cn2
          clear cn1 cn2 ht' hy
          go_wp2_with fail
          refine (learn_at (TW.out.alloc _) XA.out XB.out LE.out).mono ?_
          rintro e w3 ⟨F', rfl, h, _⟩
          replace TW := Lib.hid h
          clear h
          go_wp2_with fail
          refine (counts_at TW.out C1.out C2.out).mono ?_
          rintro e w4 ⟨rfl, h, _⟩
          replace TW := Lib.hid h
          clear h
          go_wp2_with fail
          go_roundw
          case rel => exact ⟨k + 1, F', t', by omega, by omega, by go_num, by rw [C1.out], by rw [C1.out, C2.out], Lib.hid (TW.out.up (by omega) (by omega))⟩
          case measure => simp [intOf]; omega
        · have v5 : (t4 + 4) % 4 = 3 := by rw [v4]; exact hr
          clear v4 hr r0 r1
          obtain ⟨t', ht'⟩ : ∃ t', (t.forget xa).2 = t' := ⟨_, rfl⟩
          obtain ⟨y, hy⟩ : ∃ y, (t.forget xa).1 = y := ⟨_, rfl⟩
          have LE := Lib.hid (show t.forget xa = (y, t') by rw [← ht', ← hy])
          have C1 := Lib.hid (show t'.hits = hh by rw [← ht', ← HH.out]; rfl)
          have C2 := Lib.hid (show t'.miss = mm by rw [← ht', ← HM.out]; rfl)
          clear ht' hy
          go_wp2_with fail
          refine (forget_at (TW.out.alloc _) XA.out LE.out).mono ?_
          rintro e w3 ⟨F', rfl, h, _⟩
          replace TW := Lib.hid h
          clear h
          go_wp2_with fail
          refine (counts_at TW.out C1.out C2.out).mono ?_
          rintro e w4 ⟨rfl, h, _⟩
          replace TW := Lib.hid h
          clear h
          go_wp2_with fail
          go_roundw
          case rel => exact ⟨k + 1, F', t', by omega, by omega, by go_num, by rw [C1.out], by rw [C1.out, C2.out], Lib.hid (TW.out.up (by omega) (by omega))⟩
          case measure => simp [intOf]; omega
        · have n2 : ¬ (t4 + 4) % 4 = 2 := by rw [v4]; omega
          have n3 : ¬ (t4 + 4) % 4 = 3 := by rw [v4]; omega
          clear v4 hr r0 r1
          cases hl : lk xa t.l with
          | some bb =>
            obtain ⟨t', ht'⟩ : ∃ t', ({ t with hits := t.hits + 1 } : Ste) = t' := ⟨_, rfl⟩
            have LE := Lib.hid (show t.find xa = ((bb, true), t') by rw [← ht']; exact find_some hl)
            have C1 := Lib.hid (show t'.hits = hh + 1 by rw [← ht', ← HH.out])
            have C2 := Lib.hid (show t'.miss = mm by rw [← ht', ← HM.out])
            clear ht' hl
            go_wp2_with fail
            refine (find_at (TW.out.alloc _) (by omega) XA.out LE.out).mono ?_
            rintro e w3 ⟨F', rfl, h, _⟩
            replace TW := Lib.hid h
            clear h
            go_wp2_with fail
            refine (counts_at TW.out C1.out C2.out).mono ?_
            rintro e w4 ⟨rfl, h, _⟩
            replace TW := Lib.hid h
            clear h
            go_wp2_with fail
            go_roundw
            case rel => exact ⟨k + 1, F', t', by omega, by omega, by go_num, by rw [C1.out], by rw [C1.out, C2.out]; congr 1; omega, TW⟩
            case measure => simp [intOf]; omega
          | none =>
            obtain ⟨t', ht'⟩ : ∃ t', ({ t with miss := t.miss + 1 } : Ste) = t' := ⟨_, rfl⟩
            have LE := Lib.hid (show t.find xa = ((0, false), t') by rw [← ht']; exact find_none hl)
            have C1 := Lib.hid (show t'.hits = hh by rw [← ht', ← HH.out])
            have C2 := Lib.hid (show t'.miss = mm + 1 by rw [← ht', ← HM.out])
            clear ht' hl
            go_wp2_with fail
            refine (find_at (TW.out.alloc _) (by omega) XA.out LE.out).mono ?_
            rintro e w3 ⟨F', rfl, h, _⟩
            replace TW := Lib.hid h
            clear h
            go_wp2_with fail
            refine (counts_at TW.out C1.out C2.out).mono ?_
            rintro e w4 ⟨rfl, h, _⟩
            replace TW := Lib.hid h
            clear h
            go_wp2_with fail
            go_roundw
            case rel => exact ⟨k + 1, F', t', by omega, by omega, by go_num, by rw [C1.out], by rw [C1.out, C2.out]; congr 1; omega, TW⟩
            case measure => simp [intOf]; omega
      · obtain rfl : k = 60 := by omega
        go_wp2_with fail
        go_ret
        exact ⟨rfl, TW.out.b⟩
    · obtain rfl : k = acts.length := by omega
      go_wp2_with fail
      go_ret
      exact ⟨rfl, TW.out.b⟩
end Go.Proofs.YtpgjmmlgaanelaaDoor.Ch
