/-
  The walk of ProfileWarms.
-/
import Derived.Test.YtjoffbgfokedlaaDoorPt
namespace Go.Proofs.YtjoffbgfokedlaaDoor.Pf
open Go Go.RowKit

def aW : Plc := (7, 9)
/-- What a loop that goes round has become. -/
def wTier (m h q : Int) : Int := if h ≤ q then 2 else if m ≤ q then 1 else 0
structure WS (t : Pst) (s m h k : Int) : Prop where
  es : t.s = s
  em : t.w = m
  eh : t.h = h
  tr : (t.get aW).tier = wTier m h (k / s)
  ca : (t.get aW).calls = k
  co : (t.get aW).count = k / s
theorem next_div {k s : Int} (hs : 1 ≤ s) (h : ¬ (k + 1) % s = 0) : (k + 1) / s = k / s := by
  have e := Int.mul_ediv_add_emod k s
  have e' := Int.mul_ediv_add_emod (k + 1) s
  have r0 := Int.emod_nonneg k (show s ≠ 0 by omega)
  have r1 := Int.emod_lt_of_pos k (show 0 < s by omega)
  have q0 := Int.emod_nonneg (k + 1) (show s ≠ 0 by omega)
  have q1 := Int.emod_lt_of_pos (k + 1) (show 0 < s by omega)
  have h1 : s * ((k + 1) / s - k / s) = k % s + 1 - (k + 1) % s := by rw [Int.mul_sub]; omega
  generalize (k + 1) / s - k / s = d at h1
  have hd : d = 0 := by
    rcases (show d ≤ -1 ∨ d = 0 ∨ 1 ≤ d by omega) with hd | hd | hd
    · have := Int.mul_le_mul_of_nonneg_left hd (show 0 ≤ s by omega)
      omega
    · exact hd
    · have := Int.mul_le_mul_of_nonneg_left hd (show 0 ≤ s by omega)
      omega
  subst hd
  have e2 := Int.mul_zero s
  rw [e2] at h1
  have : s * ((k + 1) / s) = s * (k / s) := by omega
  exact Int.eq_of_mul_eq_mul_left (show s ≠ 0 by omega) this
theorem next_mul {k s : Int} (hs : 1 ≤ s) (h : (k + 1) % s = 0) : (k + 1) / s = k / s + 1 := by
  have e := Int.mul_ediv_add_emod k s
  have e' := Int.mul_ediv_add_emod (k + 1) s
  have r0 := Int.emod_nonneg k (show s ≠ 0 by omega)
  have r1 := Int.emod_lt_of_pos k (show 0 < s by omega)
  have h1 : s * ((k + 1) / s - k / s) = k % s + 1 := by rw [Int.mul_sub]; omega
  generalize hd : (k + 1) / s - k / s = d at h1
  have hd1 : d = 1 := by
    rcases (show d ≤ 0 ∨ d = 1 ∨ 2 ≤ d by omega) with hd | hd | hd
    · have := Int.mul_le_mul_of_nonneg_left hd (show 0 ≤ s by omega)
      omega
    · exact hd
    · have := Int.mul_le_mul_of_nonneg_left hd (show 0 ≤ s by omega)
      omega
  omega
theorem ws0 (s m h : Int) (hm : 1 ≤ m) (hh : m < h) : WS (st0 s m h 1) s m h 0 := by
  have e : (0 : Int) / s = 0 := Int.zero_ediv s
  refine ⟨rfl, rfl, rfl, ?_, rfl, ?_⟩
  · rw [e]
    unfold wTier
    rw [if_neg (by omega), if_neg (by omega)]; rfl
  · rw [e]; rfl
theorem ws_step {t : Pst} {s m h k : Int} (w : WS t s m h k) (hs : 1 ≤ s) (hh : m < h) (hk : 0 ≤ k) (hk2 : k ≤ 100000) :
    (t.back aW).1 = decide (k + 1 = s * m ∨ k + 1 = s * h) ∧ WS (t.back aW).2 s m h (k + 1) := by
  have q0 : 0 ≤ k / s := Int.ediv_nonneg hk (by omega)
  have q1 : k / s ≤ k := Int.ediv_le_self s hk
  have nm : ∀ x, k + 1 = s * x ↔ ((k + 1) % s = 0 ∧ (k + 1) / s = x) := fun x => by
    constructor
    · intro e
      rw [e]
      exact ⟨Int.mul_emod_right s x, Int.mul_ediv_cancel_left x (by omega)⟩
    · rintro ⟨h1, rfl⟩
      have e := Int.mul_ediv_add_emod (k + 1) s
      omega
  have hT : ¬ (t.get aW).tier = -1 := by rw [w.tr]; unfold wTier; split <;> (try split) <;> omega
  have hG : ∀ x : Spot, ∀ o : Option (Int × List UInt8), t.back aW = t.turn aW (x, o) → x.tier = wTier m h ((k + 1) / s) → x.calls = k + 1 → x.count = (k + 1) / s → WS (t.back aW).2 s m h (k + 1) := fun x o e1 e2 e3 e4 => by
    have g : (t.back aW).2.get aW = x := by rw [e1, get_turn, if_pos rfl]
    have es : (t.back aW).2.s = t.s ∧ (t.back aW).2.w = t.w ∧ (t.back aW).2.h = t.h := by rw [e1]; exact ⟨rfl, rfl, rfl⟩
    exact ⟨es.1.trans w.es, es.2.1.trans w.em, es.2.2.trans w.eh, by rw [g]; exact e2, by rw [g]; exact e3, by rw [g]; exact e4⟩
  by_cases hr : (k + 1) % s = 0
  · have en := next_mul hs hr
    have hmin : min ((t.get aW).count + 1) 1000000 = (k + 1) / s := by rw [w.co, en]; omega
    have hr' : ((t.get aW).calls + 1) % t.s = 0 := by rw [w.ca, w.es]; exact hr
    by_cases c1 : (t.get aW).tier = 0 ∧ t.w ≤ (k + 1) / s
    · have eb : backS t.s t.w t.h (t.get aW) = ({ t.get aW with calls := (t.get aW).calls + 1, count := (k + 1) / s, tier := 1 }, some (1, tWarm ++ numT ((k + 1) / s))) := by
        unfold backS; rw [hmin, if_neg hT, if_pos hr', if_pos c1]
      obtain ⟨d1, d2⟩ := c1
      rw [w.em, en] at d2
      have hq : k / s < m := by
        rw [w.tr] at d1
        unfold wTier at d1
        split at d1
        · cases d1
        · split at d1
          · cases d1
          · omega
      have eT : t.back aW = t.turn aW _ := congrArg (t.turn aW) eb
      refine ⟨?_, hG _ _ eT ?_ (by show (t.get aW).calls + 1 = _; rw [w.ca]) rfl⟩
      · rw [eT]
        refine (decide_eq_true (.inl ((nm m).2 ⟨hr, by omega⟩))).symm
      · show (1 : Int) = _
        unfold wTier
        rw [if_neg (by omega), if_pos (by omega)]
    · by_cases c2 : (t.get aW).tier = 1 ∧ t.h ≤ (k + 1) / s
      · have eb : backS t.s t.w t.h (t.get aW) = ({ t.get aW with calls := (t.get aW).calls + 1, count := (k + 1) / s, tier := 2 }, some (2, tHot ++ numT ((k + 1) / s))) := by
          unfold backS; rw [hmin, if_neg hT, if_pos hr', if_neg c1, if_pos c2]
        obtain ⟨d1, d2⟩ := c2
        rw [w.eh, en] at d2
        have hq : k / s < h ∧ m ≤ k / s := by
          rw [w.tr] at d1
          unfold wTier at d1
          split at d1
          · cases d1
          · split at d1
            · omega
            · cases d1
        have eT : t.back aW = t.turn aW _ := congrArg (t.turn aW) eb
        refine ⟨?_, hG _ _ eT ?_ (by show (t.get aW).calls + 1 = _; rw [w.ca]) rfl⟩
        · rw [eT]
          refine (decide_eq_true (.inr ((nm h).2 ⟨hr, by omega⟩))).symm
        · show (2 : Int) = _
          unfold wTier
          rw [if_pos (by omega)]
      · have eb : backS t.s t.w t.h (t.get aW) = ({ t.get aW with calls := (t.get aW).calls + 1, count := (k + 1) / s }, none) := by
          unfold backS; rw [hmin, if_neg hT, if_pos hr', if_neg c1, if_neg c2]
        rw [w.em, w.tr, en] at c1
        rw [w.eh, w.tr, en] at c2
        have eT : t.back aW = t.turn aW _ := congrArg (t.turn aW) eb
        have key : (k + 1) / s ≠ m ∧ (k + 1) / s ≠ h ∧ wTier m h (k / s) = wTier m h ((k + 1) / s) := by
          rw [en]
          unfold wTier at c1 c2 ⊢
          by_cases g1 : h ≤ k / s
          · rw [if_pos g1, if_pos (by omega)]; omega
          · rw [if_neg g1] at c1 c2 ⊢
            by_cases g2 : m ≤ k / s
            · rw [if_pos g2] at c1 c2 ⊢
              have : ¬ h ≤ k / s + 1 := fun e => c2 ⟨rfl, e⟩
              rw [if_neg (by omega), if_pos (by omega)]; omega
            · rw [if_neg g2] at c1 c2 ⊢
              have : ¬ m ≤ k / s + 1 := fun e => c1 ⟨rfl, e⟩
              rw [if_neg (by omega), if_neg (by omega)]; omega
        refine ⟨?_, hG _ _ eT ?_ (by show (t.get aW).calls + 1 = _; rw [w.ca]) rfl⟩
        · rw [eT]
          refine (decide_eq_false ?_).symm
          rintro (e | e)
          · exact key.1 ((nm m).1 e).2
          · exact key.2.1 ((nm h).1 e).2
        · show (t.get aW).tier = _
          rw [w.tr]; exact key.2.2
  · have en := next_div hs hr
    have hr' : ¬ ((t.get aW).calls + 1) % t.s = 0 := by rw [w.ca, w.es]; exact hr
    have eb : backS t.s t.w t.h (t.get aW) = ({ t.get aW with calls := (t.get aW).calls + 1 }, none) := by
      unfold backS; rw [if_neg hT, if_neg hr']
    have eT : t.back aW = t.turn aW _ := congrArg (t.turn aW) eb
    refine ⟨?_, hG _ _ eT ?_ (by show (t.get aW).calls + 1 = _; rw [w.ca]) ?_⟩
    · rw [eT]
      refine (decide_eq_false ?_).symm
      rintro (e | e)
      · exact hr ((nm m).1 e).1
      · exact hr ((nm h).1 e).1
    · show (t.get aW).tier = _
      rw [w.tr, en]
    · show (t.get aW).count = _
      rw [w.co, en]
/-- The tier, as the law says it. -/
theorem w_tier {s m h k : Int} (hs : 1 ≤ s) : wTier m h (k / s) = if s * h ≤ k then 2 else if s * m ≤ k then 1 else 0 := by
  have e : ∀ x, x ≤ k / s ↔ s * x ≤ k := fun x => by rw [Int.le_ediv_iff_mul_le (by omega), Int.mul_comm]
  unfold wTier
  simp only [e]
set_option maxRecDepth 100000 in
set_option maxHeartbeats 8000000 in
theorem warms_walk (K : Kit) (a b c n : Int) (ha : 0 ≤ a ∧ a ≤ 255) (hb : 0 ≤ b ∧ b ≤ 255) (hc : 0 ≤ c ∧ c ≤ 255) (hn : 0 ≤ n ∧ n ≤ 65535) (w : World) (hv : K.V w) :
    Calls Tryd.prog 6 #[.agg #[.int .u8 a, .int .u8 b, .int .u8 c], .int .u16 n] w fun e w' => e = .returned (.bool true) ∧ Below w.heap.size w w' := by
  have HV := Lib.hid hv
  have A0 : 0 ≤ a % 20 := Int.emod_nonneg _ (by omega)
  have A1 : a % 20 < 20 := Int.emod_lt_of_pos _ (by omega)
  have B0 : 0 ≤ b % 30 := Int.emod_nonneg _ (by omega)
  have B1 : b % 30 < 30 := Int.emod_lt_of_pos _ (by omega)
  have C0 : 0 ≤ c % 30 := Int.emod_nonneg _ (by omega)
  have C1 : c % 30 < 30 := Int.emod_lt_of_pos _ (by omega)
  have N0 : 0 ≤ n % 2000 := Int.emod_nonneg _ (by omega)
  have N1 : n % 2000 < 2000 := Int.emod_lt_of_pos _ (by omega)
  obtain ⟨a0, a1⟩ := ha
  obtain ⟨b0, b1⟩ := hb
  obtain ⟨c0, c1⟩ := hc
  obtain ⟨n0, n1⟩ := hn
  have BX := Lib.hid (Bk.new w #[.int .u8 a, .int .u8 b, .int .u8 c] 51)
  have BB := Lib.hid ((Below.refl _ w).alloc (Nat.le_refl _) (.cells #[.int .u8 a, .int .u8 b, .int .u8 c] 51))
  clear hv
  go_enter Tryd.func6, Tryd.ntmps6
  go_wp2_with fail
  refine (sanity_any K _ (K.vkeep HV.out BB.out)).mono ?_
  rintro e v1 ⟨rfl, h⟩
  have B1' := Lib.hid (BB.out.trans (h.mono BB.out.size))
  have X1 := Lib.hid (Bk.low h BX.out)
  have x0 := X1.out.cell 0 (.int .u8 a) rfl
  have x1 := X1.out.cell 1 (.int .u8 b) rfl
  have x2 := X1.out.cell 2 (.int .u8 c) rfl
  clear h BX BB
  go_wp2_with fail
  go_quiet (fail)
  go_wp2_with fail
  obtain ⟨S, hS⟩ : ∃ S, 1 + a % 20 = S := ⟨_, rfl⟩
  obtain ⟨H, hH⟩ : ∃ H, 1 + b % 30 + 1 + c % 30 = H := ⟨_, rfl⟩
  obtain ⟨M, hM⟩ : ∃ M, 1 + b % 30 = M := ⟨_, rfl⟩
  rw [hM] at hH
  have S1 : 1 ≤ S := by omega
  have S2 : S ≤ 20 := by omega
  have M1 : 1 ≤ M := by omega
  have M2 : M ≤ 30 := by omega
  have H1 : M < H := by omega
  have H2 : H ≤ 60 := by omega
  rw [hM, hH, hS]
  clear hS hM hH A0 A1 B0 B1 C0 C1 a0 a1 b0 b1 c0 c1 x0 x1 x2
  refine (new_at (K := K) (w0 := w) HV.out (show Below w.heap.size w (v1.drewN nq) from B1'.out.trans ⟨rfl, rfl, rfl, Nat.le_refl _, fun _ _ => rfl⟩) (s := S) (m := M) (l := H) (c := 1) ⟨by omega, by omega, by omega, by omega, by omega⟩).mono ?_
  rintro e v2 ⟨p, F, rfl, h, _⟩
  have T2 := Lib.hid h
  clear h
  go_wp2_with fail
  obtain ⟨v3, hv3⟩ : ∃ v, v2.alloc (.cells #[.int .i64 7, .int .i64 9] 43) = v := ⟨_, rfl⟩
  have T3 := Lib.hid (show Tr K w v3 p (st0 S M H 1) F 0 by rw [← hv3]; exact T2.out.alloc _)
  have O3 := Lib.hid (show Own F v3 v2.heap.size #[.int .i64 7, .int .i64 9] 43 by rw [← hv3]; exact Own.new T2.out _ _)
  obtain ⟨b3, hb3⟩ : ∃ b, v2.heap.size = b := ⟨_, rfl⟩
  rw [hb3] at O3 ⊢
  rw [hv3]
  have IA := Lib.hid (show okP aW from ⟨⟨by decide, by decide⟩, by decide, by decide⟩)
  have W0 := Lib.hid (ws0 S M H M1 H1)
  obtain ⟨N, hN⟩ : ∃ N, n % 2000 = N := ⟨_, rfl⟩
  have P0 : 0 ≤ S * M := Int.mul_nonneg (by omega) (by omega)
  have P1 : S * M < S * H := Int.mul_lt_mul_of_pos_left H1 (by omega)
  have P2 : S * H ≤ 1200 := by
    have := Int.mul_le_mul_of_nonneg_left H2 (show 0 ≤ S by omega)
    omega
  rw [hN] at N0 N1
  clear T2 hv3 hb3 X1 B1'
  go_loopw [12] (fun i wr => ∃ (k : Nat) (t : Pst) (F : Nat → Prop), (k : Int) ≤ N ∧ i = .int .i64 ((k : Int) + 1) ∧ Hid (Tr K w wr p t F k) ∧ Hid (WS t S M H k) ∧ Hid (Own F wr b3 #[.int .i64 7, .int .i64 9] 43)) (fun i _ => (N + 1 - intOf i).toNat)
  case atStart => exact ⟨0, _, F, by omega, rfl, T3, W0, O3⟩
  case round =>
    clear T3 O3 W0
    obtain ⟨k, t, F, hk, rfl, T, WH, O⟩ := hrel
    by_cases hlt : (k : Int) + 1 ≤ N
    · obtain ⟨s1, s2⟩ := ws_step WH.out S1 H1 (by omega) (by omega)
      have TT := Lib.hid (show (t.back aW).2.tier aW = if S * H ≤ (k : Int) + 1 then 2 else if S * M ≤ (k : Int) + 1 then 1 else 0 by unfold Pst.tier; rw [s2.tr, w_tier S1])
      obtain ⟨t', ht'⟩ : ∃ t', (t.back aW).2 = t' := ⟨_, rfl⟩
      rw [ht'] at s2 TT
      have WN := Lib.hid s2
      have BE := Lib.hid (show t.back aW = (decide ((k : Int) + 1 = S * M ∨ (k : Int) + 1 = S * H), t') from Prod.ext s1 ht')
      have c2 := O.out.k.cell 0 (.int .i64 7) rfl
      have c3 := O.out.k.cell 1 (.int .i64 9) rfl
      have K1 := Lib.hid hlt
      have k3 : (k : Int) + 1 ≤ 2000 := by omega
      clear s1 s2 ht'
      have five : (∃ o r : Bool, ∃ z : Int, decide ((k : Int) + 1 = S * M ∨ (k : Int) + 1 = S * H) = o ∧ (if S * H ≤ (k : Int) + 1 then (2 : Int) else if S * M ≤ (k : Int) + 1 then 1 else 0) = z ∧
          ((o = false ∧ z = 0 ∧ ((k : Int) + 1 == S * M) = false ∧ ((k : Int) + 1 == S * H) = false ∧ decide ((k : Int) + 1 ≥ S * M) = false ∧ decide ((k : Int) + 1 ≥ S * H) = false ∧ r = true) ∨
          (o = true ∧ z = 1 ∧ ((k : Int) + 1 == S * M) = true ∧ ((k : Int) + 1 == S * H) = false ∧ decide ((k : Int) + 1 ≥ S * M) = true ∧ decide ((k : Int) + 1 ≥ S * H) = false ∧ r = true) ∨
          (o = false ∧ z = 1 ∧ ((k : Int) + 1 == S * M) = false ∧ ((k : Int) + 1 == S * H) = false ∧ decide ((k : Int) + 1 ≥ S * M) = true ∧ decide ((k : Int) + 1 ≥ S * H) = false ∧ r = true) ∨
          (o = true ∧ z = 2 ∧ ((k : Int) + 1 == S * M) = false ∧ ((k : Int) + 1 == S * H) = true ∧ decide ((k : Int) + 1 ≥ S * M) = true ∧ decide ((k : Int) + 1 ≥ S * H) = true ∧ r = true) ∨
          (o = false ∧ z = 2 ∧ ((k : Int) + 1 == S * M) = false ∧ ((k : Int) + 1 == S * H) = false ∧ decide ((k : Int) + 1 ≥ S * M) = true ∧ decide ((k : Int) + 1 ≥ S * H) = true ∧ r = true))) := by
        refine ⟨_, true, _, rfl, rfl, ?_⟩
        rcases (show (k : Int) + 1 < S * M ∨ (k : Int) + 1 = S * M ∨ (S * M < (k : Int) + 1 ∧ (k : Int) + 1 < S * H) ∨ (k : Int) + 1 = S * H ∨ S * H < (k : Int) + 1 by omega) with h | h | ⟨h, h'⟩ | h | h
        · exact .inl ⟨decide_eq_false (by omega), by rw [if_neg (by omega), if_neg (by omega)], by rw [beq_eq_false_iff_ne]; omega, by rw [beq_eq_false_iff_ne]; omega, decide_eq_false (by omega), decide_eq_false (by omega), rfl⟩
        · exact .inr (.inl ⟨decide_eq_true (by omega), by rw [if_neg (by omega), if_pos (by omega)], by rw [beq_iff_eq]; omega, by rw [beq_eq_false_iff_ne]; omega, decide_eq_true (by omega), decide_eq_false (by omega), rfl⟩)
        · exact .inr (.inr (.inl ⟨decide_eq_false (by omega), by rw [if_neg (by omega), if_pos (by omega)], by rw [beq_eq_false_iff_ne]; omega, by rw [beq_eq_false_iff_ne]; omega, decide_eq_true (by omega), decide_eq_false (by omega), rfl⟩))
        · exact .inr (.inr (.inr (.inl ⟨decide_eq_true (by omega), by rw [if_pos (by omega)], by rw [beq_eq_false_iff_ne]; omega, by rw [beq_iff_eq]; omega, decide_eq_true (by omega), decide_eq_true (by omega), rfl⟩)))
        · exact .inr (.inr (.inr (.inr ⟨decide_eq_false (by omega), by rw [if_pos (by omega)], by rw [beq_eq_false_iff_ne]; omega, by rw [beq_eq_false_iff_ne]; omega, decide_eq_true (by omega), decide_eq_true (by omega), rfl⟩)))
      obtain ⟨o, r, z, ho, hz, five⟩ := five
      rw [ho] at BE
      rw [hz] at TT
      clear ho hz
      have hkN : decide ((k : Int) + 1 ≤ N) = true := decide_eq_true hlt
      clear hlt
      rcases five with ⟨rfl, rfl, e1, e2, g1, g2, -⟩ | ⟨rfl, rfl, e1, e2, g1, g2, -⟩ | ⟨rfl, rfl, e1, e2, g1, g2, -⟩ | ⟨rfl, rfl, e1, e2, g1, g2, -⟩ | ⟨rfl, rfl, e1, e2, g1, g2, -⟩
      all_goals
        go_wp2_with fail
        refine (back_at T.out (by omega) IA.out BE.out).mono ?_
        rintro e v4 ⟨F', rfl, h, hc, hs⟩
        have T4 := Lib.hid h
        have O4 := Lib.hid (O.out.code hc hs)
        have c2 := O4.out.k.cell 0 (.int .i64 7) rfl
        have c3 := O4.out.k.cell 1 (.int .i64 9) rfl
        clear h hc hs
        go_wp2_with fail
        refine (tier_at T4.out IA.out TT.out).mono ?_
        rintro e v5 ⟨rfl, h, hb⟩
        have T5 := Lib.hid h
        have O5 := Lib.hid (O4.out.low hb)
        clear h hb
        go_wp2_with fail
        go_roundw
        case rel => exact ⟨k + 1, t', F', K1.out, by go_num, T5, WN, O5⟩
        case measure =>
          have := K1.out
          simp [intOf]; omega
    · have hkN : decide ((k : Int) + 1 ≤ N) = false := decide_eq_false hlt
      clear hlt
      go_wp2_with fail
      go_ret
      exact ⟨rfl, T.out.b⟩
end Go.Proofs.YtjoffbgfokedlaaDoor.Pf
