/-
  The walk of CacheLast.
-/
import Derived.Test.YtpgjmmlgaanelaaDoorCl
namespace Go.Proofs.YtpgjmmlgaanelaaDoor.Ch
open Go Go.RowKit Go.Maps

set_option maxRecDepth 100000 in
set_option maxHeartbeats 16000000 in
theorem last_walk (K : Kit) (acts : List Act) (A : Option Addr) (c B : Nat) (w : World) (ha : ActS w B A acts) (hB : B ≤ w.heap.size) (hl : acts.length ≤ 5864062014634) (hok : ∀ x ∈ acts, x.OK) (hk : K.V w) :
    Calls Tryd.prog 4 #[.slice A acts.length c] w fun e w' => e = .returned (.bool true) ∧ Below w.heap.size w w' := by
  have HV := Lib.hid hk
  have HA := Lib.hid ha
  have HOK := Lib.hid hok
  clear hk ha hok
  have hmm := @run_makeMap Tryd.prog
  go_enter Tryd.func4, Tryd.ntmps4
  go_wp2_with fail
  refine (sanity_any K _ HV.out).mono ?_
  rintro e w1 ⟨rfl, hb⟩
  have B1 := Lib.hid hb
  clear hb
  go_wp2_with fail
  refine (new_at (w0 := w) HV.out B1.out).mono ?_
  rintro e w2 ⟨p, F, rfl, h, _⟩
  have TW := Lib.hid (show Lt K w (w2.alloc (.map #[] 0)) p st0 F 0 w2.heap.size [] from ⟨h.alloc _, Kn.made w2, fun e => Nat.lt_irrefl _ (K.lt h.h _ e), h.b.size⟩)
  clear h
  go_wp2_with fail
  go_loopw [5, 6] (fun mv i wr => ∃ (k : Nat) (F : Nat → Prop) (t : Ste) (m : Nat), k ≤ 60 ∧ k ≤ acts.length ∧ i = .int .i64 k ∧ mv = .map (some m) ∧ Hid (Lt K w wr p t F (2 * k) m t.l)) (fun _ i _ => 60 - (intOf i).toNat)
  case atStart => exact ⟨0, F, st0, w2.heap.size, by omega, by omega, rfl, rfl, TW⟩
  case round =>
    clear TW
    obtain ⟨k, F, t, m, h60, hk, rfl, rfl, TW⟩ := hrel
    by_cases h1 : k < acts.length
    · by_cases h2 : k < 60
      · obtain ⟨b, o, rfl, hb, c0, c1, c2⟩ := HA.out.below TW.out.a.b hB k _ (List.getElem?_eq_getElem h1)
        obtain ⟨x1, x2, x3⟩ := HOK.out _ (List.getElem_mem h1)
        generalize acts[k] = x at *
        obtain ⟨q, xa, xb⟩ := x
        simp only at c0 c1 c2 x1 x2 x3
        have h3 : (k : Int) < acts.length := by omega
        have h4 : (k : Int) < 60 := by omega
        have XA := Lib.hid x2
        have XB := Lib.hid x3
        obtain ⟨q1, q2⟩ := x1
        clear x2 x3
        obtain ⟨t4, e4, l4, g4, v4⟩ := tm q 4 (by omega)
        have r0 := Int.emod_nonneg q (show (4 : Int) ≠ 0 by omega)
        have r1 := Int.emod_lt_of_pos q (show 0 < (4 : Int) by omega)
        have KX := Lib.hid (keyOf_int_mk (P := Tryd.prog) Tryd.underlying3 (wfI XA.out))
        clear hb
        rcases (show q % 4 = 2 ∨ q % 4 = 3 ∨ (q % 4 = 0 ∨ q % 4 = 1) by omega) with hr | hr | hr
        · have v5 : (t4 + 4) % 4 = 2 := by rw [v4]; exact hr
          clear v4 hr r0 r1
          rcases learn_ways (t := t) xa xb with ⟨t', e1, e2, e3, e5⟩ | ⟨cc, t', e1, e2, e3⟩
          · have LE1 := Lib.hid e1
            have PF := Lib.hid e2
            have P3 := Lib.hid e3
            have P5 := Lib.hid e5
            clear e1 e2 e3 e5
            go_wp2_with fail
            have TX := Lib.hid (TW.out.actX (q := q) (xa := xa) (xb := xb))
            refine (learn_at TX.out.a.a XA.out XB.out LE1.out).mono ?_
            rintro e w3 ⟨F', rfl, h, c, s⟩
            have TV := Lib.hid (TX.out.step h c s (Nat.le_refl _))
            clear h c s TW TX
            have d1 := TV.out.c1
            have d2 := TV.out.c2
            obtain ⟨D, ho, hD⟩ := TV.out.a.k
            have HD := Lib.hid hD
            have TD := Lib.hid (ho.tidy intLaw)
            clear hD
            go_wp2_with (at_mapUpdate; refine wpList_mapUpdate_own _ rfl _ _ _ 33 rfl 3 3 intLaw Tryd.underlying33 _ m (2 * k) _ rfl ho (by unfold maxLen; omega) _ _ _ rfl rfl KX.out _ [] (plainElem_int Tryd.underlying3 (wfI XB.out)) ?_)
            intro w4 ho1 hg1
            have TW := Lib.hid (TV.out.up (show 2 * k ≤ 2 * k + 1 by omega) (by omega) |>.turn hg1 ⟨_, ho1, HD.out.put TD.out XA.out P3.out P5.out⟩)
            clear ho ho1 hg1 TV d1 d2
            obtain ⟨st, hst⟩ : ∃ st, t'.state = st := ⟨_, rfl⟩
            have sne : ¬ st = 3 := by rw [← hst]; exact state_ne PF.out
            have ST := Lib.hid hst
            clear hst
            go_wp2_with fail
            refine (state_at TW.out.a.a ST.out).mono ?_
            rintro e ws ⟨rfl, _, hb⟩
            replace TW := Lib.hid (TW.out.below hb)
            clear hb
            obtain ⟨N, hN⟩ : ∃ N, t'.l.length = N := ⟨_, rfl⟩
            have N4 : N ≤ 4 := by rw [← hN]; exact TW.out.a.a.k.len
            have LN := Lib.hid hN
            clear hN
            cases hl : lk xa t'.l with
            | some bb =>
              obtain ⟨t2, ht2⟩ : ∃ t2, ({ t' with hits := t'.hits + 1 } : Ste) = t2 := ⟨_, rfl⟩
              have FE := Lib.hid (show t'.find xa = ((bb, true), t2) by rw [← ht2]; exact find_some hl)
              have SH := Lib.hid (show t2.shapes.length = N by rw [← ht2, ← LN.out]; show (t'.l.map (·.1)).length = _; rw [List.length_map])
              have L2 := Lib.hid (show t2.l = t'.l by rw [← ht2])
              have F2 := Lib.hid (show t2.full = t'.full by rw [← ht2])
              have HL := Lib.hid hl
              clear ht2 hl
              have d1 := TW.out.c1
              go_wp2_with fail
              clear d1
              refine (find_at TW.out.a.a (by omega) XA.out FE.out).mono ?_
              rintro e wf ⟨F4, rfl, h, c, s⟩
              replace TW := Lib.hid (TW.out.step h c s (by omega))
              clear h c s
              have d1 := TW.out.c1
              have LK := TW.out.a.k.look XA.out
              rw [HL.out] at LK
              go_wp2_with fail
              clear LK d1
              refine (shapes_at TW.out.a.a rfl).mono ?_
              rintro e wg ⟨v, rfl, ho, _, hb⟩
              obtain ⟨A1, c1, rfl, _⟩ := ho.form
              rw [SH.out]
              replace TW := Lib.hid (TW.out.below hb)
              clear hb ho
              have LE := TW.out.a.k.len
              rw [LN.out] at LE
              go_wp2_with fail
              go_roundw
              case rel => exact ⟨k + 1, _, t2, m, by omega, by omega, by go_num, rfl, Lib.hid (by rw [L2.out]; exact TW.out.a.up (by omega) (by omega))⟩
              case measure => simp [intOf]; omega
            | none =>
              obtain ⟨t2, ht2⟩ : ∃ t2, ({ t' with miss := t'.miss + 1 } : Ste) = t2 := ⟨_, rfl⟩
              have FE := Lib.hid (show t'.find xa = ((0, false), t2) by rw [← ht2]; exact find_none hl)
              have SH := Lib.hid (show t2.shapes.length = N by rw [← ht2, ← LN.out]; show (t'.l.map (·.1)).length = _; rw [List.length_map])
              have L2 := Lib.hid (show t2.l = t'.l by rw [← ht2])
              have HL := Lib.hid hl
              clear ht2 hl
              have d1 := TW.out.c1
              go_wp2_with fail
              clear d1
              refine (find_at TW.out.a.a (by omega) XA.out FE.out).mono ?_
              rintro e wf ⟨F4, rfl, h, c, s⟩
              replace TW := Lib.hid (TW.out.step h c s (by omega))
              clear h c s
              have d1 := TW.out.c1
              have LK := TW.out.a.k.look XA.out
              rw [HL.out] at LK
              go_wp2_with fail
              clear LK d1
              refine (shapes_at TW.out.a.a rfl).mono ?_
              rintro e wg ⟨v, rfl, ho, _, hb⟩
              obtain ⟨A1, c1, rfl, _⟩ := ho.form
              rw [SH.out]
              replace TW := Lib.hid (TW.out.below hb)
              clear hb ho
              have LE := TW.out.a.k.len
              rw [LN.out] at LE
              go_wp2_with fail
              go_roundw
              case rel => exact ⟨k + 1, _, t2, m, by omega, by omega, by go_num, rfl, Lib.hid (by rw [L2.out]; exact TW.out.a.up (by omega) (by omega))⟩
              case measure => simp [intOf]; omega
          · have LE1 := Lib.hid e1
            have cne : ¬ cc = 0 := by omega
            clear e1
            rcases e3 with ⟨e4', e5⟩ | ⟨e4', e5⟩
            · have P5 := Lib.hid e5
              have P4 := Lib.hid e4'
              clear e5 e4' e2
              cases hf : t.full
              · have PF := Lib.hid (show t'.full = false by rw [P4.out]; exact hf)
                clear hf
                go_wp2_with fail
                have TX := Lib.hid (TW.out.actX (q := q) (xa := xa) (xb := xb))
                refine (learn_at TX.out.a.a XA.out XB.out LE1.out).mono ?_
                rintro e w3 ⟨F', rfl, h, c, s⟩
                have TV := Lib.hid (TX.out.step h c s (Nat.le_refl _))
                clear h c s TW TX
                have TW := Lib.hid (show Lx K w w3 p t' F' (2 * k) m t'.l wr.heap.size q xa xb by rw [P5.out]; exact TV.out)
                clear TV
                obtain ⟨st, hst⟩ : ∃ st, t'.state = st := ⟨_, rfl⟩
                have sne : ¬ st = 3 := by rw [← hst]; exact state_ne PF.out
                have ST := Lib.hid hst
                clear hst
                go_wp2_with fail
                refine (state_at TW.out.a.a ST.out).mono ?_
                rintro e ws ⟨rfl, _, hb⟩
                replace TW := Lib.hid (TW.out.below hb)
                clear hb
                obtain ⟨N, hN⟩ : ∃ N, t'.l.length = N := ⟨_, rfl⟩
                have N4 : N ≤ 4 := by rw [← hN]; exact TW.out.a.a.k.len
                have LN := Lib.hid hN
                clear hN
                cases hl : lk xa t'.l with
                | some bb =>
                  obtain ⟨t2, ht2⟩ : ∃ t2, ({ t' with hits := t'.hits + 1 } : Ste) = t2 := ⟨_, rfl⟩
                  have FE := Lib.hid (show t'.find xa = ((bb, true), t2) by rw [← ht2]; exact find_some hl)
                  have SH := Lib.hid (show t2.shapes.length = N by rw [← ht2, ← LN.out]; show (t'.l.map (·.1)).length = _; rw [List.length_map])
                  have L2 := Lib.hid (show t2.l = t'.l by rw [← ht2])
                  have F2 := Lib.hid (show t2.full = t'.full by rw [← ht2])
                  have HL := Lib.hid hl
                  clear ht2 hl
                  have d1 := TW.out.c1
                  go_wp2_with fail
                  clear d1
                  refine (find_at TW.out.a.a (by omega) XA.out FE.out).mono ?_
                  rintro e wf ⟨F4, rfl, h, c, s⟩
                  replace TW := Lib.hid (TW.out.step h c s (by omega))
                  clear h c s
                  have d1 := TW.out.c1
                  have LK := TW.out.a.k.look XA.out
                  rw [HL.out] at LK
                  go_wp2_with fail
                  clear LK d1
                  refine (shapes_at TW.out.a.a rfl).mono ?_
                  rintro e wg ⟨v, rfl, ho, _, hb⟩
                  obtain ⟨A1, c1, rfl, _⟩ := ho.form
                  rw [SH.out]
                  replace TW := Lib.hid (TW.out.below hb)
                  clear hb ho
                  have LE := TW.out.a.k.len
                  rw [LN.out] at LE
                  go_wp2_with fail
                  go_roundw
                  case rel => exact ⟨k + 1, _, t2, m, by omega, by omega, by go_num, rfl, Lib.hid (by rw [L2.out]; exact TW.out.a.up (by omega) (by omega))⟩
                  case measure => simp [intOf]; omega
                | none =>
                  obtain ⟨t2, ht2⟩ : ∃ t2, ({ t' with miss := t'.miss + 1 } : Ste) = t2 := ⟨_, rfl⟩
                  have FE := Lib.hid (show t'.find xa = ((0, false), t2) by rw [← ht2]; exact find_none hl)
                  have SH := Lib.hid (show t2.shapes.length = N by rw [← ht2, ← LN.out]; show (t'.l.map (·.1)).length = _; rw [List.length_map])
                  have L2 := Lib.hid (show t2.l = t'.l by rw [← ht2])
                  have HL := Lib.hid hl
                  clear ht2 hl
                  have d1 := TW.out.c1
                  go_wp2_with fail
                  clear d1
                  refine (find_at TW.out.a.a (by omega) XA.out FE.out).mono ?_
                  rintro e wf ⟨F4, rfl, h, c, s⟩
                  replace TW := Lib.hid (TW.out.step h c s (by omega))
                  clear h c s
                  have d1 := TW.out.c1
                  have LK := TW.out.a.k.look XA.out
                  rw [HL.out] at LK
                  go_wp2_with fail
                  clear LK d1
                  refine (shapes_at TW.out.a.a rfl).mono ?_
                  rintro e wg ⟨v, rfl, ho, _, hb⟩
                  obtain ⟨A1, c1, rfl, _⟩ := ho.form
                  rw [SH.out]
                  replace TW := Lib.hid (TW.out.below hb)
                  clear hb ho
                  have LE := TW.out.a.k.len
                  rw [LN.out] at LE
                  go_wp2_with fail
                  go_roundw
                  case rel => exact ⟨k + 1, _, t2, m, by omega, by omega, by go_num, rfl, Lib.hid (by rw [L2.out]; exact TW.out.a.up (by omega) (by omega))⟩
                  case measure => simp [intOf]; omega
              · have PF := Lib.hid (show t'.full = true by rw [P4.out]; exact hf)
                clear hf
                go_wp2_with fail
                have TX := Lib.hid (TW.out.actX (q := q) (xa := xa) (xb := xb))
                refine (learn_at TX.out.a.a XA.out XB.out LE1.out).mono ?_
                rintro e w3 ⟨F', rfl, h, c, s⟩
                have TV := Lib.hid (TX.out.step h c s (Nat.le_refl _))
                clear h c s TW TX
                have TA := TV
                clear TV
                have ST := Lib.hid (state_full PF.out)
                have LZ := Lib.hid (TA.out.a.a.k.fl PF.out)
                go_wp2_with fail
                refine (state_at TA.out.a.a ST.out).mono ?_
                rintro e ws ⟨rfl, _, hb⟩
                replace TA := Lib.hid (TA.out.below hb)
                clear hb
                obtain ⟨t2, ht2⟩ : ∃ t2, ({ t' with miss := t'.miss + 1 } : Ste) = t2 := ⟨_, rfl⟩
                have FE := Lib.hid (show t'.find xa = ((0, false), t2) by rw [← ht2]; exact find_none (by rw [LZ.out]; rfl))
                have SH := Lib.hid (show t2.shapes = [] by rw [← ht2]; show t'.l.map (·.1) = []; rw [LZ.out]; rfl)
                have L2 := Lib.hid (show t2.l = [] by rw [← ht2]; exact LZ.out)
                clear ht2
                have TW := Lib.hid TA.out.anew
                have d1 := TW.out.c1
                go_wp2_with fail
                clear d1
                refine (find_at TW.out.a.a (by omega) XA.out FE.out).mono ?_
                rintro e wf ⟨F4, rfl, h, c, s⟩
                replace TW := Lib.hid (TW.out.step h c s (by omega))
                clear h c s
                have d1 := TW.out.c1
                have LK := TW.out.a.k.look XA.out
                go_wp2_with fail
                clear LK d1
                refine (shapes_at TW.out.a.a SH.out).mono ?_
                rintro e wg ⟨v, rfl, ho, _, hb⟩
                obtain ⟨A1, c1, rfl, _⟩ := ho.form
                replace TW := Lib.hid (TW.out.below hb)
                clear hb ho
                have LE := TW.out.a.k.len
                go_wp2_with fail
                go_roundw
                case rel => exact ⟨k + 1, _, t2, ws.heap.size, by omega, by omega, by go_num, rfl, Lib.hid (by rw [L2.out]; exact TW.out.a.up (by omega) (by omega))⟩
                case measure => simp [intOf]; omega
            · have PF := Lib.hid e4'
              clear e4' e5 e2
              go_wp2_with fail
              have TX := Lib.hid (TW.out.actX (q := q) (xa := xa) (xb := xb))
              refine (learn_at TX.out.a.a XA.out XB.out LE1.out).mono ?_
              rintro e w3 ⟨F', rfl, h, c, s⟩
              have TV := Lib.hid (TX.out.step h c s (Nat.le_refl _))
              clear h c s TW TX
              have TA := TV
              clear TV
              have ST := Lib.hid (state_full PF.out)
              have LZ := Lib.hid (TA.out.a.a.k.fl PF.out)
              go_wp2_with fail
              refine (state_at TA.out.a.a ST.out).mono ?_
              rintro e ws ⟨rfl, _, hb⟩
              replace TA := Lib.hid (TA.out.below hb)
              clear hb
              obtain ⟨t2, ht2⟩ : ∃ t2, ({ t' with miss := t'.miss + 1 } : Ste) = t2 := ⟨_, rfl⟩
              have FE := Lib.hid (show t'.find xa = ((0, false), t2) by rw [← ht2]; exact find_none (by rw [LZ.out]; rfl))
              have SH := Lib.hid (show t2.shapes = [] by rw [← ht2]; show t'.l.map (·.1) = []; rw [LZ.out]; rfl)
              have L2 := Lib.hid (show t2.l = [] by rw [← ht2]; exact LZ.out)
              clear ht2
              have TW := Lib.hid TA.out.anew
              have d1 := TW.out.c1
              go_wp2_with fail
              clear d1
              refine (find_at TW.out.a.a (by omega) XA.out FE.out).mono ?_
              rintro e wf ⟨F4, rfl, h, c, s⟩
              replace TW := Lib.hid (TW.out.step h c s (by omega))
              clear h c s
              have d1 := TW.out.c1
              have LK := TW.out.a.k.look XA.out
              go_wp2_with fail
              clear LK d1
              refine (shapes_at TW.out.a.a SH.out).mono ?_
              rintro e wg ⟨v, rfl, ho, _, hb⟩
              obtain ⟨A1, c1, rfl, _⟩ := ho.form
              replace TW := Lib.hid (TW.out.below hb)
              clear hb ho
              have LE := TW.out.a.k.len
              go_wp2_with fail
              go_roundw
              case rel => exact ⟨k + 1, _, t2, ws.heap.size, by omega, by omega, by go_num, rfl, Lib.hid (by rw [L2.out]; exact TW.out.a.up (by omega) (by omega))⟩
              case measure => simp [intOf]; omega
        · have v5 : (t4 + 4) % 4 = 3 := by rw [v4]; exact hr
          clear v4 hr r0 r1
          obtain ⟨t', ht'⟩ : ∃ t', (t.forget xa).2 = t' := ⟨_, rfl⟩
          obtain ⟨y, hy⟩ : ∃ y, (lk xa t.l).isSome = y := ⟨_, rfl⟩
          have LE1 := Lib.hid (show t.forget xa = (y, t') by rw [← ht', ← hy]; rfl)
          have DL := Lib.hid (show t'.l = del xa t.l by rw [← ht']; rfl)
          have FU := Lib.hid (show t'.full = t.full by rw [← ht']; rfl)
          have ND := Lib.hid TW.out.a.k.nd
          have TX := Lib.hid (TW.out.actX (q := q) (xa := xa) (xb := xb))
          have LK := TX.out.a.k.look XA.out
          rw [hy] at LK
          clear ht' hy
          go_wp2_with fail
          clear LK
          refine (forget_at TX.out.a.a XA.out LE1.out).mono ?_
          rintro e w3 ⟨F', rfl, h, c, s⟩
          have TV := Lib.hid (TX.out.step h c s (Nat.le_refl _))
          clear h c s TW TX
          have d1 := TV.out.c1
          obtain ⟨D, ho, hD⟩ := TV.out.a.k
          have HD := Lib.hid hD
          have TD := Lib.hid (ho.tidy intLaw)
          clear hD
          go_wp2_with (at_delete; refine wpList_delete_own _ rfl _ _ 33 3 rfl 3 intLaw Tryd.underlying33 _ m (2 * k) D rfl ho _ _ rfl KX.out ?_)
          intro w4 ho1 hg1
          have TW := Lib.hid (show Lx K w w4 p t' F' (2 * k) m t'.l wr.heap.size q xa xb by rw [DL.out]; exact TV.out.turn hg1.grown ⟨_, ho1, HD.out.del TD.out XA.out ND.out⟩)
          clear ho ho1 hg1 TV d1
          cases hf : t.full
          · have PF := Lib.hid (show t'.full = false by rw [FU.out]; exact hf)
            clear hf
            obtain ⟨st, hst⟩ : ∃ st, t'.state = st := ⟨_, rfl⟩
            have sne : ¬ st = 3 := by rw [← hst]; exact state_ne PF.out
            have ST := Lib.hid hst
            clear hst
            go_wp2_with fail
            refine (state_at TW.out.a.a ST.out).mono ?_
            rintro e ws ⟨rfl, _, hb⟩
            replace TW := Lib.hid (TW.out.below hb)
            clear hb
            obtain ⟨N, hN⟩ : ∃ N, t'.l.length = N := ⟨_, rfl⟩
            have N4 : N ≤ 4 := by rw [← hN]; exact TW.out.a.a.k.len
            have LN := Lib.hid hN
            clear hN
            cases hl : lk xa t'.l with
            | some bb =>
              obtain ⟨t2, ht2⟩ : ∃ t2, ({ t' with hits := t'.hits + 1 } : Ste) = t2 := ⟨_, rfl⟩
              have FE := Lib.hid (show t'.find xa = ((bb, true), t2) by rw [← ht2]; exact find_some hl)
              have SH := Lib.hid (show t2.shapes.length = N by rw [← ht2, ← LN.out]; show (t'.l.map (·.1)).length = _; rw [List.length_map])
              have L2 := Lib.hid (show t2.l = t'.l by rw [← ht2])
              have F2 := Lib.hid (show t2.full = t'.full by rw [← ht2])
              have HL := Lib.hid hl
              clear ht2 hl
              have d1 := TW.out.c1
              go_wp2_with fail
              clear d1
              refine (find_at TW.out.a.a (by omega) XA.out FE.out).mono ?_
              rintro e wf ⟨F4, rfl, h, c, s⟩
              replace TW := Lib.hid (TW.out.step h c s (by omega))
              clear h c s
              have d1 := TW.out.c1
              have LK := TW.out.a.k.look XA.out
              rw [HL.out] at LK
              go_wp2_with fail
              clear LK d1
              refine (shapes_at TW.out.a.a rfl).mono ?_
              rintro e wg ⟨v, rfl, ho, _, hb⟩
              obtain ⟨A1, c1, rfl, _⟩ := ho.form
              rw [SH.out]
              replace TW := Lib.hid (TW.out.below hb)
              clear hb ho
              have LE := TW.out.a.k.len
              rw [LN.out] at LE
              go_wp2_with fail
              go_roundw
              case rel => exact ⟨k + 1, _, t2, m, by omega, by omega, by go_num, rfl, Lib.hid (by rw [L2.out]; exact TW.out.a.up (by omega) (by omega))⟩
              case measure => simp [intOf]; omega
            | none =>
              obtain ⟨t2, ht2⟩ : ∃ t2, ({ t' with miss := t'.miss + 1 } : Ste) = t2 := ⟨_, rfl⟩
              have FE := Lib.hid (show t'.find xa = ((0, false), t2) by rw [← ht2]; exact find_none hl)
              have SH := Lib.hid (show t2.shapes.length = N by rw [← ht2, ← LN.out]; show (t'.l.map (·.1)).length = _; rw [List.length_map])
              have L2 := Lib.hid (show t2.l = t'.l by rw [← ht2])
              have HL := Lib.hid hl
              clear ht2 hl
              have d1 := TW.out.c1
              go_wp2_with fail
              clear d1
              refine (find_at TW.out.a.a (by omega) XA.out FE.out).mono ?_
              rintro e wf ⟨F4, rfl, h, c, s⟩
              replace TW := Lib.hid (TW.out.step h c s (by omega))
              clear h c s
              have d1 := TW.out.c1
              have LK := TW.out.a.k.look XA.out
              rw [HL.out] at LK
              go_wp2_with fail
              clear LK d1
              refine (shapes_at TW.out.a.a rfl).mono ?_
              rintro e wg ⟨v, rfl, ho, _, hb⟩
              obtain ⟨A1, c1, rfl, _⟩ := ho.form
              rw [SH.out]
              replace TW := Lib.hid (TW.out.below hb)
              clear hb ho
              have LE := TW.out.a.k.len
              rw [LN.out] at LE
              go_wp2_with fail
              go_roundw
              case rel => exact ⟨k + 1, _, t2, m, by omega, by omega, by go_num, rfl, Lib.hid (by rw [L2.out]; exact TW.out.a.up (by omega) (by omega))⟩
              case measure => simp [intOf]; omega
          · have PF := Lib.hid (show t'.full = true by rw [FU.out]; exact hf)
            have TA := TW
            clear hf TW
            have ST := Lib.hid (state_full PF.out)
            have LZ := Lib.hid (TA.out.a.a.k.fl PF.out)
            go_wp2_with fail
            refine (state_at TA.out.a.a ST.out).mono ?_
            rintro e ws ⟨rfl, _, hb⟩
            replace TA := Lib.hid (TA.out.below hb)
            clear hb
            obtain ⟨t2, ht2⟩ : ∃ t2, ({ t' with miss := t'.miss + 1 } : Ste) = t2 := ⟨_, rfl⟩
            have FE := Lib.hid (show t'.find xa = ((0, false), t2) by rw [← ht2]; exact find_none (by rw [LZ.out]; rfl))
            have SH := Lib.hid (show t2.shapes = [] by rw [← ht2]; show t'.l.map (·.1) = []; rw [LZ.out]; rfl)
            have L2 := Lib.hid (show t2.l = [] by rw [← ht2]; exact LZ.out)
            clear ht2
            have TW := Lib.hid TA.out.anew
            have d1 := TW.out.c1
            go_wp2_with fail
            clear d1
            refine (find_at TW.out.a.a (by omega) XA.out FE.out).mono ?_
            rintro e wf ⟨F4, rfl, h, c, s⟩
            replace TW := Lib.hid (TW.out.step h c s (by omega))
            clear h c s
            have d1 := TW.out.c1
            have LK := TW.out.a.k.look XA.out
            go_wp2_with fail
            clear LK d1
            refine (shapes_at TW.out.a.a SH.out).mono ?_
            rintro e wg ⟨v, rfl, ho, _, hb⟩
            obtain ⟨A1, c1, rfl, _⟩ := ho.form
            replace TW := Lib.hid (TW.out.below hb)
            clear hb ho
            have LE := TW.out.a.k.len
            go_wp2_with fail
            go_roundw
            case rel => exact ⟨k + 1, _, t2, ws.heap.size, by omega, by omega, by go_num, rfl, Lib.hid (by rw [L2.out]; exact TW.out.a.up (by omega) (by omega))⟩
            case measure => simp [intOf]; omega
        · have n2 : ¬ (t4 + 4) % 4 = 2 := by rw [v4]; omega
          have n3 : ¬ (t4 + 4) % 4 = 3 := by rw [v4]; omega
          clear v4 hr r0 r1
          rename Ste => t'
          replace TW := Lib.hid (TW.out.actX (q := q) (xa := xa) (xb := xb))
          cases hf : t'.full
          · have PF := Lib.hid hf
            clear hf
            obtain ⟨st, hst⟩ : ∃ st, t'.state = st := ⟨_, rfl⟩
            have sne : ¬ st = 3 := by rw [← hst]; exact state_ne PF.out
            have ST := Lib.hid hst
            clear hst
            go_wp2_with fail
            refine (state_at TW.out.a.a ST.out).mono ?_
            rintro e ws ⟨rfl, _, hb⟩
            replace TW := Lib.hid (TW.out.below hb)
            clear hb
            obtain ⟨N, hN⟩ : ∃ N, t'.l.length = N := ⟨_, rfl⟩
            have N4 : N ≤ 4 := by rw [← hN]; exact TW.out.a.a.k.len
            have LN := Lib.hid hN
            clear hN
            cases hl : lk xa t'.l with
            | some bb =>
              obtain ⟨t2, ht2⟩ : ∃ t2, ({ t' with hits := t'.hits + 1 } : Ste) = t2 := ⟨_, rfl⟩
              have FE := Lib.hid (show t'.find xa = ((bb, true), t2) by rw [← ht2]; exact find_some hl)
              have SH := Lib.hid (show t2.shapes.length = N by rw [← ht2, ← LN.out]; show (t'.l.map (·.1)).length = _; rw [List.length_map])
              have L2 := Lib.hid (show t2.l = t'.l by rw [← ht2])
              have F2 := Lib.hid (show t2.full = t'.full by rw [← ht2])
              have HL := Lib.hid hl
              clear ht2 hl
              have d1 := TW.out.c1
              go_wp2_with fail
              clear d1
              refine (find_at TW.out.a.a (by omega) XA.out FE.out).mono ?_
              rintro e wf ⟨F4, rfl, h, c, s⟩
              replace TW := Lib.hid (TW.out.step h c s (by omega))
              clear h c s
              have d1 := TW.out.c1
              have LK := TW.out.a.k.look XA.out
              rw [HL.out] at LK
              go_wp2_with fail
              clear LK d1
              refine (shapes_at TW.out.a.a rfl).mono ?_
              rintro e wg ⟨v, rfl, ho, _, hb⟩
              obtain ⟨A1, c1, rfl, _⟩ := ho.form
              rw [SH.out]
              replace TW := Lib.hid (TW.out.below hb)
              clear hb ho
              have LE := TW.out.a.k.len
              rw [LN.out] at LE
              go_wp2_with fail
              go_roundw
              case rel => exact ⟨k + 1, _, t2, m, by omega, by omega, by go_num, rfl, Lib.hid (by rw [L2.out]; exact TW.out.a.up (by omega) (by omega))⟩
              case measure => simp [intOf]; omega
            | none =>
              obtain ⟨t2, ht2⟩ : ∃ t2, ({ t' with miss := t'.miss + 1 } : Ste) = t2 := ⟨_, rfl⟩
              have FE := Lib.hid (show t'.find xa = ((0, false), t2) by rw [← ht2]; exact find_none hl)
              have SH := Lib.hid (show t2.shapes.length = N by rw [← ht2, ← LN.out]; show (t'.l.map (·.1)).length = _; rw [List.length_map])
              have L2 := Lib.hid (show t2.l = t'.l by rw [← ht2])
              have HL := Lib.hid hl
              clear ht2 hl
              have d1 := TW.out.c1
              go_wp2_with fail
              clear d1
              refine (find_at TW.out.a.a (by omega) XA.out FE.out).mono ?_
              rintro e wf ⟨F4, rfl, h, c, s⟩
              replace TW := Lib.hid (TW.out.step h c s (by omega))
              clear h c s
              have d1 := TW.out.c1
              have LK := TW.out.a.k.look XA.out
              rw [HL.out] at LK
              go_wp2_with fail
              clear LK d1
              refine (shapes_at TW.out.a.a rfl).mono ?_
              rintro e wg ⟨v, rfl, ho, _, hb⟩
              obtain ⟨A1, c1, rfl, _⟩ := ho.form
              rw [SH.out]
              replace TW := Lib.hid (TW.out.below hb)
              clear hb ho
              have LE := TW.out.a.k.len
              rw [LN.out] at LE
              go_wp2_with fail
              go_roundw
              case rel => exact ⟨k + 1, _, t2, m, by omega, by omega, by go_num, rfl, Lib.hid (by rw [L2.out]; exact TW.out.a.up (by omega) (by omega))⟩
              case measure => simp [intOf]; omega
          · have PF := Lib.hid hf
            have TA := TW
            clear hf TW
            have ST := Lib.hid (state_full PF.out)
            have LZ := Lib.hid (TA.out.a.a.k.fl PF.out)
            go_wp2_with fail
            refine (state_at TA.out.a.a ST.out).mono ?_
            rintro e ws ⟨rfl, _, hb⟩
            replace TA := Lib.hid (TA.out.below hb)
            clear hb
            obtain ⟨t2, ht2⟩ : ∃ t2, ({ t' with miss := t'.miss + 1 } : Ste) = t2 := ⟨_, rfl⟩
            have FE := Lib.hid (show t'.find xa = ((0, false), t2) by rw [← ht2]; exact find_none (by rw [LZ.out]; rfl))
            have SH := Lib.hid (show t2.shapes = [] by rw [← ht2]; show t'.l.map (·.1) = []; rw [LZ.out]; rfl)
            have L2 := Lib.hid (show t2.l = [] by rw [← ht2]; exact LZ.out)
            clear ht2
            have TW := Lib.hid TA.out.anew
            have d1 := TW.out.c1
            go_wp2_with fail
            clear d1
            refine (find_at TW.out.a.a (by omega) XA.out FE.out).mono ?_
            rintro e wf ⟨F4, rfl, h, c, s⟩
            replace TW := Lib.hid (TW.out.step h c s (by omega))
            clear h c s
            have d1 := TW.out.c1
            have LK := TW.out.a.k.look XA.out
            go_wp2_with fail
            clear LK d1
            refine (shapes_at TW.out.a.a SH.out).mono ?_
            rintro e wg ⟨v, rfl, ho, _, hb⟩
            obtain ⟨A1, c1, rfl, _⟩ := ho.form
            replace TW := Lib.hid (TW.out.below hb)
            clear hb ho
            have LE := TW.out.a.k.len
            go_wp2_with fail
            go_roundw
            case rel => exact ⟨k + 1, _, t2, ws.heap.size, by omega, by omega, by go_num, rfl, Lib.hid (by rw [L2.out]; exact TW.out.a.up (by omega) (by omega))⟩
            case measure => simp [intOf]; omega
      · obtain rfl : k = 60 := by omega
        go_wp2_with fail
        go_ret
        exact ⟨rfl, TW.out.a.b⟩
    · obtain rfl : k = acts.length := by omega
      go_wp2_with fail
      go_ret
      exact ⟨rfl, TW.out.a.b⟩
end Go.Proofs.YtpgjmmlgaanelaaDoor.Ch
