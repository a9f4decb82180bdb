/-
  The walk of ShapeLooks.
-/
import Derived.Test.YtjodmjadpooipaaGreatDoorTp
import Derived.Test.YtjodmjadpooipaaGreatDoorTl
namespace Go.Proofs.YtjodmjadpooipaaGreatDoor.Sh
open Go Go.RowKit

set_option maxRecDepth 100000 in
set_option maxHeartbeats 16000000 in
theorem looks_walk (K : Kit) (RK : RefKit) (n z0 z1 z2 : Int) (hn : I64 n) (h0 : I64 z0) (h1 : I64 z1) (h2 : I64 z2) (acts : List Act) (A : Option Addr) (c B : Nat) (w : World) (ha : ActS w B A acts) (hB : B ≤ w.heap.size) (hl : acts.length ≤ 4398046511104) (hok : ∀ x ∈ acts, x.OK) (hv : K.V w) :
    Calls Tryz.prog 3 #[.int .i64 n, .slice A acts.length c, .agg #[.int .i64 z0, .int .i64 z1, .int .i64 z2]] w fun e w' => e = .returned (.bool true) ∧ Below w.heap.size w w' := by
  have HA := Lib.hid ha
  have HOK := Lib.hid hok
  have HN := Lib.hid hn
  have HV := Lib.hid hv
  have I0 := Lib.hid h0
  have I1 := Lib.hid h1
  have I2 := Lib.hid h2
  clear hv ha hok hn h0 h1 h2
  go_enter Tryz.func3, Tryz.ntmps3
  go_wp2_with fail
  refine (sanity_any K _ (K.vkeep HV.out ((Below.refl _ w).alloc (Nat.le_refl _) _))).mono ?_
  rintro e w1 ⟨rfl, hb⟩
  have BX := Lib.hid ((Bk.new w #[.int .i64 z0, .int .i64 z1, .int .i64 z2] 23).below hb (by simp))
  have B1 := Lib.hid (((Below.refl _ w).alloc (Nat.le_refl _) (.cells #[.int .i64 z0, .int .i64 z1, .int .i64 z2] 23)).trans (hb.mono (by simp)))
  clear hb
  go_wp2_with fail
  refine (played_any K n HN.out acts A c B _ (HA.out.below B1.out hB) (by have := B1.out.size; omega) hl HOK.out (K.vkeep HV.out B1.out)).mono ?_
  rintro e w2 ⟨p, F, rfl, hs⟩
  have HS := Lib.hid hs
  have HI := Lib.hid (cls_inv n)
  have HSR := Lib.hid (srt_new (clsOf n))
  have FL := clsOf_len n
  clear hs
  go_wp2_with fail
  refine (classes_any n HN.out _).mono ?_
  rintro e w4 ⟨g', rfl, hg, hc, hb⟩
  have HS4 := Lib.hid (HS.out.below hb)
  clear hb hg HS
  go_wp2_with fail
  refine (RK.new _ _ _ _ hc (by omega) ?_ (by omega)).mono ?_
  · intro ns h; rcases clsOf_mem n ns h with rfl | rfl <;> decide
  rintro e w5 ⟨q, G, rfl, hr, hb, hG⟩
  have TW := Lib.hid (show Tw K w1 w5 p (playT (newT (clsOf n)) (acts.take 60)) F q (newT (clsOf n)) G from ⟨HS4.out.below hb, hr, fun b hb => Nat.le_trans HS4.out.b.size (hG b hb), fun b hb e => by have := hG b hb; have := K.lt HS4.out.h b e; omega⟩)
  clear hc hr hb hG HS4
  generalize newT (clsOf n) = t0 at *
  have IN := Lib.hid (playT_inv (acts.take 60) HI.out)
  have SRT := Lib.hid (playT_srt (acts.take 60) HI.out HSR.out)
  obtain ⟨T, hT⟩ : ∃ T, playT t0 (acts.take 60) = T := ⟨_, rfl⟩
  rw [hT] at TW IN SRT
  have PT := Lib.hid hT
  clear hT
  have BW := Lib.hid (Nat.le_trans hB B1.out.size)
  go_wp2_with fail
  go_loopw [10] (fun i wr => ∃ (k : Nat) (G : Nat → Prop), k ≤ 60 ∧ k ≤ acts.length ∧ i = .int .i64 k ∧ Hid (Tw K w1 wr p T F q (playT t0 (acts.take k)) G)) (fun i _ => 60 - (intOf i).toNat)
  case atStart => exact ⟨0, G, by omega, by omega, rfl, TW⟩
  case round =>
    clear TW
    obtain ⟨k, G, h60, hk, rfl, TW⟩ := hrel
    by_cases hkk : k < acts.length ∧ k < 60
    · obtain ⟨h1, h2⟩ := hkk
      obtain ⟨b, o, rfl, hb, c0, c1, c2, c3⟩ := HA.out.below (B1.out.trans (TW.out.a.b.mono B1.out.size)) hB k _ (List.getElem?_eq_getElem h1)
      have HX := Lib.hid (HOK.out _ (List.getElem_mem h1))
      have PL := Lib.hid (play_next t0 acts k h1)
      have INk := Lib.hid (playT_inv (acts.take k) HI.out)
      have SRk := Lib.hid (playT_srt (acts.take k) HI.out HSR.out)
      generalize acts[k] = x at *
      generalize playT t0 (acts.take k) = t at *
      have h3 : (k : Int) < acts.length := by omega
      have h4 : (k : Int) < 60 := by omega
      clear hb
      go_wp2_with fail
      refine (RK.doo _ q t G _ x TW.out.r INk.out SRk.out HX.out).mono ?_
      rintro e w4 ⟨G', rfl, g1, g2, g3⟩
      rw [← PL.out] at g1
      replace TW := Lib.hid (TW.out.ref g1 g2 g3)
      clear g1 g2 g3 c0 c1 c2 c3
      go_wp2_with fail
      go_roundw
      case rel => exact ⟨k + 1, G', by omega, by omega, by go_num, TW⟩
      case measure => simp [intOf]; omega
    · have e60 : acts.take k = acts.take 60 := by
        rcases (show k = 60 ∨ k = acts.length by omega) with e | e
        · rw [e]
        · rw [e, List.take_length, List.take_of_length_le (by omega)]
      rw [e60, PT.out] at TW
      have hk3 : ¬ ((k : Int) < acts.length ∧ (k : Int) < 60) := by omega
      obtain ⟨N, hN⟩ : ∃ N, T.L.length = N := ⟨_, rfl⟩
      have N2 : N ≤ 200 := by rw [← hN]; exact IN.out.ok.wf.few
      have LN := Lib.hid hN
      have W := Lib.hid IN.out.ok.wf
      have H64 := Lib.hid (show ∀ s, (T.sh s).names.length ≤ 200 from fun s => Nat.le_trans (names_len IN.out s) (by omega))
      clear hN e60
      by_cases h1 : k < acts.length
      · have h60' : k = 60 := by omega
        subst h60'
        clear hkk hk3
        go_wp2_with fail
        go_loopw [11] (fun i wr => ∃ j : Nat, j ≤ N + 2 ∧ i = .int .i64 ((j : Int) - 1) ∧ Hid (Tw K w1 wr p T F q T G)) (fun i _ => (N + 1 - intOf i).toNat)
        case atStart => exact ⟨0, by omega, rfl, TW⟩
        case round =>
          clear TW
          obtain ⟨j, hj, rfl, TW⟩ := hrel
          obtain ⟨si, hsi⟩ : ∃ si : Int, (j : Int) - 1 = si := ⟨_, rfl⟩
          rw [hsi]
          have CI := Lib.hid hsi
          have s1 : -1 ≤ si := by omega
          have s2 : si ≤ N + 1 := by omega
          by_cases hlt : si ≤ N
          · have jN : j ≤ N + 1 := by omega
            have BXr := Lib.hid (BX.out.below TW.out.a.b BX.out.lt)
            have b1 := BXr.out.cell 1 (.int .i64 z1) rfl
            have b2 := BXr.out.cell 2 (.int .i64 z2) rfl
            have SI := Lib.hid (show I64 si from ⟨by omega, by omega⟩)
            obtain ⟨nm, hnm⟩ : ∃ nm, nameOf z2 = nm := ⟨_, rfl⟩
            have NZ := Lib.hid (show nm.size ≤ maxLen by have := nameL_size _ (name_mem z2); rw [hnm] at this; unfold maxLen; omega)
            have NMO := Lib.hid hnm
            obtain ⟨l, hll⟩ : ∃ l, T.namesI si = l := ⟨_, rfl⟩
            have l6 : l.length ≤ 6 := by
              rw [← hll]; unfold Tre.namesI; split
              · exact names_len IN.out _
              · exact Nat.zero_le _
            have LS := Lib.hid (show ∀ x ∈ l, x.size ≤ maxLen by
              rw [← hll]; unfold Tre.namesI; split
              · exact names_short IN.out _
              · intro x hx; cases hx)
            have NL := Lib.hid hll
            obtain ⟨sa, sb, hS⟩ : ∃ sa sb, slotL l nm = (sa, sb) := ⟨_, _, rfl⟩
            have RS := Lib.hid (show slotL (T.namesI si) nm = (sa, sb) by rw [NL.out]; exact hS)
            obtain ⟨fa, fb, hF⟩ : ∃ fa fb, T.findI z1 l = (fa, fb) := ⟨_, _, rfl⟩
            have RF := Lib.hid hF
            obtain ⟨ca, hca⟩ : ∃ ca, T.canonI si = ca := ⟨_, rfl⟩
            obtain ⟨ka, hka⟩ : ∃ ka, T.clsI si = ka := ⟨_, rfl⟩
            obtain ⟨ra, hra⟩ : ∃ ra, T.rootI si = ra := ⟨_, rfl⟩
            have RC := Lib.hid hca
            have RKk := Lib.hid hka
            have RR := Lib.hid hra
            clear hnm hll hS hF hca hka hra hsi
            go_wp2_with fail
            refine (ref_count _ q T G TW.out.r).mono ?_
            rintro e w6 ⟨rfl, hw⟩
            subst hw
            rw [LN.out]
            go_wp2_with fail
            refine (name_any z2 I2.out _).mono ?_
            rintro e w7 ⟨rfl, hb⟩
            rw [NMO.out]
            replace TW := Lib.hid (TW.out.low hb)
            clear hb b1 b2 BXr
            go_wp2_with fail
            refine (slot_at TW.out.a W.out SI.out NZ.out RS.out).mono ?_
            rintro e w8 ⟨rfl, _, hb⟩
            replace TW := Lib.hid (TW.out.low hb)
            clear hb
            replace BXr := Lib.hid (BX.out.below TW.out.a.b BX.out.lt)
            have b2 := BXr.out.cell 2 (.int .i64 z2) rfl
            go_wp2_with fail
            refine (name_any z2 I2.out _).mono ?_
            rintro e w9 ⟨rfl, hb⟩
            rw [NMO.out]
            replace TW := Lib.hid (TW.out.low hb)
            clear hb b2 BXr
            go_wp2_with fail
            refine (ref_slot _ q T G si nm TW.out.r SI.out H64.out).mono ?_
            rintro e w10 ⟨rfl, hb⟩
            rw [RS.out]
            replace TW := Lib.hid (TW.out.low hb)
            clear hb
            replace BXr := Lib.hid (BX.out.below TW.out.a.b BX.out.lt)
            have c1 := BXr.out.cell 1 (.int .i64 z1) rfl
            have LT := Lib.hid BXr.out.lt
            clear BXr
            go_wp2_with fail
            go_region_held3 (fun w' => w'.cell? ⟨w.heap.size, 1, none⟩ = some (.int .i64 z1)) (first | exact c1) ((first
              | (go_at_call 14
                 (refine (ref_names _ q T G si (by first | exact TW.out.r | exact TW.out.drew.r | exact TW.out.drew.drew.r | exact TW.out.drew.drew.drew.r) SI.out H64.out).mono ?_)
                 rintro e w' ⟨v, rfl, ho, hb⟩
                 rw [NL.out] at ho
                 obtain ⟨A1, k1, rfl, _, hsl⟩ := ho.form
                 have NEW := Lib.hid (show SlS w' (· < w'.heap.size) A1 l from hsl.imp fun _ h => h.2)
                 replace c1 := (hb.cell (p := ⟨w.heap.size, 1, none⟩) LT.out).trans c1
                 replace LT := Lib.hid (Nat.lt_of_lt_of_le LT.out hb.size)
                 (first | replace TW := Lib.hid (TW.out.low hb) | replace TW := Lib.hid (TW.out.drew.low hb) | replace TW := Lib.hid (TW.out.drew.drew.low hb) | replace TW := Lib.hid (TW.out.drew.drew.drew.low hb))
                 clear ho hb hsl)
              | (go_at_call 13
                 (refine (find_at (by first | exact TW.out.a | exact TW.out.drew.a | exact TW.out.drew.drew.a | exact TW.out.drew.drew.drew.a) W.out I1.out NEW.out (by omega) LS.out RF.out).mono ?_)
                 rintro e w' ⟨rfl, _, hb⟩
                 replace c1 := (hb.cell (p := ⟨w.heap.size, 1, none⟩) LT.out).trans c1
                 replace LT := Lib.hid (Nat.lt_of_lt_of_le LT.out hb.size)
                 (first | replace TW := Lib.hid (TW.out.low hb) | replace TW := Lib.hid (TW.out.drew.low hb) | replace TW := Lib.hid (TW.out.drew.drew.low hb) | replace TW := Lib.hid (TW.out.drew.drew.drew.low hb))
                 clear hb)))
            clear c1 LT NEW
            replace BXr := Lib.hid (BX.out.below TW.out.a.b BX.out.lt)
            have c1 := BXr.out.cell 1 (.int .i64 z1) rfl
            have LT := Lib.hid BXr.out.lt
            clear BXr
            go_wp2_with fail
            go_region_held3 (fun w' => w'.cell? ⟨w.heap.size, 1, none⟩ = some (.int .i64 z1)) (first | exact c1) ((first
              | (go_at_call 14
                 (refine (ref_names _ q T G si (by first | exact TW.out.r | exact TW.out.drew.r | exact TW.out.drew.drew.r | exact TW.out.drew.drew.drew.r) SI.out H64.out).mono ?_)
                 rintro e w' ⟨v, rfl, ho, hb⟩
                 rw [NL.out] at ho
                 obtain ⟨A1, k1, rfl, _, hsl⟩ := ho.form
                 have NEW := Lib.hid (show SlS w' (· < w'.heap.size) A1 l from hsl.imp fun _ h => h.2)
                 replace c1 := (hb.cell (p := ⟨w.heap.size, 1, none⟩) LT.out).trans c1
                 replace LT := Lib.hid (Nat.lt_of_lt_of_le LT.out hb.size)
                 (first | replace TW := Lib.hid (TW.out.low hb) | replace TW := Lib.hid (TW.out.drew.low hb) | replace TW := Lib.hid (TW.out.drew.drew.low hb) | replace TW := Lib.hid (TW.out.drew.drew.drew.low hb))
                 clear ho hb hsl)
              | (go_at_call 15
                 (refine (ref_find _ q T G _ z1 A1 l k1 (by first | exact TW.out.r | exact TW.out.drew.r | exact TW.out.drew.drew.r | exact TW.out.drew.drew.drew.r) W.out H64.out I1.out NEW.out (by omega)).mono ?_)
                 rintro e w' ⟨rfl, hb⟩
                 rw [RF.out]
                 replace c1 := (hb.cell (p := ⟨w.heap.size, 1, none⟩) LT.out).trans c1
                 replace LT := Lib.hid (Nat.lt_of_lt_of_le LT.out hb.size)
                 (first | replace TW := Lib.hid (TW.out.low hb) | replace TW := Lib.hid (TW.out.drew.low hb) | replace TW := Lib.hid (TW.out.drew.drew.low hb) | replace TW := Lib.hid (TW.out.drew.drew.drew.low hb))
                 clear hb)))
            clear c1 LT NEW
            go_wp2_with fail
            refine (canon_at TW.out.a W.out SI.out RC.out).mono ?_
            rintro e wa ⟨rfl, _, hb⟩
            replace TW := Lib.hid (TW.out.low hb)
            clear hb
            go_wp2_with fail
            refine (ref_canon _ q T G _ si TW.out.r W.out SI.out).mono ?_
            rintro e wb ⟨rfl, hw⟩
            subst hw
            rw [RC.out]
            go_wp2_with fail
            refine (cls_at TW.out.a W.out SI.out RKk.out).mono ?_
            rintro e wc ⟨rfl, _, hb⟩
            replace TW := Lib.hid (TW.out.low hb)
            clear hb
            go_wp2_with fail
            refine (ref_class _ q T G si TW.out.r SI.out).mono ?_
            rintro e wd ⟨rfl, hw⟩
            subst hw
            rw [RKk.out]
            go_wp2_with fail
            refine (root_at TW.out.a W.out SI.out RR.out).mono ?_
            rintro e we ⟨rfl, _, hb⟩
            replace TW := Lib.hid (TW.out.low hb)
            clear hb
            go_wp2_with fail
            refine (ref_root _ q T G _ si TW.out.r W.out SI.out).mono ?_
            rintro e wf ⟨rfl, hw⟩
            subst hw
            rw [RR.out]
            go_wp2_with fail
            refine (names_at TW.out.a W.out SI.out NL.out).mono ?_
            rintro e wg ⟨A3, k3, rfl, _, hsl, _, hb⟩
            have N1 := Lib.hid hsl
            replace TW := Lib.hid (TW.out.low hb)
            clear hb hsl
            go_wp2_with fail
            refine (ref_names _ q T G si TW.out.r SI.out H64.out).mono ?_
            rintro e wh ⟨v, rfl, ho, hb⟩
            rw [NL.out] at ho
            obtain ⟨A4, k4, rfl, _, hsl⟩ := ho.form
            have N2' := Lib.hid hsl
            replace N1 := Lib.hid (N1.out.low hb)
            replace TW := Lib.hid (TW.out.low hb)
            clear hb hsl ho
            go_wp2_with fail
            refine (strings_eq _ _ A3 A4 l l k3 k4 _ N1.out N2'.out (by omega) (by omega) rfl).mono ?_
            rintro e wi ⟨rfl, nq, hw⟩
            replace TW := Lib.hid (show Tw K w1 wi p T F q T G by rw [hw]; exact TW.out.drewN nq)
            clear hw N1 N2'
            go_wp2_with fail
            go_roundw
            case rel => exact ⟨j + 1, by omega, by rw [← CI.out]; go_num, TW⟩
            case measure => simp [intOf]; omega
          · go_wp2_with fail
            refine (ref_count _ q T G TW.out.r).mono ?_
            rintro e w6 ⟨rfl, hw⟩
            subst hw
            rw [LN.out]
            have BXr := Lib.hid (BX.out.below TW.out.a.b BX.out.lt)
            have c0 := BXr.out.cell 0 (.int .i64 z0) rfl
            have c1 := BXr.out.cell 1 (.int .i64 z1) rfl
            have LT := Lib.hid BXr.out.lt
            clear BXr
            go_wp2_with fail
            go_region_held3 (fun w' => w'.cell? ⟨w.heap.size, 0, none⟩ = some (.int .i64 z0) ∧ w'.cell? ⟨w.heap.size, 1, none⟩ = some (.int .i64 z1)) (first | exact ⟨c0, c1⟩) ((first
              | (go_at_call 16
                 (refine (canon_at (by first | exact TW.out.a | exact TW.out.drew.a | exact TW.out.drew.drew.a | exact TW.out.drew.drew.drew.a) W.out I0.out rfl).mono ?_)
                 rintro e w' ⟨rfl, _, hb⟩
                 replace c0 := (hb.cell (p := ⟨w.heap.size, 0, none⟩) LT.out).trans c0
                 replace c1 := (hb.cell (p := ⟨w.heap.size, 1, none⟩) LT.out).trans c1
                 replace LT := Lib.hid (Nat.lt_of_lt_of_le LT.out hb.size)
                 (first | replace TW := Lib.hid (TW.out.low hb) | replace TW := Lib.hid (TW.out.drew.low hb) | replace TW := Lib.hid (TW.out.drew.drew.low hb) | replace TW := Lib.hid (TW.out.drew.drew.drew.low hb))
                 clear hb)
              | (go_at_call 20
                 (refine (root_at (by first | exact TW.out.a | exact TW.out.drew.a | exact TW.out.drew.drew.a | exact TW.out.drew.drew.drew.a) W.out I1.out rfl).mono ?_)
                 rintro e w' ⟨rfl, _, hb⟩
                 replace c0 := (hb.cell (p := ⟨w.heap.size, 0, none⟩) LT.out).trans c0
                 replace c1 := (hb.cell (p := ⟨w.heap.size, 1, none⟩) LT.out).trans c1
                 replace LT := Lib.hid (Nat.lt_of_lt_of_le LT.out hb.size)
                 (first | replace TW := Lib.hid (TW.out.low hb) | replace TW := Lib.hid (TW.out.drew.low hb) | replace TW := Lib.hid (TW.out.drew.drew.low hb) | replace TW := Lib.hid (TW.out.drew.drew.drew.low hb))
                 clear hb)
              | (go_at_call 18
                 (refine (cls_at (by first | exact TW.out.a | exact TW.out.drew.a | exact TW.out.drew.drew.a | exact TW.out.drew.drew.drew.a) W.out I0.out rfl).mono ?_)
                 rintro e w' ⟨rfl, _, hb⟩
                 replace c0 := (hb.cell (p := ⟨w.heap.size, 0, none⟩) LT.out).trans c0
                 replace c1 := (hb.cell (p := ⟨w.heap.size, 1, none⟩) LT.out).trans c1
                 replace LT := Lib.hid (Nat.lt_of_lt_of_le LT.out hb.size)
                 (first | replace TW := Lib.hid (TW.out.low hb) | replace TW := Lib.hid (TW.out.drew.low hb) | replace TW := Lib.hid (TW.out.drew.drew.low hb) | replace TW := Lib.hid (TW.out.drew.drew.drew.low hb))
                 clear hb)
              | (go_at_call 17
                 (refine (ref_canon _ q T G _ z0 (by first | exact TW.out.r | exact TW.out.drew.r | exact TW.out.drew.drew.r | exact TW.out.drew.drew.drew.r) W.out I0.out).mono ?_)
                 rintro e w' ⟨rfl, hw⟩
                 (first | replace TW := Lib.hid (show Tw K w1 w' p T F q T G by rw [← hw]; exact TW.out) | replace TW := Lib.hid (show Tw K w1 w' p T F q T G by rw [← hw]; exact TW.out.drew) | replace TW := Lib.hid (show Tw K w1 w' p T F q T G by rw [← hw]; exact TW.out.drew.drew) | replace TW := Lib.hid (show Tw K w1 w' p T F q T G by rw [← hw]; exact TW.out.drew.drew.drew))
                 replace c0 : w'.cell? ⟨w.heap.size, 0, none⟩ = some (.int .i64 z0) := by rw [← hw]; exact c0
                 replace c1 : w'.cell? ⟨w.heap.size, 1, none⟩ = some (.int .i64 z1) := by rw [← hw]; exact c1
                 replace LT := Lib.hid (show w.heap.size < w'.heap.size by rw [← hw]; exact LT.out)
                 clear hw)
              | (go_at_call 21
                 (refine (ref_root _ q T G _ z1 (by first | exact TW.out.r | exact TW.out.drew.r | exact TW.out.drew.drew.r | exact TW.out.drew.drew.drew.r) W.out I1.out).mono ?_)
                 rintro e w' ⟨rfl, hw⟩
                 (first | replace TW := Lib.hid (show Tw K w1 w' p T F q T G by rw [← hw]; exact TW.out) | replace TW := Lib.hid (show Tw K w1 w' p T F q T G by rw [← hw]; exact TW.out.drew) | replace TW := Lib.hid (show Tw K w1 w' p T F q T G by rw [← hw]; exact TW.out.drew.drew) | replace TW := Lib.hid (show Tw K w1 w' p T F q T G by rw [← hw]; exact TW.out.drew.drew.drew))
                 replace c0 : w'.cell? ⟨w.heap.size, 0, none⟩ = some (.int .i64 z0) := by rw [← hw]; exact c0
                 replace c1 : w'.cell? ⟨w.heap.size, 1, none⟩ = some (.int .i64 z1) := by rw [← hw]; exact c1
                 replace LT := Lib.hid (show w.heap.size < w'.heap.size by rw [← hw]; exact LT.out)
                 clear hw)
              | (go_at_call 19
                 (refine (ref_class _ q T G z0 (by first | exact TW.out.r | exact TW.out.drew.r | exact TW.out.drew.drew.r | exact TW.out.drew.drew.drew.r) I0.out).mono ?_)
                 rintro e w' ⟨rfl, hw⟩
                 (first | replace TW := Lib.hid (show Tw K w1 w' p T F q T G by rw [← hw]; exact TW.out) | replace TW := Lib.hid (show Tw K w1 w' p T F q T G by rw [← hw]; exact TW.out.drew) | replace TW := Lib.hid (show Tw K w1 w' p T F q T G by rw [← hw]; exact TW.out.drew.drew) | replace TW := Lib.hid (show Tw K w1 w' p T F q T G by rw [← hw]; exact TW.out.drew.drew.drew))
                 replace c0 : w'.cell? ⟨w.heap.size, 0, none⟩ = some (.int .i64 z0) := by rw [← hw]; exact c0
                 replace c1 : w'.cell? ⟨w.heap.size, 1, none⟩ = some (.int .i64 z1) := by rw [← hw]; exact c1
                 replace LT := Lib.hid (show w.heap.size < w'.heap.size by rw [← hw]; exact LT.out)
                 clear hw)))
            go_wp2_with fail
            go_ret
            exact ⟨by simp, B1.out.trans (TW.out.a.b.mono B1.out.size)⟩
      · have hka : k = acts.length := by omega
        subst hka
        clear hkk hk3
        go_wp2_with fail
        go_loopw [11] (fun i wr => ∃ j : Nat, j ≤ N + 2 ∧ i = .int .i64 ((j : Int) - 1) ∧ Hid (Tw K w1 wr p T F q T G)) (fun i _ => (N + 1 - intOf i).toNat)
        case atStart => exact ⟨0, by omega, rfl, TW⟩
        case round =>
          clear TW
          obtain ⟨j, hj, rfl, TW⟩ := hrel
          obtain ⟨si, hsi⟩ : ∃ si : Int, (j : Int) - 1 = si := ⟨_, rfl⟩
          rw [hsi]
          have CI := Lib.hid hsi
          have s1 : -1 ≤ si := by omega
          have s2 : si ≤ N + 1 := by omega
          by_cases hlt : si ≤ N
          · have jN : j ≤ N + 1 := by omega
            have BXr := Lib.hid (BX.out.below TW.out.a.b BX.out.lt)
            have b1 := BXr.out.cell 1 (.int .i64 z1) rfl
            have b2 := BXr.out.cell 2 (.int .i64 z2) rfl
            have SI := Lib.hid (show I64 si from ⟨by omega, by omega⟩)
            obtain ⟨nm, hnm⟩ : ∃ nm, nameOf z2 = nm := ⟨_, rfl⟩
            have NZ := Lib.hid (show nm.size ≤ maxLen by have := nameL_size _ (name_mem z2); rw [hnm] at this; unfold maxLen; omega)
            have NMO := Lib.hid hnm
            obtain ⟨l, hll⟩ : ∃ l, T.namesI si = l := ⟨_, rfl⟩
            have l6 : l.length ≤ 6 := by
              rw [← hll]; unfold Tre.namesI; split
              · exact names_len IN.out _
              · exact Nat.zero_le _
            have LS := Lib.hid (show ∀ x ∈ l, x.size ≤ maxLen by
              rw [← hll]; unfold Tre.namesI; split
              · exact names_short IN.out _
              · intro x hx; cases hx)
            have NL := Lib.hid hll
            obtain ⟨sa, sb, hS⟩ : ∃ sa sb, slotL l nm = (sa, sb) := ⟨_, _, rfl⟩
            have RS := Lib.hid (show slotL (T.namesI si) nm = (sa, sb) by rw [NL.out]; exact hS)
            obtain ⟨fa, fb, hF⟩ : ∃ fa fb, T.findI z1 l = (fa, fb) := ⟨_, _, rfl⟩
            have RF := Lib.hid hF
            obtain ⟨ca, hca⟩ : ∃ ca, T.canonI si = ca := ⟨_, rfl⟩
            obtain ⟨ka, hka⟩ : ∃ ka, T.clsI si = ka := ⟨_, rfl⟩
            obtain ⟨ra, hra⟩ : ∃ ra, T.rootI si = ra := ⟨_, rfl⟩
            have RC := Lib.hid hca
            have RKk := Lib.hid hka
            have RR := Lib.hid hra
            clear hnm hll hS hF hca hka hra hsi
            go_wp2_with fail
            refine (ref_count _ q T G TW.out.r).mono ?_
            rintro e w6 ⟨rfl, hw⟩
            subst hw
            rw [LN.out]
            go_wp2_with fail
            refine (name_any z2 I2.out _).mono ?_
            rintro e w7 ⟨rfl, hb⟩
            rw [NMO.out]
            replace TW := Lib.hid (TW.out.low hb)
            clear hb b1 b2 BXr
            go_wp2_with fail
            refine (slot_at TW.out.a W.out SI.out NZ.out RS.out).mono ?_
            rintro e w8 ⟨rfl, _, hb⟩
            replace TW := Lib.hid (TW.out.low hb)
            clear hb
            replace BXr := Lib.hid (BX.out.below TW.out.a.b BX.out.lt)
            have b2 := BXr.out.cell 2 (.int .i64 z2) rfl
            go_wp2_with fail
            refine (name_any z2 I2.out _).mono ?_
            rintro e w9 ⟨rfl, hb⟩
            rw [NMO.out]
            replace TW := Lib.hid (TW.out.low hb)
            clear hb b2 BXr
            go_wp2_with fail
            refine (ref_slot _ q T G si nm TW.out.r SI.out H64.out).mono ?_
            rintro e w10 ⟨rfl, hb⟩
            rw [RS.out]
            replace TW := Lib.hid (TW.out.low hb)
            clear hb
            replace BXr := Lib.hid (BX.out.below TW.out.a.b BX.out.lt)
            have c1 := BXr.out.cell 1 (.int .i64 z1) rfl
            have LT := Lib.hid BXr.out.lt
            clear BXr
            go_wp2_with fail
            go_region_held3 (fun w' => w'.cell? ⟨w.heap.size, 1, none⟩ = some (.int .i64 z1)) (first | exact c1) ((first
              | (go_at_call 14
                 (refine (ref_names _ q T G si (by first | exact TW.out.r | exact TW.out.drew.r | exact TW.out.drew.drew.r | exact TW.out.drew.drew.drew.r) SI.out H64.out).mono ?_)
                 rintro e w' ⟨v, rfl, ho, hb⟩
                 rw [NL.out] at ho
                 obtain ⟨A1, k1, rfl, _, hsl⟩ := ho.form
                 have NEW := Lib.hid (show SlS w' (· < w'.heap.size) A1 l from hsl.imp fun _ h => h.2)
                 replace c1 := (hb.cell (p := ⟨w.heap.size, 1, none⟩) LT.out).trans c1
                 replace LT := Lib.hid (Nat.lt_of_lt_of_le LT.out hb.size)
                 (first | replace TW := Lib.hid (TW.out.low hb) | replace TW := Lib.hid (TW.out.drew.low hb) | replace TW := Lib.hid (TW.out.drew.drew.low hb) | replace TW := Lib.hid (TW.out.drew.drew.drew.low hb))
                 clear ho hb hsl)
              | (go_at_call 13
                 (refine (find_at (by first | exact TW.out.a | exact TW.out.drew.a | exact TW.out.drew.drew.a | exact TW.out.drew.drew.drew.a) W.out I1.out NEW.out (by omega) LS.out RF.out).mono ?_)
                 rintro e w' ⟨rfl, _, hb⟩
                 replace c1 := (hb.cell (p := ⟨w.heap.size, 1, none⟩) LT.out).trans c1
                 replace LT := Lib.hid (Nat.lt_of_lt_of_le LT.out hb.size)
                 (first | replace TW := Lib.hid (TW.out.low hb) | replace TW := Lib.hid (TW.out.drew.low hb) | replace TW := Lib.hid (TW.out.drew.drew.low hb) | replace TW := Lib.hid (TW.out.drew.drew.drew.low hb))
                 clear hb)))
            clear c1 LT NEW
            replace BXr := Lib.hid (BX.out.below TW.out.a.b BX.out.lt)
            have c1 := BXr.out.cell 1 (.int .i64 z1) rfl
            have LT := Lib.hid BXr.out.lt
            clear BXr
            go_wp2_with fail
            go_region_held3 (fun w' => w'.cell? ⟨w.heap.size, 1, none⟩ = some (.int .i64 z1)) (first | exact c1) ((first
              | (go_at_call 14
                 (refine (ref_names _ q T G si (by first | exact TW.out.r | exact TW.out.drew.r | exact TW.out.drew.drew.r | exact TW.out.drew.drew.drew.r) SI.out H64.out).mono ?_)
                 rintro e w' ⟨v, rfl, ho, hb⟩
                 rw [NL.out] at ho
                 obtain ⟨A1, k1, rfl, _, hsl⟩ := ho.form
                 have NEW := Lib.hid (show SlS w' (· < w'.heap.size) A1 l from hsl.imp fun _ h => h.2)
                 replace c1 := (hb.cell (p := ⟨w.heap.size, 1, none⟩) LT.out).trans c1
                 replace LT := Lib.hid (Nat.lt_of_lt_of_le LT.out hb.size)
                 (first | replace TW := Lib.hid (TW.out.low hb) | replace TW := Lib.hid (TW.out.drew.low hb) | replace TW := Lib.hid (TW.out.drew.drew.low hb) | replace TW := Lib.hid (TW.out.drew.drew.drew.low hb))
                 clear ho hb hsl)
              | (go_at_call 15
                 (refine (ref_find _ q T G _ z1 A1 l k1 (by first | exact TW.out.r | exact TW.out.drew.r | exact TW.out.drew.drew.r | exact TW.out.drew.drew.drew.r) W.out H64.out I1.out NEW.out (by omega)).mono ?_)
                 rintro e w' ⟨rfl, hb⟩
                 rw [RF.out]
                 replace c1 := (hb.cell (p := ⟨w.heap.size, 1, none⟩) LT.out).trans c1
                 replace LT := Lib.hid (Nat.lt_of_lt_of_le LT.out hb.size)
                 (first | replace TW := Lib.hid (TW.out.low hb) | replace TW := Lib.hid (TW.out.drew.low hb) | replace TW := Lib.hid (TW.out.drew.drew.low hb) | replace TW := Lib.hid (TW.out.drew.drew.drew.low hb))
                 clear hb)))
            clear c1 LT NEW
            go_wp2_with fail
            refine (canon_at TW.out.a W.out SI.out RC.out).mono ?_
            rintro e wa ⟨rfl, _, hb⟩
            replace TW := Lib.hid (TW.out.low hb)
            clear hb
            go_wp2_with fail
            refine (ref_canon _ q T G _ si TW.out.r W.out SI.out).mono ?_
            rintro e wb ⟨rfl, hw⟩
            subst hw
            rw [RC.out]
            go_wp2_with fail
            refine (cls_at TW.out.a W.out SI.out RKk.out).mono ?_
            rintro e wc ⟨rfl, _, hb⟩
            replace TW := Lib.hid (TW.out.low hb)
            clear hb
            go_wp2_with fail
            refine (ref_class _ q T G si TW.out.r SI.out).mono ?_
            rintro e wd ⟨rfl, hw⟩
            subst hw
            rw [RKk.out]
            go_wp2_with fail
            refine (root_at TW.out.a W.out SI.out RR.out).mono ?_
            rintro e we ⟨rfl, _, hb⟩
            replace TW := Lib.hid (TW.out.low hb)
            clear hb
            go_wp2_with fail
            refine (ref_root _ q T G _ si TW.out.r W.out SI.out).mono ?_
            rintro e wf ⟨rfl, hw⟩
            subst hw
            rw [RR.out]
            go_wp2_with fail
            refine (names_at TW.out.a W.out SI.out NL.out).mono ?_
            rintro e wg ⟨A3, k3, rfl, _, hsl, _, hb⟩
            have N1 := Lib.hid hsl
            replace TW := Lib.hid (TW.out.low hb)
            clear hb hsl
            go_wp2_with fail
            refine (ref_names _ q T G si TW.out.r SI.out H64.out).mono ?_
            rintro e wh ⟨v, rfl, ho, hb⟩
            rw [NL.out] at ho
            obtain ⟨A4, k4, rfl, _, hsl⟩ := ho.form
            have N2' := Lib.hid hsl
            replace N1 := Lib.hid (N1.out.low hb)
            replace TW := Lib.hid (TW.out.low hb)
            clear hb hsl ho
            go_wp2_with fail
            refine (strings_eq _ _ A3 A4 l l k3 k4 _ N1.out N2'.out (by omega) (by omega) rfl).mono ?_
            rintro e wi ⟨rfl, nq, hw⟩
            replace TW := Lib.hid (show Tw K w1 wi p T F q T G by rw [hw]; exact TW.out.drewN nq)
            clear hw N1 N2'
            go_wp2_with fail
            go_roundw
            case rel => exact ⟨j + 1, by omega, by rw [← CI.out]; go_num, TW⟩
            case measure => simp [intOf]; omega
          · go_wp2_with fail
            refine (ref_count _ q T G TW.out.r).mono ?_
            rintro e w6 ⟨rfl, hw⟩
            subst hw
            rw [LN.out]
            have BXr := Lib.hid (BX.out.below TW.out.a.b BX.out.lt)
            have c0 := BXr.out.cell 0 (.int .i64 z0) rfl
            have c1 := BXr.out.cell 1 (.int .i64 z1) rfl
            have LT := Lib.hid BXr.out.lt
            clear BXr
            go_wp2_with fail
            go_region_held3 (fun w' => w'.cell? ⟨w.heap.size, 0, none⟩ = some (.int .i64 z0) ∧ w'.cell? ⟨w.heap.size, 1, none⟩ = some (.int .i64 z1)) (first | exact ⟨c0, c1⟩) ((first
              | (go_at_call 16
                 (refine (canon_at (by first | exact TW.out.a | exact TW.out.drew.a | exact TW.out.drew.drew.a | exact TW.out.drew.drew.drew.a) W.out I0.out rfl).mono ?_)
                 rintro e w' ⟨rfl, _, hb⟩
                 replace c0 := (hb.cell (p := ⟨w.heap.size, 0, none⟩) LT.out).trans c0
                 replace c1 := (hb.cell (p := ⟨w.heap.size, 1, none⟩) LT.out).trans c1
                 replace LT := Lib.hid (Nat.lt_of_lt_of_le LT.out hb.size)
                 (first | replace TW := Lib.hid (TW.out.low hb) | replace TW := Lib.hid (TW.out.drew.low hb) | replace TW := Lib.hid (TW.out.drew.drew.low hb) | replace TW := Lib.hid (TW.out.drew.drew.drew.low hb))
                 clear hb)
              | (go_at_call 20
                 (refine (root_at (by first | exact TW.out.a | exact TW.out.drew.a | exact TW.out.drew.drew.a | exact TW.out.drew.drew.drew.a) W.out I1.out rfl).mono ?_)
                 rintro e w' ⟨rfl, _, hb⟩
                 replace c0 := (hb.cell (p := ⟨w.heap.size, 0, none⟩) LT.out).trans c0
                 replace c1 := (hb.cell (p := ⟨w.heap.size, 1, none⟩) LT.out).trans c1
                 replace LT := Lib.hid (Nat.lt_of_lt_of_le LT.out hb.size)
                 (first | replace TW := Lib.hid (TW.out.low hb) | replace TW := Lib.hid (TW.out.drew.low hb) | replace TW := Lib.hid (TW.out.drew.drew.low hb) | replace TW := Lib.hid (TW.out.drew.drew.drew.low hb))
                 clear hb)
              | (go_at_call 18
                 (refine (cls_at (by first | exact TW.out.a | exact TW.out.drew.a | exact TW.out.drew.drew.a | exact TW.out.drew.drew.drew.a) W.out I0.out rfl).mono ?_)
                 rintro e w' ⟨rfl, _, hb⟩
                 replace c0 := (hb.cell (p := ⟨w.heap.size, 0, none⟩) LT.out).trans c0
                 replace c1 := (hb.cell (p := ⟨w.heap.size, 1, none⟩) LT.out).trans c1
                 replace LT := Lib.hid (Nat.lt_of_lt_of_le LT.out hb.size)
                 (first | replace TW := Lib.hid (TW.out.low hb) | replace TW := Lib.hid (TW.out.drew.low hb) | replace TW := Lib.hid (TW.out.drew.drew.low hb) | replace TW := Lib.hid (TW.out.drew.drew.drew.low hb))
                 clear hb)
              | (go_at_call 17
                 (refine (ref_canon _ q T G _ z0 (by first | exact TW.out.r | exact TW.out.drew.r | exact TW.out.drew.drew.r | exact TW.out.drew.drew.drew.r) W.out I0.out).mono ?_)
                 rintro e w' ⟨rfl, hw⟩
                 (first | replace TW := Lib.hid (show Tw K w1 w' p T F q T G by rw [← hw]; exact TW.out) | replace TW := Lib.hid (show Tw K w1 w' p T F q T G by rw [← hw]; exact TW.out.drew) | replace TW := Lib.hid (show Tw K w1 w' p T F q T G by rw [← hw]; exact TW.out.drew.drew) | replace TW := Lib.hid (show Tw K w1 w' p T F q T G by rw [← hw]; exact TW.out.drew.drew.drew))
                 replace c0 : w'.cell? ⟨w.heap.size, 0, none⟩ = some (.int .i64 z0) := by rw [← hw]; exact c0
                 replace c1 : w'.cell? ⟨w.heap.size, 1, none⟩ = some (.int .i64 z1) := by rw [← hw]; exact c1
                 replace LT := Lib.hid (show w.heap.size < w'.heap.size by rw [← hw]; exact LT.out)
                 clear hw)
              | (go_at_call 21
                 (refine (ref_root _ q T G _ z1 (by first | exact TW.out.r | exact TW.out.drew.r | exact TW.out.drew.drew.r | exact TW.out.drew.drew.drew.r) W.out I1.out).mono ?_)
                 rintro e w' ⟨rfl, hw⟩
                 (first | replace TW := Lib.hid (show Tw K w1 w' p T F q T G by rw [← hw]; exact TW.out) | replace TW := Lib.hid (show Tw K w1 w' p T F q T G by rw [← hw]; exact TW.out.drew) | replace TW := Lib.hid (show Tw K w1 w' p T F q T G by rw [← hw]; exact TW.out.drew.drew) | replace TW := Lib.hid (show Tw K w1 w' p T F q T G by rw [← hw]; exact TW.out.drew.drew.drew))
                 replace c0 : w'.cell? ⟨w.heap.size, 0, none⟩ = some (.int .i64 z0) := by rw [← hw]; exact c0
                 replace c1 : w'.cell? ⟨w.heap.size, 1, none⟩ = some (.int .i64 z1) := by rw [← hw]; exact c1
                 replace LT := Lib.hid (show w.heap.size < w'.heap.size by rw [← hw]; exact LT.out)
                 clear hw)
              | (go_at_call 19
                 (refine (ref_class _ q T G z0 (by first | exact TW.out.r | exact TW.out.drew.r | exact TW.out.drew.drew.r | exact TW.out.drew.drew.drew.r) I0.out).mono ?_)
                 rintro e w' ⟨rfl, hw⟩
                 (first | replace TW := Lib.hid (show Tw K w1 w' p T F q T G by rw [← hw]; exact TW.out) | replace TW := Lib.hid (show Tw K w1 w' p T F q T G by rw [← hw]; exact TW.out.drew) | replace TW := Lib.hid (show Tw K w1 w' p T F q T G by rw [← hw]; exact TW.out.drew.drew) | replace TW := Lib.hid (show Tw K w1 w' p T F q T G by rw [← hw]; exact TW.out.drew.drew.drew))
                 replace c0 : w'.cell? ⟨w.heap.size, 0, none⟩ = some (.int .i64 z0) := by rw [← hw]; exact c0
                 replace c1 : w'.cell? ⟨w.heap.size, 1, none⟩ = some (.int .i64 z1) := by rw [← hw]; exact c1
                 replace LT := Lib.hid (show w.heap.size < w'.heap.size by rw [← hw]; exact LT.out)
                 clear hw)))
            go_wp2_with fail
            go_ret
            exact ⟨by simp, B1.out.trans (TW.out.a.b.mono B1.out.size)⟩
end Go.Proofs.YtjodmjadpooipaaGreatDoor.Sh
