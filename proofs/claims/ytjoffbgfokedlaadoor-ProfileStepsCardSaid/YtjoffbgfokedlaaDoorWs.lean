/-
  The walk of ProfileSteps.
-/
import Derived.Test.YtjoffbgfokedlaaDoorMs
import Derived.Test.YtjoffbgfokedlaaDoorMf
import Derived.Lib.SlicesS
import Derived.Test.YtjoffbgfokedlaaDoorPt
namespace Go.Proofs.YtjoffbgfokedlaaDoor.Pf
open Go Go.RowKit Go.Maps

set_option maxRecDepth 100000 in
set_option maxHeartbeats 8000000 in
theorem steps_walk (K : Kit) (a b c d : Int) (ia : I64 a) (ib : I64 b) (ic : I64 c) (id' : I64 d) (acts : List Act) (A : Option Addr) (c1 B : Nat) {w : World} (hacts : ActS w B A acts) (hB : B ≤ w.heap.size) (hl : acts.length ≤ 5864062014634) (hok : ∀ x ∈ acts, x.OK) (hv : K.V w) :
    Calls Tryd.prog 4 #[.agg #[.int .i64 a, .int .i64 b, .int .i64 c, .int .i64 d], .slice A acts.length c1] w fun e w' => e = .returned (.bool true) ∧ Below w.heap.size w w' := by
  have HV := Lib.hid hv
  have HA := Lib.hid hacts
  have HO := Lib.hid hok
  have LB := Lib.hid hB
  have IS := Lib.hid (And.intro ia (And.intro ib (And.intro ic id')))
  have BB := Lib.hid ((Below.refl _ w).alloc (Nat.le_refl _) (.cells #[.int .i64 a, .int .i64 b, .int .i64 c, .int .i64 d] 23))
  have BX := Lib.hid (Bk.new w #[.int .i64 a, .int .i64 b, .int .i64 c, .int .i64 d] 23)
  clear hv hacts hok hB ia ib ic id'
  go_enter Tryd.func4, Tryd.ntmps4
  go_wp2_with fail
  refine (sanity_any K _ (K.vkeep HV.out BB.out)).mono ?_
  rintro e v1 ⟨rfl, h⟩
  have B1 := Lib.hid (BB.out.trans (h.mono BB.out.size))
  have X1 := Lib.hid (Bk.low h BX.out)
  have x0 := X1.out.cell 0 (.int .i64 a) rfl
  have x1 := X1.out.cell 1 (.int .i64 b) rfl
  have x2 := X1.out.cell 2 (.int .i64 c) rfl
  have x3 := X1.out.cell 3 (.int .i64 d) rfl
  clear h BX BB
  go_wp2_with fail
  refine (made_any K w v1 HV.out B1.out a b c d IS.out.1 IS.out.2.1 IS.out.2.2.1 IS.out.2.2.2).mono ?_
  rintro e v2 ⟨p, F, q, G, rfl, h1, _, _, _, _⟩
  have T2 := Lib.hid h1
  have S2 := Lib.hid (show Steps (st0L a b c d) from steps0 _ _ _ _)
  generalize st0L a b c d = t0 at *
  clear h1 x0 x1 x2 x3 X1 B1 IS
  go_wp2_with fail
  go_loopw [8] (fun i wr => ∃ (k : Nat) (t : Pst) (F : Nat → Prop), k ≤ acts.length ∧ k ≤ 60 ∧ i = .int .i64 k ∧ Hid (Tr K w wr p t F (9 * k)) ∧ Hid (Steps t)) (fun i _ => acts.length - (intOf i).toNat)
  case atStart => exact ⟨0, t0, F, by omega, by omega, rfl, T2, S2⟩
  case round =>
    clear T2 S2
    obtain ⟨k, t, F, hk, hk6, rfl, T, S⟩ := hrel
    by_cases hgo : k < acts.length ∧ k < 60
    · obtain ⟨hlt, hlt6⟩ := hgo
      · obtain ⟨x, hx⟩ : ∃ x, acts[k]? = some x := ⟨_, List.getElem?_eq_getElem hlt⟩
        have XO := Lib.hid (HO.out x (List.mem_of_getElem? hx))
        obtain ⟨ab, ao, rfl, hab, y0, y1, y2⟩ := HA.out k x hx
        have AB := Lib.hid (show ab < w.heap.size from Nat.lt_of_lt_of_le hab LB.out)
        have Y := Lib.hid (And.intro y0 (And.intro y1 y2))
        clear y0 y1 y2 hab hx
        have h3 : (k : Int) < acts.length := by omega
        have h4 : (k : Int) < 60 := by omega
        have hk0 : (0 : Int) ≤ k := by omega
        go_wp2_with fail
        refine (decs_at T.out (l := t.D) rfl).mono ?_
        rintro e w3 ⟨v3, rfl, ho, h, _⟩
        obtain ⟨A3, c3, rfl, _, _, _⟩ := ho.form
        have T3 := Lib.hid h
        clear ho h
        have y0 := (T3.out.b.cell (p := ⟨ab, ao + k * 3, none⟩) AB.out).trans Y.out.1
        have y1 := (T3.out.b.cell (p := ⟨ab, ao + k * 3 + 1, none⟩) AB.out).trans Y.out.2.1
        have y2 := (T3.out.b.cell (p := ⟨ab, ao + k * 3 + 2, none⟩) AB.out).trans Y.out.2.2
        go_wp2_with fail
        have M := Lib.hid (fun W => mod_any x.what 6 XO.out.1 (by omega) (by omega) W)
        obtain ⟨m, hm⟩ : ∃ m, x.what % 6 = m := ⟨_, rfl⟩
        obtain ⟨l1, l2, l3, l4, l5⟩ := doP_len t x
        have LD := T3.out.k.dec
        have S4 := Lib.hid (doP_steps S.out T3.out.k (by have := T3.out.s; omega) x)
        refine (do_any T3.out (by omega) x XO.out).mono ?_
        rintro e w4 ⟨F4, rfl, h, _⟩
        obtain ⟨t', ht'⟩ : ∃ t', (doP t x).2 = t' := ⟨_, rfl⟩
        obtain ⟨z, hz⟩ : ∃ z, (doP t x).1 = z := ⟨_, rfl⟩
        rw [hm] at M l1 l5
        rw [ht'] at l1 l4 l5 S4 h
        rw [hz] at l1 l2 l3 ⊢
        have T4 := Lib.hid h
        clear h hz ht' y0 y1 y2 hm
        go_wp2_with fail
        refine (decs_at T4.out (l := t'.D) rfl).mono ?_
        rintro e w5 ⟨v5, rfl, ho, h, _⟩
        obtain ⟨A5, c5, rfl, _, _, _⟩ := ho.form
        have T5 := Lib.hid h
        clear ho h
        have y0 := (T5.out.b.cell (p := ⟨ab, ao + k * 3, none⟩) AB.out).trans Y.out.1
        obtain ⟨L0, hL0⟩ : ∃ L0 : Int, (t.D.length : Int) = L0 := ⟨_, rfl⟩
        obtain ⟨L1, hL1⟩ : ∃ L1 : Int, (t'.D.length : Int) = L1 := ⟨_, rfl⟩
        have L0b : 0 ≤ L0 ∧ L0 ≤ 1000 := by omega
        have l6 : L0 ≤ L1 := by omega
        have l7 : m = 5 → L1 ≤ L0 + 1 := fun e => by have := l5 e; omega
        have l8 : m ≠ 5 → L1 = L0 + z := fun e => by have := l1 e; omega
        go_wp2_with fail
        refine (M.out _).mono ?_
        rintro e w6 ⟨rfl, rfl⟩
        obtain ⟨L0p, L0q⟩ := L0b
        clear hL0 hL1 l1 l4 l5 LD
        have q1 : decide (L1 < L0) = false := decide_eq_false (by omega)
        have TN := Lib.hid (show Tr K w w5 p t' F4 (9 * (k + 1)) from T5.out)
        by_cases h5 : m = 5
        · have k5 : (m != 5) = false := by rw [h5]; rfl
          have k6 : (m == 5) = true := by rw [h5]; rfl
          have q2 : decide (L1 > L0 + 1) = false := decide_eq_false (by have := l7 h5; omega)
          clear l7 l8 h5
          go_wp2_with fail
          refine (M.out _).mono ?_
          rintro e w6 ⟨rfl, rfl⟩
          go_wp2_with fail
          go_roundw
          case rel => exact ⟨k + 1, t', F4, hlt, hlt6, by go_num, TN, S4⟩
          case measure => simp [intOf]; omega
        · have k5 : (m != 5) = true := by simpa using h5
          have k6 : (m == 5) = false := by simpa using h5
          have q2 : (L1 != L0 + z) = false := by rw [l8 h5]; simp
          clear l7 l8 h5
          go_wp2_with fail
          refine (M.out _).mono ?_
          rintro e w6 ⟨rfl, rfl⟩
          go_wp2_with fail
          go_roundw
          case rel => exact ⟨k + 1, t', F4, hlt, hlt6, by go_num, TN, S4⟩
          case measure => simp [intOf]; omega
    · have two : (acts.length : Int) ≤ (k : Int) ∨ ((k : Int) < acts.length ∧ (60 : Int) ≤ (k : Int)) := by
        by_cases h : k < acts.length
        · exact .inr ⟨by omega, by omega⟩
        · exact .inl (by omega)
      have NF := Lib.hid (fun b (hb : F b) => K.lt T.out.h b hb)
      have hmm := @run_makeMap Tryd.prog
      clear HA HO hgo
      obtain ⟨n, hn⟩ : ∃ n, 9 * k = n := ⟨_, rfl⟩
      have n540 : n ≤ 540 := by omega
      rw [hn] at T
      clear hn
      obtain ⟨V, hV⟩ : ∃ V, (wr.alloc (.map #[] 0)).alloc (.map #[] 0) = V := ⟨_, rfl⟩
      obtain ⟨b1, hb1⟩ : ∃ b, wr.heap.size = b := ⟨_, rfl⟩
      have M1 := Lib.hid (show MI V b1 0 fun _ => 0 by
        rw [← hV, ← hb1]
        exact (MI.made wr).keep (Below.heap_alloc _ _ _ (by rw [World.size_alloc]; omega)))
      have M2 := Lib.hid (show MI V (b1 + 1) 0 fun _ => 0 by
        have := MI.made (wr.alloc (.map #[] 0))
        rw [World.size_alloc, hb1] at this
        rw [← hV]; exact this)
      have TV := Lib.hid (show Tr K w V p t F n by rw [← hV]; exact (T.out.alloc _).alloc _)
      have VZ := Lib.hid (show V.heap.size = b1 + 2 by rw [← hV, World.size_alloc, World.size_alloc, hb1])
      have WB := Lib.hid (show w.heap.size ≤ b1 by rw [← hb1]; exact T.out.b.size)
      rw [hb1] at NF
      clear T
      rcases two with hd | ⟨hd, hd6⟩
      all_goals
        go_wp2_with fail
        refine (decs_at TV.out (l := t.D) rfl).mono ?_
        rintro e V4 ⟨v4, rfl, ho, h, hbl⟩
        obtain ⟨A4, c4, rfl, _, _, hsl⟩ := ho.form
        have T4 := Lib.hid h
        have M14 := Lib.hid (M1.out.low hbl)
        have M24 := Lib.hid (M2.out.low hbl)
        have SL := Lib.hid hsl
        have ZS := Lib.hid hbl.size
        clear ho h hbl hsl M1 M2 TV
        rw [VZ.out] at SL
        go_wp2_with fail
        go_loopw [86] (fun i wr => ∃ j : Nat, j ≤ t.D.length ∧ i = .int .i64 j ∧ Hid (Tr K w wr p t F n) ∧ Hid (MI wr b1 j fun a => (rep (t.D.take j) a).1) ∧ Hid (MI wr (b1 + 1) j fun a => (rep (t.D.take j) a).2) ∧ Hid (SlD wr (fun g => b1 + 2 ≤ g ∧ g < V4.heap.size) A4 t.D) ∧ Hid (V4.heap.size ≤ wr.heap.size)) (fun i _ => t.D.length - (intOf i).toNat)
        case atStart => exact ⟨0, by omega, rfl, T4, M14, M24, SL, Lib.hid (Nat.le_refl _)⟩
        case round =>
          clear T4 M14 M24 SL
          obtain ⟨j, hj, rfl, T, M1, M2, SL, WZ⟩ := hrel
          by_cases hlt : j < t.D.length
          · obtain ⟨d, hdj⟩ : ∃ d, t.D[j]? = some d := ⟨_, List.getElem?_eq_getElem hlt⟩
            have GD := Lib.hid (S.out.good j d hdj)
            have DA := Lib.hid (T.out.k.dat d (List.mem_of_getElem? hdj))
            have TK := Lib.hid (show t.D.take (j + 1) = t.D.take j ++ [d] by rw [List.take_add_one, hdj]; rfl)
            have RT := Lib.hid (rep_tier0 (D := t.D.take j) d.plc fun x hx => by
              have := T.out.k.dat x (List.mem_of_mem_take hx)
              exact ⟨this.2.1, this.2.2.1⟩)
            have RF := Lib.hid (rep_fails0 (t.D.take j) d.plc)
            obtain ⟨g, rfl, ⟨hg1, hg2⟩, y0, y1, y2, y3⟩ := SL.out j d hdj
            obtain ⟨⟨px, py⟩, dt, dy⟩ := d
            obtain ⟨y, hy⟩ : ∃ y, bsL dy = y := ⟨_, rfl⟩
            simp only at y0 y1 y2 y3
            rw [hy] at y3
            have h3 : (j : Int) < t.D.length := by omega
            have hk0 : (0 : Int) ≤ j := by omega
            obtain ⟨tr, htr⟩ : ∃ tr, (rep (t.D.take j) (px, py)).1 = tr := ⟨_, rfl⟩
            obtain ⟨fl, hfl⟩ : ∃ fl, (rep (t.D.take j) (px, py)).2 = fl := ⟨_, rfl⟩
            obtain ⟨fz, hfz⟩ : ∃ fz, (upd (rep (t.D.take j)) ⟨(px, py), dt, dy⟩ (px, py)).2 = fz := ⟨_, rfl⟩
            have FV := Lib.hid (show fz = fl + if dt < tr then 1 else 0 by rw [← hfz, ← hfl, ← htr]; unfold upd; simp)
            obtain ⟨g0, g1, g2, g3, g4, g5, g6⟩ := GD.out
            simp only at g0 g1 g2 g3 g4 g5 g6
            rw [htr] at g0 g1 g2
            rw [hfz] at g5 g6
            have FB := Lib.hid (And.intro g5 g6)
            have PO := Lib.hid (show okP (px, py) from DA.out.1)
            have DI := Lib.hid (show I64 dt from ⟨by omega, by have := DA.out.2.2.1; simp only at this; omega⟩)
            have t2 : tr ≤ 2 := by have := RT.out.2; simp only at this; omega
            have fl0 : 0 ≤ fl := by have := RF.out; simp only at this; omega
            have d2 : dt ≤ 2 := by have := DA.out.2.2.1; simp only at this; omega
            have kg : (dt == tr) = false := by simpa using g2
            have ky0 : ¬ y = ⟨#[]⟩ := by
              rw [← hy]
              intro e
              have := congrArg (fun b : ByteArray => b.data.toList) e
              simp only [bs_list] at this
              exact g4 this
            have ky : y.toList.isEmpty = false := by
              rw [List.isEmpty_eq_false_iff]
              intro e
              exact ky0 ((Lib.bytes_beq_iff y ⟨#[]⟩).1 (by rw [e, ByteArray.toList_eq]; rfl))
            have n1 : ¬ tr < 0 := by omega
            have n2 : ¬ tr + 1 < dt := by omega
            have n3 : ¬ dt < -1 := by omega
            have jb : j < 541 := by have := T.out.k.dec; omega
            clear ky0
            have E1 := Lib.hid (fun a => show (rep (t.D.take (j + 1)) a).1 = if a = (px, py) then dt else (rep (t.D.take j) a).1 by
              rw [TK.out, rep_snoc]; unfold upd; simp only; split <;> rfl)
            have E2 := Lib.hid (fun a => show (rep (t.D.take (j + 1)) a).2 = if a = (px, py) then fz else (rep (t.D.take j) a).2 by
              rw [TK.out, rep_snoc]
              by_cases h : a = (px, py)
              · subst h; rw [if_pos rfl]; exact hfz
              · rw [if_neg h]; unfold upd; simp only; rw [if_neg h])
            have FE := Lib.hid (show (rep (t.D.take (j + 1)) (px, py)).2 = fz by rw [E2.out, if_pos rfl])
            obtain ⟨V5, hV5⟩ : ∃ V, wr.alloc (.cells #[.int .i64 px, .int .i64 py, .int .i64 dt, .string y] 49) = V := ⟨_, rfl⟩
            obtain ⟨bx, hbx⟩ : ∃ b, wr.heap.size = b := ⟨_, rfl⟩
            have XB := Lib.hid (show Bk V5 bx #[.int .i64 px, .int .i64 py, .int .i64 dt, .string y] 49 by rw [← hV5, ← hbx]; exact Bk.new wr _ _)
            have BE := Lib.hid (show Below wr.heap.size wr V5 by rw [← hV5]; exact (Below.refl _ wr).alloc (Nat.le_refl _) _)
            have T5 := Lib.hid (T.out.below BE.out)
            have M15 := Lib.hid (M1.out.low BE.out)
            have M25 := Lib.hid (M2.out.low BE.out)
            have SL5 := Lib.hid (SL.out.keepP fun b hb => BE.out.block b (by have := WZ.out; omega))
            have Z5 := Lib.hid (Nat.le_trans WZ.out BE.out.size)
            have L1 := M15.out.look PO.out
            simp only [htr] at L1
            rw [show plcV (px, py) = .agg #[.int .i64 px, .int .i64 py] from rfl] at L1
            have c0 := XB.out.cell 0 (.int .i64 px) rfl
            have c1' := XB.out.cell 1 (.int .i64 py) rfl
            have c2 := XB.out.cell 2 (.int .i64 dt) rfl
            have c3 := XB.out.cell 3 (.string y) rfl
            have BXL := Lib.hid (show b1 + 1 < bx by rw [← hbx]; have := WZ.out; have := ZS.out; have := VZ.out; omega)
            clear BE T M1 SL WZ GD DA TK RT RF hy htr g2 g4 g5 g6 hfz hdj hg1 hg2
            by_cases ht : dt < tr
            · have FX : fz = fl + 1 := by have := FV.out; rw [if_pos ht] at this; exact this
              have hfl2 : fl + 1 ≤ 3 := by have := FB.out.2; omega
              have wr1 : IntKind.i64.wrap (fl + 1) = fl + 1 := IntWalk.i64_in _ (by omega)
              obtain ⟨st, w1, w2, m1, m2, m3, m4, m5, m6⟩ := (show MI V5.drew (b1 + 1) j _ from M25.out).inc (a := (px, py)) (by unfold maxLen; omega) PO.out ⟨by show _ ≤ (rep (t.D.take j) (px, py)).2 + 1; rw [hfl]; omega, by show (rep (t.D.take j) (px, py)).2 + 1 ≤ _; rw [hfl]; omega⟩
              have LD := (show MI V5.drew (b1 + 1) j _ from M25.out).look PO.out
              simp only [hfl] at LD m1 m3 m4 m5
              rw [show plcV (px, py) = .agg #[.int .i64 px, .int .i64 py] from rfl] at LD m1 m3
              have XB1 := (show Bk V5.drew bx _ _ from XB.out).grown m2 (by have := BXL.out; omega)
              have XB2 := (show Bk V5.drew bx _ _ from XB.out).grown m6 (by have := BXL.out; omega)
              have d0 := XB1.cell 0 (.int .i64 px) rfl
              have d1 := XB1.cell 1 (.int .i64 py) rfl
              have f0 := XB2.cell 0 (.int .i64 px) rfl
              have f1 := XB2.cell 1 (.int .i64 py) rfl
              have TX := Lib.hid (T5.out.drew.grown m6 (fun e => by have := NF.out _ e; omega) (by have := WB.out; omega))
              have M1X := Lib.hid ((show MI V5.drew b1 j _ from M15.out).grown m6 (by omega))
              have M2X := Lib.hid (m5.to (g' := fun a => (rep (t.D.take (j + 1)) a).2) (Nat.le_refl _) (fun a => by rw [E2.out a, FX]))
              have XBX := Lib.hid XB2
              have SLX := Lib.hid ((show SlD V5.drew _ _ _ from SL5.out).keepP fun b hb => m6.block b (by show b < V5.heap.size; have := Z5.out; omega) (fun e => by have := Option.some.inj e; omega))
              have ZX := Lib.hid (Nat.le_trans Z5.out m6.size)
              clear m2 m5 m6 XB1 XB2 T5 M15 M25 SL5 Z5 FX FV
              go_wp2_with fail
              clear L1 c2 c3
              go_region_held3 (fun w' => w'.cell? ⟨bx, 0, none⟩ = some (.int .i64 px) ∧ w'.cell? ⟨bx, 1, none⟩ = some (.int .i64 py)) (first | exact ⟨c0, c1'⟩ | exact ⟨d0, d1⟩ | exact ⟨f0, f1⟩ | go_keep) (fail)
              all_goals
                clear c0 c1' d0 d1 f0 f1 m1 m3 m4 LD wr1
                go_wp2_with fail
                have LQ : ∀ q, (Instr.lookup 47 (.map (some (b1 + 1))) (.agg #[.int .i64 px, .int .i64 py]) false).run Tryd.prog (w2.drewN q) = .ok (.int .i64 fz) (w2.drewN q) := fun q => by
                  rw [← FE.out]
                  exact (show MI (w2.drewN q) (b1 + 1) (j + 1) _ from M2X.out).look PO.out
                have e0 := XBX.out.cell 0 (.int .i64 px) rfl
                have e1 := XBX.out.cell 1 (.int .i64 py) rfl
                have e2 := XBX.out.cell 2 (.int .i64 dt) rfl
                have f3 : fz ≤ 3 := FB.out.2
                have kk : ((dt == -1) = true ∧ (fz == 3) = true) ∨ ((dt == -1) = false ∧ (fz == 3) = false) := by
                  by_cases h : dt = -1
                  · exact .inl ⟨by simpa using h, by simpa using FB.out.1.1 h⟩
                  · exact .inr ⟨by simpa using h, by simpa using fun e => h (FB.out.1.2 e)⟩
                rcases kk with ⟨kd, kf⟩ | ⟨kd, kf⟩
                all_goals
                  go_quiet (fail)
                  obtain ⟨w3, u1, u2, u3⟩ := (show MI (w2.drewN nq) b1 j _ from M1X.out).put (a := (px, py)) (by unfold maxLen; omega) PO.out DI.out
                  rw [show plcV (px, py) = .agg #[.int .i64 px, .int .i64 py] from rfl] at u1
                  have TN := Lib.hid ((TX.out.drewN nq).grown u3 (fun e => Nat.lt_irrefl _ (NF.out _ e)) WB.out)
                  have M1N := Lib.hid (u2.to (g' := fun a => (rep (t.D.take (j + 1)) a).1) (Nat.le_refl _) (fun a => (E1.out a).symm))
                  have M2N := Lib.hid ((show MI (w2.drewN nq) (b1 + 1) (j + 1) _ from M2X.out).grown u3 (by omega))
                  have SLN := Lib.hid ((show SlD (w2.drewN nq) _ _ _ from SLX.out).keepP fun b hb => u3.block b (by show b < w2.heap.size; have := ZX.out; omega) (fun e => by have := Option.some.inj e; omega))
                  have ZN := Lib.hid (Nat.le_trans ZX.out u3.size)
                  clear u2 u3 LQ
                  go_wp2_with fail
                  go_roundw
                  case rel => exact ⟨j + 1, hlt, by go_num, TN, M1N, M2N, SLN, ZN⟩
                  case measure => simp [intOf]; omega
            · have FX : fz = fl := by have := FV.out; rw [if_neg ht] at this; omega
              have TX := T5
              have M1X := M15
              have M2X := Lib.hid (M25.out.to (g' := fun a => (rep (t.D.take (j + 1)) a).2) (Nat.le_succ j) (fun a => by
                rw [E2.out a]
                by_cases h : a = (px, py)
                · rw [if_pos h, h, hfl, FX]
                · rw [if_neg h]))
              have XBX := XB
              have SLX := SL5
              have ZX := Z5
              clear T5 M15 M25 SL5 Z5 FV FX
              go_wp2_with fail
              clear L1 c0 c1' c2 c3
              have LQ : ∀ q, (Instr.lookup 47 (.map (some (b1 + 1))) (.agg #[.int .i64 px, .int .i64 py]) false).run Tryd.prog (V5.drewN q) = .ok (.int .i64 fz) (V5.drewN q) := fun q => by
                rw [← FE.out]
                exact (show MI (V5.drewN q) (b1 + 1) (j + 1) _ from M2X.out).look PO.out
              have e0 := XBX.out.cell 0 (.int .i64 px) rfl
              have e1 := XBX.out.cell 1 (.int .i64 py) rfl
              have e2 := XBX.out.cell 2 (.int .i64 dt) rfl
              have f3 : fz ≤ 3 := FB.out.2
              have kk : ((dt == -1) = true ∧ (fz == 3) = true) ∨ ((dt == -1) = false ∧ (fz == 3) = false) := by
                by_cases h : dt = -1
                · exact .inl ⟨by simpa using h, by simpa using FB.out.1.1 h⟩
                · exact .inr ⟨by simpa using h, by simpa using fun e => h (FB.out.1.2 e)⟩
              rcases kk with ⟨kd, kf⟩ | ⟨kd, kf⟩
              all_goals
                go_quiet (fail)
                obtain ⟨w3, u1, u2, u3⟩ := (show MI (V5.drewN nq) b1 j _ from M1X.out).put (a := (px, py)) (by unfold maxLen; omega) PO.out DI.out
                rw [show plcV (px, py) = .agg #[.int .i64 px, .int .i64 py] from rfl] at u1
                have TN := Lib.hid ((TX.out.drewN nq).grown u3 (fun e => Nat.lt_irrefl _ (NF.out _ e)) WB.out)
                have M1N := Lib.hid (u2.to (g' := fun a => (rep (t.D.take (j + 1)) a).1) (Nat.le_refl _) (fun a => (E1.out a).symm))
                have M2N := Lib.hid ((show MI (V5.drewN nq) (b1 + 1) (j + 1) _ from M2X.out).grown u3 (by omega))
                have SLN := Lib.hid ((show SlD (V5.drewN nq) _ _ _ from SLX.out).keepP fun b hb => u3.block b (by show b < V5.heap.size; have := ZX.out; omega) (fun e => by have := Option.some.inj e; omega))
                have ZN := Lib.hid (Nat.le_trans ZX.out u3.size)
                clear u2 u3 LQ
                go_wp2_with fail
                go_roundw
                case rel => exact ⟨j + 1, hlt, by go_num, TN, M1N, M2N, SLN, ZN⟩
                case measure => simp [intOf]; omega
          · obtain rfl : j = t.D.length := by omega
            rw [List.take_length] at M1
            have TI := Lib.hid (fun a => show (rep t.D a).1 = t.tier a by rw [S.out.at_]; rfl)
            obtain ⟨DM, hown, hat⟩ := M1.out
            have HAT := Lib.hid hat
            have HOW := Lib.hid hown
            have WBR := Lib.hid (show b1 < wr.heap.size from hown.lt)
            clear M1 M2 SL hat hown S
            obtain ⟨rb, hrb⟩ : ∃ r, wr.heap.size = r := ⟨_, rfl⟩
            have h3 : ¬ (t.D.length : Int) < t.D.length := by omega
            go_wp2_with (at_range; refine wpList_range_own _ rfl _ 47 rfl 43 3 keyed Tryd.underlying47 (plainElem (H := Unit) Tryd.prog 3) b1 t.D.length DM rfl HOW.out ?_)
            intro w0' hrg0 hg0 hs0
            have T0 := Lib.hid (show Tr K w w0' p t F n from T.out.below ⟨hg0.os, hg0.tape, hg0.output, hg0.size, fun k hk => hg0.block k hk (by simp)⟩)
            rw [hrb] at WBR
            have R0 := Lib.hid hrg0
            clear hrg0 hg0 hs0 T HOW hrb
            go_wp2_with fail
            go_loopw [18] (fun _ wr2 => ∃ (left : Lit → Bool) (cnt : Nat), Hid (wr2.ranges Tryd.prog 43 (plainElem (H := Unit) Tryd.prog 3) b1 rb t.D.length DM left cnt) ∧ Hid (Tr K w wr2 p t F n)) (fun _ wr2 => wr2.rangeLeft b1 rb)
            case atStart => exact ⟨_, _, R0, T0⟩
            case round =>
              clear R0 T0
              obtain ⟨left, cnt, hrg, T⟩ := hrel
              go_wp2_with (at_next; refine wpList_next_ranges _ rfl _ rfl 43 keyed (plainElem (H := Unit) Tryd.prog 3) plcV (Value.int .i64) (fun key kl h => by obtain ⟨a, e, _⟩ := keyOf_inv h; exact ⟨a, e⟩) (fun v y h => by obtain ⟨c, rfl, _⟩ := plainElem_int_inv Tryd.underlying3 h; exact ⟨c, rfl⟩) b1 rb t.D.length DM left cnt rfl hrg.out ?_ ?_)
              · intro _ _
                go_wp2_with fail
                go_ret
                exact ⟨rfl, T.out.b⟩
              · intro qx qy cq kl yd yp w2 cnt2 hkey hlk hv hat hrg2 hlt2 hg2 hs2 hen
                obtain ⟨q2, e, wq, rfl⟩ := keyOf_inv hkey
                obtain rfl : (qx, qy) = q2 := by
                  unfold plcV at e
                  simp only [Value.agg.injEq, Array.mk.injEq, List.cons.injEq, Value.int.injEq, true_and, and_true] at e
                  exact Prod.ext e.1 e.2
                obtain ⟨cq', ec, ey, _⟩ := plainElem_int_inv Tryd.underlying3 hv
                injection ey with ey _
                subst ey
                injection ec with _ ec
                subst ec
                have h1 := hat (.lit (.int .i64 0))
                rw [HAT.out (qx, qy) wq] at h1
                simp only [DataW.lit.injEq, Lit.int.injEq, true_and] at h1
                have h2 := TI.out (qx, qy)
                rw [h1] at h2
                have hen2 : (Instr.entry (.pointer (some ⟨rb, 0, none⟩))).run Tryd.prog w2 = .ok (.tuple #[.agg #[.int .i64 qx, .int .i64 qy], .int .i64 cq]) w2 := hen
                have WQ := Lib.hid wq
                have TT := Lib.hid h2.symm
                have T2 := Lib.hid ((T.out.grown hg2 (fun e => by have := NF.out _ e; have := WBR.out; omega) (by have := WB.out; have := WBR.out; omega)).alloc (.cells #[.int .i64 qx, .int .i64 qy] 43))
                have R2 := Lib.hid (hrg2.alloc (.cells #[.int .i64 qx, .int .i64 qy] 43))
                have XP := Bk.new w2 #[.int .i64 qx, .int .i64 qy] 43
                have d0 := XP.cell 0 (.int .i64 qx) rfl
                have d1 := XP.cell 1 (.int .i64 qy) rfl
                clear h1 h2 hen hrg2 hg2 hs2 hv hat hlk hkey e wq XP
                go_wp2_with fail
                refine (tier_at T2.out WQ.out TT.out).mono ?_
                rintro e w5 ⟨rfl, h, hb⟩
                have T5 := Lib.hid h
                have R5 := Lib.hid (R2.out.kept (grownBy_of_below hb) (by simp) (by simp))
                clear h hb d0 d1
                go_wp2_with fail
                go_roundw
                case rel => exact ⟨_, cnt2, R5, T5⟩
                case measure => rw [R5.out.left_eq, hrg.out.left_eq]; exact hlt2
end Go.Proofs.YtjoffbgfokedlaaDoor.Pf
