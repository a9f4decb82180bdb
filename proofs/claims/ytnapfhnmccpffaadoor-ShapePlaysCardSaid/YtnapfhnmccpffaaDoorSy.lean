/-
  The walk of ShapeMakes.
-/
import Derived.Test.YtnapfhnmccpffaaDoorSx
import Derived.Test.YtnapfhnmccpffaaDoorSw
namespace Go.Proofs.YtnapfhnmccpffaaDoor.Sh
open Go Go.RowKit Go.Maps

theorem Tr.turned {K : Kit} {w0 w w' : World} {p b : Nat} {t : Tre} {F : Nat → Prop} (h : Tr K w0 w p t F) (hg : w.grownBy w' (some b)) (hb : ¬ F b) (hB : w0.heap.size ≤ b) : Tr K w0 w' p t F :=
  ⟨K.keep h.h fun x hx => hg.block x (K.lt h.h x hx) (fun e => hb (by injection e with e; subst e; exact hx)), h.b.grown hg h.b.size (fun k hk => by injection hk with hk; omega), h.f, h.v⟩
theorem SlS.up {w w' : World} {B : Nat} {A : Option Addr} {ns : List ByteArray} (h : SlS w (· < B) A ns) (hb : Below w.heap.size w w') (hB : B ≤ w.heap.size) : SlS w' (· < B) A ns := h.keep fun b hb' => ⟨hb', hb.block b (by omega)⟩
theorem SlS.upc {w w' : World} {B : Nat} {A : Option Addr} {ns : List ByteArray} {F : Nat → Prop} (h : SlS w (· < B) A ns) (hc : Chg F w w') (hB : B ≤ w.heap.size) (hF : ∀ b, F b → B ≤ b) : SlS w' (· < B) A ns :=
  h.keep fun b hb' => ⟨hb', hc.block b (by omega) (fun e => by have := hF b e; omega)⟩
set_option maxRecDepth 100000 in
set_option maxHeartbeats 8000000 in
theorem makes_walk (K : Kit) (n : Int) (hn : I64 n) (acts : List Act) (A : Option Addr) (c B : Nat) (D : Option Addr) (ns : List ByteArray) (d : Nat) (w : World) (ha : ActS w B A acts) (hd : SlS w (· < B) D ns) (hB : B ≤ w.heap.size) (hl : acts.length ≤ 4398046511104) (hok : ∀ x ∈ acts, x.OK) (hnl : ns.length ≤ 8796093022208) (hns : ∀ x ∈ ns, x.size ≤ maxLen) (hnd : ns.length ≤ d) (hnz : D = none → d = 0) (hv : K.V w) :
    Calls Tryd.prog 8 #[.int .i64 n, .slice A acts.length c, .slice D ns.length d] w fun e w' => e = .returned (.bool true) ∧ Below w.heap.size w w' := by
  have HA := Lib.hid ha
  have HD := Lib.hid hd
  have HOK := Lib.hid hok
  have HN := Lib.hid hn
  have HNS := Lib.hid hns
  have hmm := @run_makeMap Tryd.prog
  have HV := Lib.hid hv
  have HNZ := Lib.hid hnz
  clear hv ha hok hn hd hns hnz
  go_enter Tryd.func8, Tryd.ntmps8
  go_wp2_with fail
  refine (sanity_any K _ HV.out).mono ?_
  rintro e w1 ⟨rfl, hb⟩
  have B1 := Lib.hid hb
  clear hb
  go_wp2_with fail
  refine (played_any K n HN.out acts A c B _ (HA.out.below B1.out hB) (by have := B1.out.size; omega) hl HOK.out (K.vkeep HV.out B1.out)).mono ?_
  rintro e w2 ⟨p, F, rfl, hs⟩
  have IN := Lib.hid (playT_inv (acts.take 60) (cls_inv n)).ok.wf
  have HS := Lib.hid (hs.alloc (.map #[] 0))
  have NF := Lib.hid (show ¬ F w2.heap.size from free_new hs)
  have BB := Lib.hid hs.b.size
  have SE := Lib.hid (Seen.made w2)
  clear hs HA HOK
  generalize playT (newT (clsOf n)) (acts.take 60) = t at *
  have Z := Lib.hid (right_zero ns)
  have D2 := Lib.hid ((HD.out.keep (Q := fun b => b < B) fun b hb' => ⟨hb', (B1.out.trans (Below.mono HS.out.b B1.out.size)).block b (by omega)⟩ : SlS (w2.alloc (.map #[] 0)) (· < B) D ns))
  go_wp2_with fail
  rw [show (decide ((ns.length : Int) ≤ 64)) = rightB ns 0 from by rw [Z.out, decide_eq_decide]; omega]
  go_loopw [10, 32] (fun r i wr => ∃ k : Nat, k ≤ ns.length ∧ i = .int .i64 k ∧ r = .bool (rightB ns k) ∧ Hid (Tr K w1 wr p t F) ∧ Hid (Seen wr w2.heap.size k (ns.take k)) ∧ Hid (SlS wr (· < B) D ns)) (fun _ i _ => ns.length - (intOf i).toNat)
  case atStart => exact ⟨0, by omega, rfl, rfl, HS, SE, D2⟩
  case round =>
    obtain ⟨k, hk, rfl, rfl, hs, hse, hsl⟩ := hrel
    by_cases hlt : k < ns.length
    · obtain ⟨ad, rfl, hab, hc⟩ := hsl.out.get k hlt
      have ST := Lib.hid (right_step ns k hlt)
      have TN := Lib.hid (take_next ns k hlt)
      have NI := Lib.hid (HNS.out _ (List.getElem_mem hlt))
      obtain ⟨s, hsn⟩ : ∃ s, ns[k] = s := ⟨_, rfl⟩
      rw [hsn] at hc ST TN NI
      clear hsn
      have KEY := Lib.hid (Go.WideMaps.keyOf_string_mk (P := Tryd.prog) Tryd.underlying9 NI.out)
      have LK := hse.out.look s NI.out
      obtain ⟨DD, ho, hD⟩ := hse.out
      have HDD := Lib.hid hD
      clear hD
      cases hr : rightB ns k
      · have HR := Lib.hid hr
        clear hr LK
        go_wp2_with (at_mapUpdate; refine wpList_mapUpdate_own _ rfl _ _ _ 65 rfl 9 4 strLaw Tryd.underlying65 _ w2.heap.size k _ rfl ho (by unfold maxLen; omega) _ _ _ rfl rfl KEY.out _ [] (plainElem_bool Tryd.underlying4 true) ?_)
        intro w5 ho1 hg1
        have R1 := Lib.hid (show Tr K w1 w5 p t F from hs.out.turned hg1 NF.out BB.out)
        have R2 := Lib.hid (show Seen w5 w2.heap.size (k + 1) (ns.take (k + 1)) by rw [TN.out]; exact Seen.after ho HDD.out ho1)
        have R3 := Lib.hid (show SlS w5 (· < B) (some ad) ns from hsl.out.keep fun x hx => ⟨hx, hg1.block x (by have := hs.out.b.size; have := B1.out.size; omega) (fun e => by injection e with e; have := BB.out; have := B1.out.size; omega)⟩)
        clear ho ho1 hg1
        go_wp2_with fail
        go_roundw
        case rel => exact ⟨k + 1, by omega, by go_num, by rw [ST.out]; simp [HR.out], R1, R2, R3⟩
        case measure => simp [intOf]; omega
      · have HR := Lib.hid hr
        clear hr
        by_cases he : s.size = 0
        · have HE := Lib.hid he
          have ht : s.toList = [] := by rw [ByteArray.toList_eq]; exact List.eq_nil_of_length_eq_zero (by simpa using he)
          clear he LK
          go_wp2_with (at_mapUpdate; refine wpList_mapUpdate_own _ rfl _ _ _ 65 rfl 9 4 strLaw Tryd.underlying65 _ w2.heap.size k _ rfl ho (by unfold maxLen; omega) _ _ _ rfl rfl KEY.out _ [] (plainElem_bool Tryd.underlying4 true) ?_)
          intro w5 ho1 hg1
          have R1 := Lib.hid (show Tr K w1 w5 p t F from hs.out.turned hg1 NF.out BB.out)
          have R2 := Lib.hid (show Seen w5 w2.heap.size (k + 1) (ns.take (k + 1)) by rw [TN.out]; exact Seen.after ho HDD.out ho1)
          have R3 := Lib.hid (show SlS w5 (· < B) (some ad) ns from hsl.out.keep fun x hx => ⟨hx, hg1.block x (by have := hs.out.b.size; have := B1.out.size; omega) (fun e => by injection e with e; have := BB.out; have := B1.out.size; omega)⟩)
          clear ho ho1 hg1
          go_wp2_with fail
          go_roundw
          case rel => exact ⟨k + 1, by omega, by go_num, by rw [ST.out]; simp [HR.out, HE.out], R1, R2, R3⟩
          case measure => simp [intOf]; omega
        · have HE := Lib.hid he
          have ht : s.toList.isEmpty = false := by
            rw [ByteArray.toList_eq]; cases h : s.data.toList with
            | nil => exact absurd (show s.size = 0 by show s.data.size = 0; rw [← Array.length_toList, h]; rfl) he
            | cons => rfl
          clear he
          cases hm : decide (s ∈ ns.take k)
          · rw [hm] at LK
            have HM := Lib.hid hm
            clear hm
            go_wp2_with (at_mapUpdate; refine wpList_mapUpdate_own _ rfl _ _ _ 65 rfl 9 4 strLaw Tryd.underlying65 _ w2.heap.size k _ rfl ho (by unfold maxLen; omega) _ _ _ rfl rfl KEY.out _ [] (plainElem_bool Tryd.underlying4 true) ?_)
            intro w5 ho1 hg1
            have R1 := Lib.hid (show Tr K w1 w5 p t F from hs.out.turned hg1 NF.out BB.out)
            have R2 := Lib.hid (show Seen w5 w2.heap.size (k + 1) (ns.take (k + 1)) by rw [TN.out]; exact Seen.after ho HDD.out ho1)
            have R3 := Lib.hid (show SlS w5 (· < B) (some ad) ns from hsl.out.keep fun x hx => ⟨hx, hg1.block x (by have := hs.out.b.size; have := B1.out.size; omega) (fun e => by injection e with e; have := BB.out; have := B1.out.size; omega)⟩)
            clear ho ho1 hg1
            go_wp2_with fail
            go_roundw
            case rel => exact ⟨k + 1, by omega, by go_num, by rw [ST.out]; simp [HR.out, HE.out, HM.out], R1, R2, R3⟩
            case measure => simp [intOf]; omega
          · rw [hm] at LK
            have HM := Lib.hid hm
            clear hm
            go_wp2_with (at_mapUpdate; refine wpList_mapUpdate_own _ rfl _ _ _ 65 rfl 9 4 strLaw Tryd.underlying65 _ w2.heap.size k _ rfl ho (by unfold maxLen; omega) _ _ _ rfl rfl KEY.out _ [] (plainElem_bool Tryd.underlying4 true) ?_)
            intro w5 ho1 hg1
            have R1 := Lib.hid (show Tr K w1 w5 p t F from hs.out.turned hg1 NF.out BB.out)
            have R2 := Lib.hid (show Seen w5 w2.heap.size (k + 1) (ns.take (k + 1)) by rw [TN.out]; exact Seen.after ho HDD.out ho1)
            have R3 := Lib.hid (show SlS w5 (· < B) (some ad) ns from hsl.out.keep fun x hx => ⟨hx, hg1.block x (by have := hs.out.b.size; have := B1.out.size; omega) (fun e => by injection e with e; have := BB.out; have := B1.out.size; omega)⟩)
            clear ho ho1 hg1
            go_wp2_with fail
            go_roundw
            case rel => exact ⟨k + 1, by omega, by go_num, by rw [ST.out]; simp [HR.out, HE.out, HM.out], R1, R2, R3⟩
            case measure => simp [intOf]; omega
    · obtain rfl : k = ns.length := by omega
      have RA := Lib.hid (right_all ns)
      rw [RA.out]
      obtain ⟨rt, hrt⟩ : ∃ rt, okNames ns = rt := ⟨_, rfl⟩
      rw [hrt]
      have RT := Lib.hid hrt
      have FL := clsOf_len n
      obtain ⟨m, hm⟩ : ∃ m, (clsOf n).length = m := ⟨_, rfl⟩
      rw [hm] at FL IN
      have ML := Lib.hid hm
      clear hrt hm hse Z SE D2
      go_wp2_with fail
      go_loopw [13] (fun i wr => ∃ (j : Nat) (t : Tre) (F : Nat → Prop), j ≤ 5 ∧ i = .int .i64 ((j : Int) - 1) ∧ Hid (t.WF m) ∧ Hid (Tr K w1 wr p t F) ∧ Hid (SlS wr (· < B) D ns)) (fun i _ => (4 - intOf i).toNat)
      case atStart => exact ⟨0, t, F, by omega, rfl, IN, hs, hsl⟩
      case round =>
        clear IN hs hsl
        obtain ⟨j, t, F, hj, rfl, WF, hs, hsl⟩ := hrel
        obtain ⟨ci, hci⟩ : ∃ ci : Int, (j : Int) - 1 = ci := ⟨_, rfl⟩
        rw [hci]
        have CI := Lib.hid hci
        have c1 : -1 ≤ ci := by omega
        have c4 : ci ≤ 4 := by omega
        by_cases hlt : ci < 4
        · obtain ⟨N, hN⟩ : ∃ N, t.L.length = N := ⟨_, rfl⟩
          have N2 : N ≤ 200 := by rw [← hN]; exact WF.out.few
          have LN := Lib.hid hN
          have II := Lib.hid (show I64 ci from ⟨by omega, by omega⟩)
          have jl : (j : Int) = ci + 1 := by omega
          have jl5 : j < 5 := by omega
          have SZ := Lib.hid (show B ≤ wr.heap.size by have := B1.out.size; have := hs.out.b.size; omega)
          have JL := Lib.hid jl
          clear hN hci jl hj
          go_wp2_with fail
          refine (count_at hs.out WF.out LN.out).mono ?_
          rintro e w6 ⟨rfl, h, hb⟩
          replace hs := Lib.hid h
          replace hsl := Lib.hid (hsl.out.up hb SZ.out)
          replace SZ := Lib.hid (Nat.le_trans SZ.out hb.size)
          clear h hb
          have MS := Lib.hid (hsl.out.of_old SZ.out (F := F) fun b hF => by have := hs.out.f b hF; have := B1.out.size; omega)
          by_cases hg : 0 ≤ ci ∧ ci < m ∧ okNames ns = true
          · obtain ⟨g0, g1, g2⟩ := hg
            have hrt : rt = true := by rw [← RT.out]; exact g2
            subst hrt
            obtain ⟨k, hk⟩ := Int.eq_ofNat_of_zero_le g0
            subst hk
            have km : k < m := by omega
            rcases make_twice WF.out km g2 with ra | ⟨a, t1, ra, al, wf1, rb, na, ca, cn, lu⟩
            · have RA := Lib.hid ra
              clear ra g2
              go_wp2_with fail
              refine (make_at hs.out WF.out II.out MS.out hnl HNS.out hnd HNZ.out RA.out).mono ?_
              rintro e w7 ⟨F1, rfl, h, hc, hsb⟩
              have hsl1 := Lib.hid (hsl.out.upc hc SZ.out fun b hF => by have := hs.out.f b hF; have := B1.out.size; omega)
              replace hs := Lib.hid h
              replace hsl := hsl1
              replace SZ := Lib.hid (Nat.le_trans SZ.out hc.size)
              clear h hc hsb hsl1 MS
              go_wp2_with fail
              refine (classes_any n HN.out _).mono ?_
              rintro e w8 ⟨g, rfl, _, _, hb⟩
              replace hs := Lib.hid (hs.out.below hb)
              replace hsl := Lib.hid (hsl.out.up hb SZ.out)
              replace SZ := Lib.hid (Nat.le_trans SZ.out hb.size)
              rw [ML.out]
              clear hb
              go_wp2_with fail
              go_ret
              exact ⟨rfl, B1.out.trans (hs.out.b.mono B1.out.size)⟩
            · have RA := Lib.hid ra
              have RB := Lib.hid rb
              have W1 := Lib.hid wf1
              obtain ⟨M, hM⟩ : ∃ M, t1.L.length = M := ⟨_, rfl⟩
              have LM := Lib.hid hM
              have M1 : M ≤ N + 1 := by rw [← hM, ← LN.out]; exact lu
              have M2 : M ≤ 200 := by rw [← hM]; exact wf1.few
              have AI := Lib.hid (nat64 (show a < M by rw [← hM]; exact al) M2)
              have R1 := Lib.hid (show t1.canonI (a : Int) = (a : Int) by rw [canonI_nat al, cn])
              have R2 := Lib.hid (show t1.clsI (a : Int) = (k : Int) by rw [clsI_nat al, ca])
              have R3 := Lib.hid (show t1.namesI (a : Int) = ns by rw [namesI_nat al, na])
              clear ra rb wf1 al na ca cn lu hM g2
              go_wp2_with fail
              refine (make_at hs.out WF.out II.out MS.out hnl HNS.out hnd HNZ.out RA.out).mono ?_
              rintro e w7 ⟨F1, rfl, h, hc, hsb⟩
              have hsl1 := Lib.hid (hsl.out.upc hc SZ.out fun b hF => by have := hs.out.f b hF; have := B1.out.size; omega)
              replace hs := Lib.hid h
              replace hsl := hsl1
              replace SZ := Lib.hid (Nat.le_trans SZ.out hc.size)
              clear h hc hsb hsl1 MS
              go_wp2_with fail
              refine (classes_any n HN.out _).mono ?_
              rintro e w8 ⟨g, rfl, _, _, hb⟩
              replace hs := Lib.hid (hs.out.below hb)
              replace hsl := Lib.hid (hsl.out.up hb SZ.out)
              replace SZ := Lib.hid (Nat.le_trans SZ.out hb.size)
              rw [ML.out]
              clear hb
              go_wp2_with fail
              refine (count_at hs.out W1.out LM.out).mono ?_
              rintro e w9 ⟨rfl, h, hb⟩
              replace hs := Lib.hid h
              replace hsl := Lib.hid (hsl.out.up hb SZ.out)
              replace SZ := Lib.hid (Nat.le_trans SZ.out hb.size)
              clear h hb
              have MS := Lib.hid (hsl.out.of_old SZ.out (F := F1) fun b hF => by have := hs.out.f b hF; have := B1.out.size; omega)
              go_wp2_with fail
              refine (make_at hs.out W1.out II.out MS.out hnl HNS.out hnd HNZ.out RB.out).mono ?_
              rintro e w10 ⟨F2, rfl, h, hc, hsb⟩
              have hsl1 := Lib.hid (hsl.out.upc hc SZ.out fun b hF => by have := hs.out.f b hF; have := B1.out.size; omega)
              replace hs := Lib.hid h
              replace hsl := hsl1
              replace SZ := Lib.hid (Nat.le_trans SZ.out hc.size)
              clear h hc hsb hsl1 MS
              have M3 : ¬ ((N : Int) + 1 < M) := by omega
              have M4 : ¬ (N + 1 < M) := by omega
              go_wp2_with fail
              refine (count_at hs.out W1.out LM.out).mono ?_
              rintro e w11 ⟨rfl, h, hb⟩
              replace hs := Lib.hid h
              replace hsl := Lib.hid (hsl.out.up hb SZ.out)
              replace SZ := Lib.hid (Nat.le_trans SZ.out hb.size)
              clear h hb
              go_wp2_with fail
              refine (canon_at hs.out W1.out AI.out R1.out).mono ?_
              rintro e w12 ⟨rfl, h, hb⟩
              replace hs := Lib.hid h
              replace hsl := Lib.hid (hsl.out.up hb SZ.out)
              replace SZ := Lib.hid (Nat.le_trans SZ.out hb.size)
              clear h hb
              go_wp2_with fail
              refine (cls_at hs.out W1.out AI.out R2.out).mono ?_
              rintro e w13 ⟨rfl, h, hb⟩
              replace hs := Lib.hid h
              replace hsl := Lib.hid (hsl.out.up hb SZ.out)
              replace SZ := Lib.hid (Nat.le_trans SZ.out hb.size)
              clear h hb
              go_wp2_with fail
              refine (names_at hs.out W1.out AI.out R3.out).mono ?_
              rintro e w14 ⟨A1, k1, rfl, _, hn1, h, hb⟩
              have NEW := Lib.hid hn1
              replace hs := Lib.hid h
              replace hsl := Lib.hid (hsl.out.up hb SZ.out)
              replace SZ := Lib.hid (Nat.le_trans SZ.out hb.size)
              clear h hb hn1
              go_wp2_with fail
              refine (strings_eq _ _ A1 D ns ns k1 d _ NEW.out hsl.out hnl hnl rfl).mono ?_
              rintro e w15 ⟨rfl, nq, hw⟩
              replace hs := Lib.hid (show Tr K w1 w15 p t1 F2 by rw [hw]; exact hs.out.drewN nq)
              replace hsl := Lib.hid (show SlS w15 (· < B) D ns by rw [hw]; exact hsl.out)
              clear NEW hw
              go_wp2_with fail
              go_roundw
              case rel => exact ⟨j + 1, t1, F2, by omega, by rw [← CI.out]; go_num, W1, hs, hsl⟩
              case measure => simp [intOf]; omega
          · have RA := Lib.hid (make_err WF.out hg)
            go_wp2_with fail
            refine (make_at hs.out WF.out II.out MS.out hnl HNS.out hnd HNZ.out RA.out).mono ?_
            rintro e w7 ⟨F1, rfl, h, hc, hsb⟩
            have hsl1 := Lib.hid (hsl.out.upc hc SZ.out fun b hF => by have := hs.out.f b hF; have := B1.out.size; omega)
            replace hs := Lib.hid h
            replace hsl := hsl1
            replace SZ := Lib.hid (Nat.le_trans SZ.out hc.size)
            clear h hc hsb hsl1 MS
            cases rt
            · clear hg
              go_wp2_with fail
              refine (count_at hs.out WF.out LN.out).mono ?_
              rintro e w9 ⟨rfl, h, hb⟩
              replace hs := Lib.hid h
              replace hsl := Lib.hid (hsl.out.up hb SZ.out)
              clear h hb
              go_wp2_with fail
              go_roundw
              case rel => exact ⟨j + 1, t, F1, by omega, by rw [← CI.out]; go_num, WF, hs, hsl⟩
              case measure => simp [intOf]; omega
            · by_cases h0 : ci < 0
              · clear hg
                go_wp2_with fail
                refine (count_at hs.out WF.out LN.out).mono ?_
                rintro e w9 ⟨rfl, h, hb⟩
                replace hs := Lib.hid h
                replace hsl := Lib.hid (hsl.out.up hb SZ.out)
                clear h hb
                go_wp2_with fail
                go_roundw
                case rel => exact ⟨j + 1, t, F1, by omega, by rw [← CI.out]; go_num, WF, hs, hsl⟩
                case measure => simp [intOf]; omega
              · have h1 : (m : Int) ≤ ci := by
                  rcases Int.lt_or_le ci m with g | g
                  · exact absurd ⟨by omega, g, RT.out⟩ hg
                  · exact g
                clear hg
                go_wp2_with fail
                refine (classes_any n HN.out _).mono ?_
                rintro e w8 ⟨g, rfl, _, _, hb⟩
                replace hs := Lib.hid (hs.out.below hb)
                replace hsl := Lib.hid (hsl.out.up hb SZ.out)
                rw [ML.out]
                clear hb
                replace SZ := Lib.hid (show B ≤ w8.heap.size by have := hs.out.b.size; have := B1.out.size; omega)
                go_wp2_with fail
                refine (count_at hs.out WF.out LN.out).mono ?_
                rintro e w9 ⟨rfl, h, hb⟩
                replace hs := Lib.hid h
                replace hsl := Lib.hid (hsl.out.up hb SZ.out)
                clear h hb
                go_wp2_with fail
                go_roundw
                case rel => exact ⟨j + 1, t, F1, by omega, by rw [← CI.out]; go_num, WF, hs, hsl⟩
                case measure => simp [intOf]; omega
        · have c5 : ci = 4 := by omega
          subst c5
          go_wp2_with fail
          go_ret
          exact ⟨rfl, B1.out.trans (hs.out.b.mono B1.out.size)⟩
end Go.Proofs.YtnapfhnmccpffaaDoor.Sh
