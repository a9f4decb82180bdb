/-
  Keep.
-/
import Derived.Test.YtephblgakkeclaaDoorIe
namespace Go.Proofs.YtephblgakkeclaaDoor.Hp
open Go Go.RowKit Go.Maps Go.Sort Go.Shelf Va

theorem SeenI.again {w1 : World} {b : Nat} {l : List Int} {D : DataW Unit} {i : Int} (ht : Tidy D) (hi : I64 i) (hn : i ∈ l) (h1 : ∀ i, I64 i → D.atKey (.int .i64 i) (.lit (.bool false)) = .lit (.bool (decide (i ∈ l)))) (h2 : ∀ i, I64 i → Maps.has D (.int .i64 i) = decide (i ∈ l)) (h3 : Maps.size D = l.length)
    (h : w1.ownsMap Tryd.prog 3 (plainElem Tryd.prog 4) b (l.length + 1) (D.put (.int .i64 i) (.lit (.bool true)))) : SeenI w1 b l := by
  have hI := ht.isMap
  have hsz : Maps.size (D.put (.int .i64 i) (.lit (.bool true))) = l.length := by
    rw [size_put ht, if_pos (by rw [h2 i hi]; simp [hn]), h3]
  refine ⟨_, ?_, fun x hx => ?_, fun x hx => ?_, hsz⟩
  · obtain ⟨es, clock, hm, F, hs, hD⟩ := h
    refine ⟨es, clock, hm, F, ?_, hD⟩
    have : Maps.size (D.put (.int .i64 i) (.lit (.bool true))) = es.size := by rw [hD]; simp [Maps.size, length_sorted]
    omega
  · by_cases e : x = i
    · subst e
      rw [atKey_put_same hI (by trivial)]
      simp [hn]
    · rw [atKey_put_other (fun h => e (Lit.int.inj h).2), h1 x hx]
  · by_cases e : x = i
    · subst e
      rw [has_put_same hI (by trivial)]
      simp [hn]
    · rw [has_put_other (fun h => e (Lit.int.inj h).2), h2 x hx]
/-- What goes: the ids that are not kept. -/
def goneL (kp : List Int) (l : List Ent) : List Int := (ids l).filter fun i => !decide (i ∈ kp)
theorem infoI : (Tryd.prog.info? 3).map (fun i => (i.zero, i.size, i.bytes)) = some (some (.int .i64 0), 1, 8) := by kernel_rfl
set_option maxRecDepth 100000 in
set_option maxHeartbeats 4000000 in
theorem keep_any (F P : Nat → Prop) (p b : Nat) (f : Int → Hd) (l : List Ent) (next : Int) (kp : List Int) (A : Option Addr) (n c : Nat) (w : World) (H : HeapA w F p (some b) f l next) (hF : ∀ g, F g → g < w.heap.size) (hn : kp.length = n) (hn' : n ≤ 4398046511104) (hg : ∀ i ∈ kp, I64 i) (hid : ∀ i ∈ ids l, I64 i) (hcnt : l.length ≤ 100000) (hA : IntsAt w P A kp) (hP : ∀ g, P g → g < w.heap.size ∧ ¬ F g)
    (hwk : ∀ e ∈ l, e.2.kind = 4 → ∃ v, e.2.items = [v] ∧ I64 v.n) :
    Calls Tryd.prog 18 #[.pointer (some ⟨p, 0, none⟩), .slice A n c] w fun e w' => ∃ v, e = .returned v ∧ Hid (IdsAt w' w.heap.size v (goneL kp l) ∧ HeapA w' F p (some b) f (cleanL (goneL kp l) (dropL (goneL kp l) l)) next ∧ Frm F w w') := by
  subst hn
  have HH := Lib.hid H
  have HF := Lib.hid hF
  have HG := Lib.hid hg
  have HI := Lib.hid hid
  have HW := Lib.hid hwk
  have HC := Lib.hid hcnt
  have HLW := Lib.hid (fun (w' : World) (hb : Below w.heap.size w w') => H.low hF hb)
  have AA := Lib.hid (fun (w' : World) (hf : Below w.heap.size w w') => hA.keep (w' := w') (Q := P) fun g hg => ⟨hg, hf.block g (hP g hg).1⟩)
  have hmm := @run_makeMap Tryd.prog
  clear H hF hg hid hwk hA hP hcnt
  go_enter Tryd.func18, Tryd.ntmps18
  go_wp2_with fail
  have B0 := Lib.hid ((Below.refl _ w).alloc (Nat.le_refl _) (.map #[] 0))
  go_loopw [14] (fun i wr => ∃ (q : Nat) (T : List Int), q ≤ kp.length ∧ i = .int .i64 q ∧ Hid (SeenI wr w.heap.size T) ∧ Hid (T.Nodup ∧ ∀ i, i ∈ T ↔ i ∈ kp.take q ∧ i ∈ ids l) ∧ Hid (Below w.heap.size w wr)) (fun i _ => kp.length - (intOf i).toNat)
  case atStart => exact ⟨0, [], by omega, rfl, Lib.hid (SeenI.made w), Lib.hid ⟨List.nodup_nil, fun i => by simp⟩, B0⟩
  case round =>
    clear B0 hmm
    obtain ⟨q, T, hq, rfl, hseen, hset, hfr⟩ := hrel
    by_cases hlt : q < kp.length
    · have hg := List.getElem?_eq_getElem hlt
      obtain ⟨g, rfl, hPg, hc⟩ := AA.out _ hfr.out q _ hg
      have TK := Lib.hid (List.take_succ_eq_append_getElem hlt)
      have IV := HG.out _ (List.getElem_mem hlt)
      have ki : (q : Int) < kp.length := by omega
      generalize kp[q] = id at *
      clear hg
      have CA := Lib.hid (cell_any F p (some b) f l next id wr (HLW.out _ hfr.out) IV)
      go_wp2_with fail
      refine CA.out.mono ?_
      rintro e w2 ⟨rfl, rfl⟩
      by_cases hm : id ∈ ids l
      · rw [show ptrOf l f id = some ⟨(f id).b, 0, none⟩ from if_pos hm]
        have KX := Lib.hid (key_int IV)
        obtain ⟨D, ho, hD1, hD2, hD3⟩ := hseen.out
        have TL : T.length ≤ 100000 := Nat.le_trans (sub_len hset.out.1 fun i hi => ((hset.out.2 i).1 hi).2) (by rw [ids_len]; exact HC.out)
        have AF := Lib.hid (fun (w3 : World) (h : w3.ownsMap Tryd.prog 3 (plainElem Tryd.prog 4) w.heap.size (T.length + 1) (D.put (.int .i64 id) (.lit (.bool true)))) => show ∃ T', SeenI w3 w.heap.size T' ∧ T'.Nodup ∧ ∀ i, i ∈ T' ↔ i ∈ kp.take (q + 1) ∧ i ∈ ids l by
          rw [TK.out]
          by_cases hT : id ∈ T
          · refine ⟨T, SeenI.again (ho.tidy intLaw) IV hT hD1 hD2 hD3 h, hset.out.1, fun i => ?_⟩
            rw [hset.out.2 i, List.mem_append]
            constructor
            · rintro ⟨h1, h2⟩; exact ⟨.inl h1, h2⟩
            · rintro ⟨h1 | h1, h2⟩
              · exact ⟨h1, h2⟩
              · obtain rfl : i = id := by simpa using h1
                exact (hset.out.2 i).1 hT
          · refine ⟨T ++ [id], SeenI.after (ho.tidy intLaw) IV hT hD1 hD2 hD3 h, List.nodup_append.2 ⟨hset.out.1, by simp, fun a ha b hb e => ?_⟩, fun i => ?_⟩
            · obtain rfl : b = id := by simpa using hb
              exact hT (e ▸ ha)
            · rw [List.mem_append, List.mem_append, hset.out.2 i]
              constructor
              · rintro (⟨h1, h2⟩ | h1)
                · exact ⟨.inl h1, h2⟩
                · obtain rfl : i = id := by simpa using h1
                  exact ⟨.inr h1, hm⟩
              · rintro ⟨h1 | h1, h2⟩
                · exact .inl ⟨h1, h2⟩
                · exact .inr h1)
        have HO := Lib.hid ho
        clear hD1 hD2 hD3 hm CA ho
        go_wp2_with (at_mapUpdate; refine wpList_mapUpdate_own _ rfl _ _ _ 70 rfl 3 4 intLaw Tryd.underlying70 _ w.heap.size T.length _ rfl HO.out (by unfold maxLen; omega) _ _ _ rfl rfl KX.out _ [] (plainElem_bool Tryd.underlying4 true) ?_)
        intro w3 ho1 hg1
        obtain ⟨T2, S2, N2, M2⟩ := AF.out w3 ho1
        have S3 := Lib.hid S2
        have N3 := Lib.hid (And.intro N2 M2)
        have F3 := Lib.hid (hfr.out.grown hg1 hfr.out.size (fun k hk => by injection hk with hk; omega))
        clear ho1 hg1 S2 N2 M2 AF HO
        go_wp2_with fail
        go_roundw
        case rel => exact ⟨q + 1, T2, by omega, by go_num, S3, N3, F3⟩
        case measure => simp [intOf]; omega
      · rw [show ptrOf l f id = none from if_neg hm]
        have N3 := Lib.hid (show T.Nodup ∧ ∀ i, i ∈ T ↔ i ∈ kp.take (q + 1) ∧ i ∈ ids l from ⟨hset.out.1, fun i => by
          rw [TK.out, List.mem_append, hset.out.2 i]
          constructor
          · rintro ⟨h1, h2⟩; exact ⟨.inl h1, h2⟩
          · rintro ⟨h1 | h1, h2⟩
            · exact ⟨h1, h2⟩
            · obtain rfl : i = id := by simpa using h1
              exact absurd h2 hm⟩)
        clear hm CA
        go_wp2_with fail
        go_roundw
        case rel => exact ⟨q + 1, T, by omega, by go_num, hseen, N3, hfr⟩
        case measure => simp [intOf]; omega
    · obtain rfl : q = kp.length := by omega
      have SET := Lib.hid (show ∀ i, i ∈ T ↔ i ∈ kp ∧ i ∈ ids l by have := hset.out.2; rwa [List.take_length] at this)
      have ID := Lib.hid (ids_any F p (some b) f l next wr HC.out HI.out (HLW.out _ hfr.out))
      clear hset hq hlt
      go_wp2_with fail
      refine ID.out.mono ?_
      rintro e w2 ⟨v, rfl, hh⟩
      obtain ⟨hi, hb⟩ := hh.out
      obtain ⟨A2, c2, rfl, hI⟩ := hi.ints
      have wsz := hfr.out.size
      have HB2 := Lib.hid (hfr.out.trans (hb.mono wsz))
      have S2 := Lib.hid (hseen.out.keep (hb.block _ hseen.out.lt))
      have LB := Lib.hid (fun (g : Nat) (h : (Value.slice A2 (ids l).length c2).ownBlock = some g) => (World.ownsRow.lt hi g h))
      have I2 := Lib.hid hI
      clear hh hi hb hI hfr hseen ID
      have IDS := Lib.hid (show ∀ i ∈ ids l, I64 i from HI.out)
      have RL : (ids l).length ≤ 100000 := by rw [ids_len]; exact HC.out
      have GG := Lib.hid (show (ids l).filter (fun i => !decide (i ∈ T)) = goneL kp l from List.filter_congr fun i hi => by
        by_cases h : i ∈ kp <;> simp [SET.out i, h, hi])
      have wsz2 := HB2.out.size
      generalize hR : ids l = R at A2 c2 LB I2 RL IDS GG ⊢
      go_wp2_with fail
      obtain ⟨i0, hi0, hz0, hz1, hz2⟩ := info_parts infoI
      go_loopw [8, 28] (fun rv i wr => ∃ q : Nat, q ≤ R.length ∧ i = .int .i64 q ∧ Hid (IdsAt wr w2.heap.size rv ((R.take q).filter fun i => !decide (i ∈ T))) ∧ Hid (Below w2.heap.size w2 wr)) (fun _ i _ => R.length - (intOf i).toNat)
      case atStart => exact ⟨0, by omega, rfl, Lib.hid (World.ownsRow_nil _ _ _ _), Lib.hid (Below.refl _ _)⟩
      case round =>
        obtain ⟨q, hq, rfl, hrow, hfr⟩ := hrel
        by_cases hlt : q < R.length
        · have hg := List.getElem?_eq_getElem hlt
          obtain ⟨g, rfl, hPg, hc0⟩ := I2.out q _ hg
          have hc := (hfr.out.cell (p := ⟨g, q, none⟩) (LB.out g hPg).2).trans hc0
          have TK := Lib.hid (List.take_succ_eq_append_getElem hlt)
          have IV := IDS.out _ (List.getElem_mem hlt)
          have ki : (q : Int) < R.length := by omega
          generalize R[q] = id at *
          clear hg hc0
          have S3 := Lib.hid (S2.out.keep (hfr.out.block _ S2.out.lt))
          have LK := S3.out.look IV
          by_cases hm : id ∈ T
          · rw [decide_eq_true hm] at LK
            have EQ := Lib.hid (show (R.take (q + 1)).filter (fun i => !decide (i ∈ T)) = (R.take q).filter fun i => !decide (i ∈ T) by rw [TK.out, List.filter_append]; simp [hm])
            clear hm
            go_wp2_with fail
            go_roundw
            case rel => exact ⟨q + 1, by omega, by go_num, by rw [EQ.out]; exact hrow, hfr⟩
            case measure => simp [intOf]; omega
          · rw [decide_eq_false hm] at LK
            have EQ := Lib.hid (show (R.take (q + 1)).filter (fun i => !decide (i ∈ T)) = ((R.take q).filter fun i => !decide (i ∈ T)) ++ [id] by rw [TK.out, List.filter_append]; simp [hm])
            have GL : ((R.take q).filter fun i => !decide (i ∈ T)).length ≤ 100000 := Nat.le_trans (List.length_filter_le _ _) (by simp; omega)
            clear hm
            generalize ((R.take q).filter fun i => !decide (i ∈ T)) = G at *
            go_wp2_with (at_builtin; refine wpList_append_lies _ rfl _ _ 48 rfl w2.heap.size 3 i0 _ 1 8 Tryd.underlying48 hi0 hz0 hz1 hz2 rfl (by decide) _ _ _ rfl (World.ownsRow.alloc hrow.out _) ⟨wr.heap.size, 0, none⟩ 1 1 [.int .i64 id] rfl rfl (cell_one_new _ _ _) ?qa1 (by decide) ?qa2 ?qa3 ?qa4 _ rfl ?_)
            case qa1 => simp [Value.oneCell']
            case qa2 => unfold maxLen; omega
            case qa3 => omega
            case qa4 => have := hfr.out.size; simp; omega
            intro g1 cap1 w3 hown hgrow hat hlt3
            have R3 := Lib.hid (show IdsAt w3 w2.heap.size (.slice (some ⟨g1, 0, none⟩) (G.length + 1) cap1) (G ++ [id]) by
              unfold IdsAt
              rw [List.length_append, List.map_append]
              exact hown)
            have F3 := Lib.hid ((hfr.out.alloc hfr.out.size _).grown hgrow (by have := hfr.out.size; simp; omega) (fun k hk => (row_cells hrow.out hk).1))
            clear hown hgrow hat hlt3
            go_wp2_with fail
            go_roundw
            case rel => exact ⟨q + 1, by omega, by go_num, by rw [EQ.out]; exact R3, F3⟩
            case measure => simp [intOf]; omega
        · obtain rfl : q = R.length := by omega
          have RW := Lib.hid (show IdsAt wr w2.heap.size u8 (goneL kp l) by have := hrow.out; rw [List.take_length, GG.out] at this; exact this)
          obtain ⟨A3, c3, rfl, hI3⟩ := RW.out.ints
          have HBr := Lib.hid (HB2.out.trans (hfr.out.mono wsz2))
          have RG := Lib.hid (fun (g : Nat) (h : (Value.slice A3 (goneL kp l).length c3).ownBlock = some g) => World.ownsRow.lt RW.out g h)
          have GS := Lib.hid (show (goneL kp l).Pairwise (· < ·) from HH.out.sorted.filter _)
          have GL : (goneL kp l).length ≤ 100000 := Nat.le_trans (List.length_filter_le _ _) (by rw [ids_len]; exact HC.out)
          have RM := Lib.hid (remove_any F (fun g => (Value.slice A3 (goneL kp l).length c3).ownBlock = some g) p b f l next (goneL kp l) A3 (goneL kp l).length c3 wr (HLW.out _ HBr.out) (fun g hg => Nat.lt_of_lt_of_le (HF.out g hg) HBr.out.size) rfl (by omega) (fun i hi => HI.out i (List.mem_filter.1 hi).1) GS.out HI.out hI3 (fun g hg => ⟨(RG.out g hg).2, fun h => by have := HF.out g h; have := (RG.out g hg).1; omega⟩) HW.out)
          clear hrow hq hlt hI3 GS
          generalize (goneL kp l).length = m at *
          go_wp2_with fail
          refine RM.out.mono ?_
          rintro e w5 ⟨rfl, hh⟩
          have RX := Lib.hid (show IdsAt w5 w.heap.size (.slice A3 m c3) (goneL kp l) ∧ HeapA w5 F p (some b) f (cleanL (goneL kp l) (dropL (goneL kp l) l)) next ∧ Frm F w w5 from
            ⟨own_mono (own_same RW.out fun g hg => hh.out.2.block g (RG.out g hg).2 fun h => by have := HF.out g h; have := (RG.out g hg).1; omega) wsz2, hh.out.1, (Frm.of_below HBr.out).then hh.out.2⟩)
          clear hh RM
          go_wp2_with fail
          go_ret
          exact ⟨_, rfl, RX⟩
end Go.Proofs.YtephblgakkeclaaDoor.Hp
