/-
  The walk of HeapClosed.
-/
import Derived.Test.YtkdpcnikgdbmaaaGreatDoorPd
namespace Go.Proofs.YtkdpcnikgdbmaaaGreatDoor.Hp
open Go Go.RowKit Go.Maps Va

theorem bnds_low' {w w' : World} (hB : Bnds w) (hb : Below w.heap.size w w') : Bnds w' := fun i hi => (hb.cell (p := ⟨_, _, none⟩) hB.size).trans (hB i hi)
theorem take_seen {r : List Int} (hn : r.Nodup) {k : Nat} {i : Int} (h : r[k]? = some i) : i ∉ r.take k ∧ r.take (k + 1) = r.take k ++ [i] := by
  obtain ⟨hk, rfl⟩ := List.getElem?_eq_some_iff.1 h
  have e := List.take_succ_eq_append_getElem hk
  refine ⟨fun hm => ?_, e⟩
  have h1 : (r.take (k + 1)).Nodup := hn.sublist (List.take_sublist _ _)
  rw [e, List.nodup_append] at h1
  exact h1.2.2 _ hm _ (by simp) rfl
set_option maxRecDepth 100000 in
set_option maxHeartbeats 8000000 in
theorem closed_walk (w : World) (hB : Bnds w) (A : Option Addr) (zs : List Int) (c : Nat) (wh : Int) (A' : Option Addr) (ys : List Int) (c' : Nat) (hA : Ac.Sl w w.heap.size A zs) (hz : ∀ z ∈ zs, I64 z) (hl : zs.length ≤ 17592186044404) (hA' : Ac.Sl w w.heap.size A' ys) (hy : ∀ z ∈ ys, I64 z) (hl' : ys.length ≤ 17592186044404) :
    Calls Tryz.prog 6 #[.slice A zs.length c, .agg #[.int .i64 wh, .slice A' ys.length c']] w fun e w' => e = .returned (.bool true) ∧ Below w.heap.size w w' := by
  have HB := Lib.hid hB
  have HA := Lib.hid hA
  have HZ := Lib.hid hz
  have HA' := Lib.hid hA'
  have HY := Lib.hid hy
  have hmm := @run_makeMap Tryz.prog
  clear hB hA hz hA' hy
  go_enter Tryz.func6, Tryz.ntmps6
  go_wp2_with fail
  have hW1 := (Below.refl w.heap.size w).alloc (Nat.le_refl _) (.cells #[.int .i64 wh, .slice A' ys.length c'] 31)
  have BA1 := Lib.hid (Bk.new w #[.int .i64 wh, .slice A' ys.length c'] 31)
  refine (sanity_any _ (bnds_low' HB.out hW1)).mono ?_
  rintro e w1 ⟨rfl, hb⟩
  have B1 := Lib.hid (hW1.trans (hb.mono hW1.size))
  have BA2 := Lib.hid (BA1.out.low hb)
  have sz1 := B1.out.size
  generalize hab : w.heap.size = ab at BA2 ⊢
  clear hW1 hb BA1
  go_wp2_with fail
  refine (begin_any A zs c w1 (Ac.Sl.up (HA.out.below B1.out (Nat.le_refl _)) sz1) HZ.out hl (bnds_low' HB.out B1.out)).mono ?_
  rintro e w2 ⟨p, q, v, es, l, next, rfl, hh⟩
  have FI := Lib.hid hh.out.2.2.2.2
  have S2 := Lib.hid (hh.out.1.since B1.out HB.out).two
  have B2 := Lib.hid (B1.out.trans (hh.out.2.2.2.1.mono sz1))
  have BA3 := Lib.hid (BA2.out.low hh.out.2.2.2.1)
  have sz2 := B2.out.size
  generalize hT : w2.heap.size = T at S2
  clear hh BA2
  have a0 := BA3.out.cell 0 (.int .i64 wh) rfl
  have a1 := BA3.out.cell 1 (.slice A' ys.length c') rfl
  go_wp2_with fail
  refine (roots_any wh A' ys c' 6 w2 (Ac.Sl.up (HA'.out.below B2.out (Nat.le_refl _)) sz2) HY.out hl' (by decide)).mono ?_
  rintro e w4 ⟨vs, VA, vc, rfl, hvl, hh⟩
  obtain ⟨h1, h2, h3, h4, h5⟩ := hh.out
  have S4 := Lib.hid (S2.out.down h4)
  have B4 := Lib.hid (B2.out.trans (h4.mono sz2))
  have V4 := Lib.hid (h3.keep (w' := w4) (Q := fun g => T ≤ g ∧ g < w4.heap.size) fun g hg => ⟨⟨by omega, hg.2⟩, rfl⟩)
  have VI := Lib.hid h2
  have OV := Lib.hid h5
  have sz4 := h4.size
  rw [hT] at sz4
  have OK := Lib.hid FI.out.okay
  have l8 := FI.out.len
  have fewL3 := Lib.hid FI.out.few
  have fewL := Lib.hid (show ∀ e ∈ l, e.2.names.length ≤ 4398046511104 ∧ e.2.items.length ≤ 4398046511104 from fun e he => by have := FI.out.few e he; omega)
  clear hh h1 h2 h3 h4 h5 S2 a0 a1 BA3
  go_wp2_with fail
  have B5 := (Below.refl w4.heap.size w4).alloc (Nat.le_refl _) (.map #[] 0)
  have M5 := Lib.hid (SeenI.made w4)
  have S5 := Lib.hid (S4.out.down B5)
  have V5 := Lib.hid (V4.out.keep (w' := w4.alloc (.map #[] 0)) (Q := fun g => T ≤ g ∧ g < w4.heap.size) fun g hg => ⟨hg, B5.block g hg.2⟩)
  have sz5 : w4.heap.size < (w4.alloc (.map #[] 0)).heap.size := by simp
  have BW5 := Lib.hid (B4.out.trans (B5.mono (B4.out.size)))
  clear V4 S4 B4
  generalize w4.alloc (.map #[] 0) = w5 at *
  generalize hbi : w4.heap.size = bi at *
  clear hbi B5
  refine (st_reach w w5 _ p l next vs VA 6 vc S5.out.st OK.out hvl.out (by decide) VI.out V5.out (fun b hb => by omega)).mono ?_
  rintro e w6 ⟨v6, r, rfl, hh⟩
  obtain ⟨h1, h2, h3, h4⟩ := hh.out
  obtain ⟨A6, c6, rfl, h5⟩ := ids_own h3
  have S6 := Lib.hid (S5.out.down h4)
  have B6 := Lib.hid (BW5.out.trans (h4.mono BW5.out.size))
  have R6 := Lib.hid h5
  have M6 := Lib.hid (M5.out.keep (h4.block _ M5.out.lt))
  have V6 := Lib.hid (V5.out.keep (w' := w6) (Q := fun g => T ≤ g ∧ g < bi) fun g hg => ⟨hg, h4.block g (by omega)⟩)
  have RS := Lib.hid h1
  have RR := Lib.hid h2
  have ND := Lib.hid (show r.Nodup from h1.imp fun h => Int.ne_of_lt h)
  have RU := Lib.hid (show ∀ i ∈ r, i ∈ ids l from fun i hi => by
    obtain ⟨c, hc⟩ := ((h2 i).1 hi).known
    exact List.mem_map.2 ⟨_, look_some hc, rfl⟩)
  have r8 : r.length ≤ 8 := Nat.le_trans (sub_len ND.out RU.out) (by rw [ids_len]; exact FI.out.len)
  have sz6 := h4.size
  clear hh h1 h2 h3 h4 h5 S5 M5 V5 BW5
  obtain ⟨rn, hrn⟩ : ∃ rn, r.length = rn := ⟨_, rfl⟩
  rw [hrn] at r8 ⊢
  have RN := Lib.hid hrn
  clear hrn
  go_wp2_with fail
  go_loopw [50] (fun i wr => ∃ k : Nat, k ≤ rn ∧ i = .int .i64 k ∧ Hid (SeenI wr bi (r.take k)) ∧ Hid (Frm (fun g => g = bi) w6 wr)) (fun i _ => rn - (intOf i).toNat)
  case atStart => exact ⟨0, by omega, rfl, Lib.hid (by rw [List.take_zero]; exact M6.out), Lib.hid (Frm.of_below (Below.refl _ _))⟩
  case round =>
    clear M6
    obtain ⟨k, hk, rfl, hS, hF⟩ := hrel
    have szr := hF.out.size
    by_cases hlt : k < rn
    · have kr : k < r.length := by rw [RN.out]; exact hlt
      have hg := List.getElem?_eq_getElem kr
      obtain ⟨g, rfl, hPg, hc⟩ := R6.out k _ hg
      have x0 : wr.cell? ⟨g, k, none⟩ = some (.int .i64 r[k]) := (World.cell?_of_block (a := ⟨g, k, none⟩) (hF.out.block g hPg.2 (by omega))).trans hc
      have IV := OK.out.ids _ (RU.out _ (List.getElem_mem kr))
      obtain ⟨hni, TK⟩ := take_seen ND.out hg
      have ki : (k : Int) < rn := by omega
      generalize r[k] = id at *
      have KX := Lib.hid (key_int IV)
      obtain ⟨D, ho, hD1, hD2, hD3⟩ := hS.out
      have tl : (r.take k).length = k := by rw [List.length_take, RN.out]; omega
      have AF := Lib.hid (fun (w3 : World) (h : w3.ownsMap Tryz.prog 3 (plainElem Tryz.prog 4) bi (k + 1) (D.put (.int .i64 id) (.lit (.bool true)))) => show SeenI w3 bi (r.take (k + 1)) by
        rw [TK]; exact SeenI.after (ho.tidy intLaw) IV hni hD1 hD2 hD3 (by rw [tl]; exact h))
      rw [tl] at ho
      have HO := Lib.hid ho
      clear hg hc hni TK ho hD1 hD2 hD3 kr hPg tl
      go_wp2_with (at_mapUpdate; refine wpList_mapUpdate_own _ rfl _ _ _ 62 rfl 3 4 intLaw Tryz.underlying62 _ bi k _ rfl HO.out (by unfold maxLen; omega) _ _ _ rfl rfl KX.out _ [] (plainElem_bool Tryz.underlying4 true) ?_)
      intro w3 ho1 hg1
      have S3 := Lib.hid (AF.out w3 ho1)
      have F3 := Lib.hid (hF.out.grown hg1 rfl)
      clear ho1 hg1 AF HO
      go_wp2_with fail
      go_roundw
      case rel => exact ⟨k + 1, by omega, by go_num, S3, F3⟩
      case measure => simp [intOf]; omega
    · obtain rfl : rn = k := by omega
      rename World => w7
      have M7 := Lib.hid (show SeenI w7 bi r by have := hS.out; rwa [show r.take rn = r by rw [← RN.out, List.take_length]] at this)
      have B7 := Lib.hid (Frm.below_of B6.out hF.out (fun g hg => by have := B6.out.size; omega))
      have S7 := Lib.hid (S6.out.far (fun g hg => hF.out.block g (by omega) (by omega)) hF.out.size B7.out)
      have V7 := Lib.hid (V6.out.keep (w' := w7) (Q := fun g => T ≤ g ∧ g < bi) fun g hg => ⟨hg, hF.out.block g (by omega) (by omega)⟩)
      have B8 := (Below.refl w7.heap.size w7).alloc (Nat.le_refl _) (.map #[] 0)
      have Q8 := Lib.hid ((RsnI.made w7).congr (Q' := rsnL l (vs.take 0)) fun i => by simp [rsnL])
      have M8 := Lib.hid (M7.out.keep (B8.block _ M7.out.lt))
      have S8 := Lib.hid (S7.out.down B8)
      have W8 := Lib.hid (B7.out.trans (B8.mono B7.out.size))
      have V8 := Lib.hid (V7.out.keep (w' := w7.alloc (.map #[] 0)) (Q := fun g => T ≤ g ∧ g < bi) fun g hg => ⟨hg, B8.block g (by have := M7.out.lt; omega)⟩)
      have biw : bi < w7.heap.size := M7.out.lt
      have sz8 : w7.heap.size < (w7.alloc (.map #[] 0)).heap.size := by simp
      have RC := Lib.hid (Rch.of FI.out.sorted FI.out.shut RR.out)
      clear hS hF S6 V6 B6 R6 M7 S7 B7 V7 hlt
      go_wp2_with fail
      have w7w : w.heap.size ≤ w7.heap.size := by have := W8.out.size; omega
      generalize w7.alloc (.map #[] 0) = w8 at *
      generalize hbr : w7.heap.size = br at *
      clear hbr B8
      go_loopw [60] (fun i wr => ∃ k k' : Nat, k ≤ 6 ∧ k' ≤ k ∧ i = .int .i64 k ∧ Hid (RsnI wr br k' (rsnL l (vs.take k))) ∧ Hid (Frm (fun g => g = br) w8 wr)) (fun i _ => 6 - (intOf i).toNat)
      case atStart => exact ⟨0, 0, by omega, by omega, rfl, Q8, Lib.hid (Frm.of_below (Below.refl _ _))⟩
      case round =>
        clear Q8
        obtain ⟨k, k', hk, hk', rfl, hQ, hF⟩ := hrel
        have szr := hF.out.size
        by_cases hlt : k < 6
        · have kv : k < vs.length := by rw [hvl.out]; exact hlt
          have hg := List.getElem?_eq_getElem kv
          obtain ⟨b1, o, rfl, hb1, x0, x1, x2⟩ := (V8.out.keep (w' := wr) (Q := fun g => T ≤ g ∧ g < bi) fun g hg => ⟨hg, hF.out.block g (by omega) (by omega)⟩) k _ hg
          have IV := VI.out _ (List.getElem_mem kv)
          have AT := Lib.hid (fun (p : Val → Bool) => any_take p vs k _ hg)
          have MV := Lib.hid (List.getElem_mem kv)
          have ki : (k : Int) < 6 := by omega
          generalize vs[k] = v at *
          obtain ⟨vk, vn, vs0⟩ := v
          simp only at x0 x1 x2 IV
          have Br := Lib.hid (Frm.below_of W8.out hF.out (fun g hg => by omega))
          have Sr := Lib.hid (S8.out.far (fun g hg => hF.out.block g (by omega) (by omega)) hF.out.size Br.out)
          have Mr := Lib.hid (M8.out.keep (hF.out.block _ M8.out.lt (by omega)))
          clear hg kv
          go_wp2_with fail
          have a2 := (Below.refl wr.heap.size wr).alloc (Nat.le_refl _) (.cells #[.int .i64 vk, .int .i64 vn, .string vs0] 64)
          have V2 := Lib.hid (Bk.new wr #[.int .i64 vk, .int .i64 vn, .string vs0] 64)
          generalize wr.alloc (.cells #[.int .i64 vk, .int .i64 vn, .string vs0] 64) = wv at *
          refine (st_cell_any w wv p l next vn (Sr.out.down a2).st IV fewL.out).mono ?_
          rintro e wc ⟨ck, cc, cf, ct, cD, cn, cd, cE, cm, ce, rfl, hbc⟩
          have b2 := (a2.trans (hbc.mono a2.size)).alloc (Nat.le_trans a2.size hbc.size) (.cells #[.int .i64 ck, .int .i64 cc, .int .i64 cf, .int .i64 ct, .slice cD cn cd, .slice cE cm ce] 46)
          have F2 := Lib.hid (hF.out.low b2)
          have V3 := Lib.hid (V2.out.low hbc)
          have M3 := Lib.hid (Mr.out.keep (b2.block _ Mr.out.lt))
          have Q3 := Lib.hid (hQ.out.keep (b2.block _ hQ.out.lt))
          have v0 := V3.out.cell 0 (.int .i64 vk) rfl
          have v1 := V3.out.cell 1 (.int .i64 vn) rfl
          have vlt := V3.out.lt
          clear hbc a2 V2 b2 Sr Br Mr hQ hF
          by_cases hc : vk = 5 ∧ vn ∈ ids l
          · obtain ⟨rfl, hin⟩ := hc
            have LK := M3.out.look IV
            rw [decide_eq_true (RC.out.root _ MV.out rfl hin)] at LK
            rw [decide_eq_true hin]
            have KX := Lib.hid (key_int IV)
            obtain ⟨D, ho, hD⟩ := Q3.out
            have HO := Lib.hid ho
            have AF := Lib.hid (fun (w3 : World) (h : w3.ownsMap Tryz.prog 3 (plainElem Tryz.prog 4) br (k' + 1) (D.put (.int .i64 vn) (.lit (.bool true)))) => show RsnI w3 br (k' + 1) (rsnL l (vs.take (k + 1))) from (RsnI.put (ho.tidy intLaw) IV hD h).congr fun x => by
              unfold rsnL
              rw [AT.out]
              by_cases e : x = vn
              · subst e; simp [hin]
              · rw [if_neg e]; simp [hin, show ¬ vn = x from fun h => e h.symm])
            clear ho hD hin Q3
            go_wp2_with (at_mapUpdate; refine wpList_mapUpdate_own _ rfl _ _ _ 62 rfl 3 4 intLaw Tryz.underlying62 _ br k' _ rfl HO.out (by unfold maxLen; omega) _ _ _ rfl rfl KX.out _ [] (plainElem_bool Tryz.underlying4 true) ?_)
            intro w3 ho1 hg1
            have S3 := Lib.hid (AF.out w3 ho1)
            have F3 := Lib.hid (F2.out.grown hg1 rfl)
            clear ho1 hg1 AF HO
            go_wp2_with fail
            go_roundw
            case rel => exact ⟨k + 1, k' + 1, by omega, by omega, by go_num, S3, F3⟩
            case measure => simp [intOf]; omega
          · have Q4 := Lib.hid (Q3.out.congr (Q' := rsnL l (vs.take (k + 1))) fun x => by
              unfold rsnL
              rw [AT.out]
              by_cases h5 : vk = 5
              · have : vn ∉ ids l := fun h => hc ⟨h5, h⟩
                simp [this]
              · simp [h5])
            by_cases h5 : vk = 5
            · subst h5
              rw [decide_eq_false (fun h => hc ⟨rfl, h⟩)]
              clear hc
              go_wp2_with fail
              go_roundw
              case rel => exact ⟨k + 1, k', by omega, by omega, by go_num, Q4, F2⟩
              case measure => simp [intOf]; omega
            · have e5 : (vk == 5) = false := by simp [h5]
              generalize decide (vn ∈ ids l) = there
              clear hc h5
              go_wp2_with fail
              go_roundw
              case rel => exact ⟨k + 1, k', by omega, by omega, by go_num, Q4, F2⟩
              case measure => simp [intOf]; omega
        · obtain rfl : k = 6 := by omega
          rename World => w9
          have Q9 := Lib.hid (hQ.out.congr (Q' := fun x => rsnL l vs x || rsnE r (l.take 0) x) fun x => by
            rw [show vs.take 6 = vs by rw [← hvl.out, List.take_length]]
            simp [rsnE])
          have B9 := Lib.hid (Frm.below_of W8.out hF.out (fun g hg => by omega))
          have S9 := Lib.hid (S8.out.far (fun g hg => hF.out.block g (by omega) (by omega)) hF.out.size B9.out)
          have M9 := Lib.hid (M8.out.keep (hF.out.block _ M8.out.lt (by omega)))
          have V9 := Lib.hid (V8.out.keep (w' := w9) (Q := fun g => T ≤ g ∧ g < bi) fun g hg => ⟨hg, hF.out.block g (by omega) (by omega)⟩)
          have brl : br < w9.heap.size := by omega
          clear hQ hF S8 M8 W8 V8 hlt hk
          go_wp2_with fail
          refine (st_entries w w9 p l next S9.out.st FI.out).mono ?_
          rintro e wa ⟨va, esa, rfl, hh⟩
          have Sa := Lib.hid (S9.out.down hh.out.2)
          have Ba := Lib.hid (B9.out.trans (hh.out.2.mono B9.out.size))
          have Ma := Lib.hid (M9.out.keep (hh.out.2.block _ M9.out.lt))
          have Qa := Lib.hid (Q9.out.keep (hh.out.2.block _ Q9.out.lt))
          have Va' := Lib.hid (V9.out.keep (w' := wa) (Q := fun g => T ≤ g ∧ g < bi) fun g hg => ⟨hg, hh.out.2.block g (by omega)⟩)
          have sza := hh.out.2.size
          obtain ⟨Aa, ca, rfl, hE⟩ := hh.out.1.slot
          have Ea := Lib.hid hE
          obtain ⟨ln, hln⟩ : ∃ ln, l.length = ln := ⟨_, rfl⟩
          have ln8 : ln ≤ 8 := by omega
          rw [hln]
          have HLN := Lib.hid hln
          have kq : k' ≤ 6 + 100 * 0 := by omega
          have RFI := Lib.hid FI.out.okay.fit
          clear hh hE S9 B9 M9 Q9 V9 hln hk'
          go_wp2_with fail
          go_loopw [89] (fun i wr => ∃ k k' : Nat, k ≤ ln ∧ k' ≤ 6 + 100 * k ∧ i = .int .i64 k ∧ Hid (RsnI wr br k' fun x => rsnL l vs x || rsnE r (l.take k) x) ∧ Hid (Frm (fun g => g = br) wa wr)) (fun i _ => ln - (intOf i).toNat)
          case atStart => exact ⟨0, k', by omega, kq, rfl, Qa, Lib.hid (Frm.of_below (Below.refl _ _))⟩
          case round =>
            clear Qa kq
            obtain ⟨k, k', hk, hk', rfl, hQ, hF⟩ := hrel
            have szr := hF.out.size
            by_cases hlt : k < ln
            · have kl : k < l.length := by rw [HLN.out]; exact hlt
              have hx := List.getElem?_eq_getElem kl
              have hel : k < esa.length := by rw [Ea.out.len, HLN.out]; exact hlt
              have he := List.getElem?_eq_getElem hel
              have MX := Lib.hid (List.getElem_mem kl)
              have Er := Ea.out.keep (w' := wr) (Q := fun g => w9.heap.size ≤ g ∧ g < wa.heap.size) fun g hg => ⟨hg, hF.out.block g (by omega) (by omega)⟩
              have hent := Er.ent k _ _ he hx
              obtain ⟨g, rfl, hPg, hcells⟩ := Er.row k _ he
              have AT := Lib.hid (fun (p : Ent → Bool) => any_take p l k _ hx)
              generalize l[k] = x at *
              generalize esa[k] = e at *
              obtain ⟨eid, ek, ec, ef, et, nA, nn, nc, iA, mm, ic⟩ := e
              obtain ⟨j, cel⟩ := x
              obtain ⟨a1, a2, a3, a4, a5, a6, a7, a8, a9⟩ := hent
              simp only at a1 a2 a3 a4 a5 a6 a7 a8 a9
              have a1 := a1.symm
              subst a1; subst a2; subst a3; subst a4; subst a5
              have x0 : wr.cell? ⟨g, k * 7, none⟩ = some (.int .i64 j) := hcells 0 _ rfl
              have x1 := hcells 1 _ rfl
              have x2 := hcells 2 _ rfl
              have x3 := hcells 3 _ rfl
              have x4 := hcells 4 _ rfl
              have x5 := hcells 5 _ rfl
              have x6 := hcells 6 _ rfl
              have ITS := Lib.hid a9
              have a7' := Lib.hid a7
              have ki : (k : Int) < ln := by omega
              have FW := fewL3.out _ MX.out
              simp only at FW
              have m3 : mm ≤ 3 := by omega
              have J64 := OK.out.ids j (List.mem_map.2 ⟨_, MX.out, rfl⟩)
              clear hcells a6 a7 a8 a9 hx he hel Er kl FW
              go_wp2_with fail
              have BX := Lib.hid (Bk.new wr #[.int .i64 j, .int .i64 cel.kind, .int .i64 cel.cls, .int .i64 cel.fn, .int .i64 cel.ten, .slice nA nn nc, .slice iA mm ic] 49)
              have ax := (Below.refl wr.heap.size wr).alloc (Nat.le_refl _) (.cells #[.int .i64 j, .int .i64 cel.kind, .int .i64 cel.cls, .int .i64 cel.fn, .int .i64 cel.ten, .slice nA nn nc, .slice iA mm ic] 49)
              have F0 := Lib.hid (hF.out.low ax)
              have Qx := Lib.hid ((hQ.out.keep (ax.block _ hQ.out.lt)).congr (Q' := fun x => rsnL l vs x || rsnE r (l.take k) x || rsnV r (j, cel) (cel.items.take 0) x) fun x => by simp [rsnV])
              have Mx := Lib.hid (Ma.out.keep ((ax.block _ (Nat.lt_of_lt_of_le Ma.out.lt szr)).trans (hF.out.block _ Ma.out.lt (by omega))))
              have IX := Lib.hid (ITS.out.keep (w' := wr.alloc (.cells #[.int .i64 j, .int .i64 cel.kind, .int .i64 cel.cls, .int .i64 cel.fn, .int .i64 cel.ten, .slice nA nn nc, .slice iA mm ic] 49)) (Q := fun g => w9.heap.size ≤ g ∧ g < wa.heap.size) fun g hg => ⟨hg, ax.block g (by omega)⟩)
              generalize wr.alloc (.cells #[.int .i64 j, .int .i64 cel.kind, .int .i64 cel.cls, .int .i64 cel.fn, .int .i64 cel.ten, .slice nA nn nc, .slice iA mm ic] 49) = wx at *
              generalize hxb : wr.heap.size = xb at *
              have xlt : xb < wx.heap.size := BX.out.lt
              clear hQ hF x0 x1 x2 x3 x4 x5 x6 ITS ax hxb
              go_loopw [97] (fun i wr => ∃ q k2 : Nat, q ≤ mm ∧ k2 ≤ k' + q ∧ i = .int .i64 q ∧ Hid (RsnI wr br k2 fun x => rsnL l vs x || rsnE r (l.take k) x || rsnV r (j, cel) (cel.items.take q) x) ∧ Hid (Frm (fun g => g = br) wx wr)) (fun i _ => mm - (intOf i).toNat)
              case atStart => exact ⟨0, k', by omega, by omega, rfl, Qx, Lib.hid (Frm.of_below (Below.refl _ _))⟩
              case round =>
                clear Qx
                obtain ⟨q, k2, hq, hk2, rfl, hQ2, hF2⟩ := hrel
                have szq := hF2.out.size
                by_cases hlt2 : q < mm
                · have ql : q < cel.items.length := by rw [a7'.out]; exact hlt2
                  have hg := List.getElem?_eq_getElem ql
                  obtain ⟨b1, o, rfl, hb1, z0, z1, z2⟩ := (IX.out.keep (w' := wr) (Q := fun g => w9.heap.size ≤ g ∧ g < wa.heap.size) fun g hg => ⟨hg, hF2.out.block g (by omega) (by omega)⟩) q _ hg
                  have IV := RFI.out _ MX.out _ (List.getElem_mem ql)
                  have MV := Lib.hid (List.getElem_mem ql)
                  have AV := Lib.hid (fun (p : Val → Bool) => any_take p cel.items q _ hg)
                  have qi : (q : Int) < mm := by omega
                  generalize cel.items[q] = v at *
                  obtain ⟨vk, vn, vs0⟩ := v
                  simp only at z0 z1 z2 IV
                  have aq := (Below.refl wr.heap.size wr).alloc (Nat.le_refl _) (.cells #[.int .i64 vk, .int .i64 vn, .string vs0] 64)
                  have BV := Lib.hid (Bk.new wr #[.int .i64 vk, .int .i64 vn, .string vs0] 64)
                  have BXr := Lib.hid (show Bk (wr.alloc (.cells #[.int .i64 vk, .int .i64 vn, .string vs0] 64)) xb _ _ from ((aq.block _ (by omega)).trans (hF2.out.block _ xlt (by omega))).trans BX.out)
                  have F3 := Lib.hid (hF2.out.low aq)
                  have Mr := Lib.hid (Mx.out.keep ((aq.block _ (Nat.lt_of_lt_of_le Mx.out.lt szq)).trans (hF2.out.block _ Mx.out.lt (by omega))))
                  have Qr := Lib.hid (hQ2.out.keep (aq.block _ hQ2.out.lt))
                  have LJ := Mr.out.look J64
                  have c0 := BXr.out.cell 0 (.int .i64 j) rfl
                  have c1 := BXr.out.cell 1 (.int .i64 cel.kind) rfl
                  have d0 := BV.out.cell 0 (.int .i64 vk) rfl
                  have d1 := BV.out.cell 1 (.int .i64 vn) rfl
                  clear hQ2 hF2 hg ql aq
                  by_cases hc : j ∈ r ∧ cel.kind ≠ 4 ∧ vk = 5
                  · obtain ⟨hr, h4, rfl⟩ := hc
                    have hin : vn ∈ r := RC.out.shut _ MX.out hr h4 _ MV.out rfl
                    have LK := Mr.out.look IV
                    rw [decide_eq_true hin] at LK
                    have LR := Qr.out.look IV
                    have KX := Lib.hid (key_int IV)
                    rw [decide_eq_true hr] at LJ
                    have e4 : (cel.kind != 4) = true := by simp [h4]
                    have HR := Lib.hid hr
                    have H4 := Lib.hid h4
                    clear hin hr h4
                    rcases Bool.eq_false_or_eq_true (rsnL l vs vn || rsnE r (l.take k) vn || rsnV r (j, cel) (cel.items.take q) vn) with hqv | hqv
                    · rw [hqv] at LR
                      have HQ := Lib.hid hqv
                      clear hqv
                      obtain ⟨D, ho, hD⟩ := Qr.out
                      have HO := Lib.hid ho
                      have AF := Lib.hid (fun (w3 : World) (h : w3.ownsMap Tryz.prog 3 (plainElem Tryz.prog 4) br (k2 + 1) (D.put (.int .i64 vn) (.lit (.bool true)))) => show RsnI w3 br (k2 + 1) fun x => rsnL l vs x || rsnE r (l.take k) x || rsnV r (j, cel) (cel.items.take (q + 1)) x from (RsnI.put (ho.tidy intLaw) IV hD h).congr fun x => by
                        have e := AV.out fun v => decide ((j, cel).1 ∈ r) && decide ((j, cel).2.kind ≠ 4) && decide (v.k = 5) && decide (v.n = x) && decide ((j, cel).1 ≠ x)
                        rw [show rsnV r (j, cel) (cel.items.take (q + 1)) x = _ from e]
                        change _ = (rsnL l vs x || rsnE r (l.take k) x || (rsnV r (j, cel) (cel.items.take q) x || _))
                        by_cases ex : x = vn
                        · subst ex
                          rw [if_pos rfl, ← Bool.or_assoc, HQ.out]
                          simp [HR.out, H4.out]
                        · rw [if_neg ex]
                          simp [show ¬ vn = x from fun h => ex h.symm])
                      clear ho hD
                      go_wp2_with (at_mapUpdate; refine wpList_mapUpdate_own _ rfl _ _ _ 62 rfl 3 4 intLaw Tryz.underlying62 _ br k2 _ rfl HO.out (by unfold maxLen; omega) _ _ _ rfl rfl KX.out _ [] (plainElem_bool Tryz.underlying4 true) ?_)
                      intro w3 ho1 hg1
                      have S3 := Lib.hid (AF.out w3 ho1)
                      have F4 := Lib.hid (F3.out.grown hg1 rfl)
                      clear ho1 hg1 AF HO
                      go_wp2_with fail
                      go_roundw
                      case rel => exact ⟨q + 1, k2 + 1, by omega, by omega, by go_num, S3, F4⟩
                      case measure => simp [intOf]; omega
                    · rw [hqv] at LR
                      have HQ := Lib.hid hqv
                      clear hqv
                      obtain ⟨D, ho, hD⟩ := Qr.out
                      have HO := Lib.hid ho
                      have AF := Lib.hid (fun (w3 : World) (h : w3.ownsMap Tryz.prog 3 (plainElem Tryz.prog 4) br (k2 + 1) (D.put (.int .i64 vn) (.lit (.bool (vn != j))))) => show RsnI w3 br (k2 + 1) fun x => rsnL l vs x || rsnE r (l.take k) x || rsnV r (j, cel) (cel.items.take (q + 1)) x from (RsnI.put (ho.tidy intLaw) IV hD h).congr fun x => by
                        have e := AV.out fun v => decide ((j, cel).1 ∈ r) && decide ((j, cel).2.kind ≠ 4) && decide (v.k = 5) && decide (v.n = x) && decide ((j, cel).1 ≠ x)
                        rw [show rsnV r (j, cel) (cel.items.take (q + 1)) x = _ from e]
                        change _ = (rsnL l vs x || rsnE r (l.take k) x || (rsnV r (j, cel) (cel.items.take q) x || _))
                        by_cases ex : x = vn
                        · subst ex
                          rw [if_pos rfl, ← Bool.or_assoc, HQ.out]
                          simp [HR.out, H4.out]
                          by_cases ej : j = x
                          · subst ej; simp
                          · simp [ej, show ¬ x = j from fun e => ej e.symm]
                        · rw [if_neg ex]
                          simp [show ¬ vn = x from fun h => ex h.symm])
                      clear ho hD
                      go_wp2_with (at_mapUpdate; refine wpList_mapUpdate_own _ rfl _ _ _ 62 rfl 3 4 intLaw Tryz.underlying62 _ br k2 _ rfl HO.out (by unfold maxLen; omega) _ _ _ rfl rfl KX.out _ [] (plainElem_bool Tryz.underlying4 (vn != j)) ?_)
                      intro w3 ho1 hg1
                      have S3 := Lib.hid (AF.out w3 ho1)
                      have F4 := Lib.hid (F3.out.grown hg1 rfl)
                      clear ho1 hg1 AF HO
                      go_wp2_with fail
                      go_roundw
                      case rel => exact ⟨q + 1, k2 + 1, by omega, by omega, by go_num, S3, F4⟩
                      case measure => simp [intOf]; omega
                  · have Q4 := Lib.hid (Qr.out.congr (Q' := fun x => rsnL l vs x || rsnE r (l.take k) x || rsnV r (j, cel) (cel.items.take (q + 1)) x) fun x => by
                      unfold rsnV
                      rw [AV.out]
                      by_cases h1 : j ∈ r
                      · by_cases h2 : cel.kind = 4
                        · simp [h2]
                        · have h3 : vk ≠ 5 := fun h => hc ⟨h1, h2, h⟩
                          simp [h3]
                      · simp [h1])
                    by_cases h1 : j ∈ r
                    · rw [decide_eq_true h1] at LJ
                      by_cases h2 : cel.kind = 4
                      · have e4 : (cel.kind != 4) = false := by simp [h2]
                        clear hc h2 h1
                        go_wp2_with fail
                        go_roundw
                        case rel => exact ⟨q + 1, k2, by omega, by omega, by go_num, Q4, F3⟩
                        case measure => simp [intOf]; omega
                      · have e4 : (cel.kind != 4) = true := by simp [h2]
                        have e5 : (vk == 5) = false := by simp; exact fun h => hc ⟨h1, h2, h⟩
                        clear hc h2 h1
                        go_wp2_with fail
                        go_roundw
                        case rel => exact ⟨q + 1, k2, by omega, by omega, by go_num, Q4, F3⟩
                        case measure => simp [intOf]; omega
                    · rw [decide_eq_false h1] at LJ
                      clear hc h1
                      go_wp2_with fail
                      go_roundw
                      case rel => exact ⟨q + 1, k2, by omega, by omega, by go_num, Q4, F3⟩
                      case measure => simp [intOf]; omega
                · obtain rfl : mm = q := by omega
                  have Q5 := Lib.hid (hQ2.out.congr (Q' := fun x => rsnL l vs x || rsnE r (l.take (k + 1)) x) fun x => by
                    rw [show cel.items.take mm = cel.items from List.take_of_length_le (by rw [a7'.out]; omega)]
                    unfold rsnE
                    rw [AT.out, Bool.or_assoc])
                  have F5 := Lib.hid (F0.out.then hF2.out)
                  clear hQ2 hF2 F0 BX IX Mx
                  go_wp2_with fail
                  go_roundw
                  case rel => exact ⟨k + 1, k2, by omega, by omega, by go_num, Q5, F5⟩
                  case measure => simp [intOf]; omega
            · obtain rfl : ln = k := by omega
              rename World => wb
              have Qb := Lib.hid (hQ.out.congr (Q' := fun x => rsnL l vs x || rsnE r l x) fun x => by rw [show l.take ln = l by rw [← HLN.out, List.take_length]])
              have RB := Lib.hid (fun (i : Int) (hi : i ∈ r) => rsn_all RC.out hi)
              have Bb := Lib.hid (Frm.below_of Ba.out hF.out (fun g hg => by omega))
              have Sb := Lib.hid (Sa.out.far (fun g hg => hF.out.block g (by omega) (by omega)) hF.out.size Bb.out)
              have Mb := Lib.hid (Ma.out.keep (hF.out.block _ Ma.out.lt (by omega)))
              have Vb := Lib.hid (Va'.out.keep (w' := wb) (Q := fun g => T ≤ g ∧ g < bi) fun g hg => ⟨hg, hF.out.block g (by omega) (by omega)⟩)
              have blt : bi < wb.heap.size ∧ br < wb.heap.size ∧ T ≤ wb.heap.size ∧ w.heap.size ≤ wb.heap.size := by omega
              clear hQ hF Ma Sa Ba Va' hlt hk Ea
              obtain ⟨Drb, horb, -, hhrb, -⟩ := Mb.out
              have HOrb := Lib.hid horb
              have HHrb := Lib.hid hhrb
              clear horb hhrb
              go_wp2_with (at_range; refine wpList_range_own _ rfl _ 62 rfl 3 4 intLaw Tryz.underlying62 (plainElem Tryz.prog 4) bi _ Drb rfl HOrb.out ?_)
              intro wc hrg0 hg0 hs0
              have R0 := Lib.hid hrg0
              have C0 := Lib.hid (show Below wb.heap.size wb wc from ⟨hg0.os, hg0.tape, hg0.output, hg0.size, fun k hk => hg0.block k hk (by simp)⟩)
              clear hrg0 hg0 hs0 HOrb
              generalize hrb : wb.heap.size = rb at *
              have RErb := Lib.hid hrb
              clear hrb
              go_wp2_with fail
              go_loopw [22] (fun _ wr => ∃ (left : Lit → Bool) (cnt : Nat), Hid (wr.ranges Tryz.prog 3 (plainElem Tryz.prog 4) bi rb r.length Drb left cnt) ∧ Hid (Below rb wb wr)) (fun _ wr => wr.rangeLeft bi rb)
              case atStart => exact ⟨_, _, R0, C0⟩
              case round =>
                clear R0 C0
                obtain ⟨left, cnt, hrg, hbl⟩ := hrel
                go_wp2_with (at_next; refine wpList_next_ranges _ rfl _ rfl 3 intLaw (plainElem Tryz.prog 4) encZ idV intK_inv idV_inv bi rb r.length Drb left cnt rfl hrg.out ?_ ?_)
                rotate_left
                · intro x cp kl y yp w3 cnt2 hkey hlk hv hat hrg2 hlt hg2 hs2 hen
                  obtain ⟨x', ex, rfl, hwf⟩ := Maps.keyOf_i64 Tryz.underlying3 hkey
                  obtain rfl : x = x' := encZ_inj ex
                  have hx64 : I64 x := wf_I64 hwf
                  have hmem : x ∈ r := by
                    have h1 := has_true_of_atKey hat
                    rw [HHrb.out x hx64] at h1
                    simpa using h1
                  have B3 := Lib.hid (show Below rb wb w3 from ⟨hg2.os.trans hbl.out.os, hg2.tape.trans hbl.out.tape, hg2.output.trans hbl.out.output, Nat.le_trans hbl.out.size hg2.size, fun k hk => (hg2.block k (Nat.lt_of_lt_of_le hk (by have := hbl.out.size; have := RErb.out; omega)) fun e => by injection e with e; omega).trans (hbl.out.block k hk)⟩)
                  have R3 := Lib.hid hrg2
                  have LT3 := Lib.hid (fun (w' : World) (h : w'.ranges Tryz.prog 3 (plainElem Tryz.prog 4) bi rb r.length Drb (fun z => left z && !z.sameKey (.int .i64 x)) cnt2) => show w'.rangeLeft bi rb < wr.rangeLeft bi rb by rw [h.left_eq, hrg.out.left_eq]; exact hlt)
                  clear hkey hlk hv hat hrg2 hlt hg2 hs2 hwf ex hrg hbl
                  have LR := (Qb.out.keep (B3.out.block _ (by omega))).look hx64
                  rw [show (rsnL l vs x || rsnE r l x) = true from RB.out x hmem] at LR
                  clear hmem
                  go_wp2_with fail
                  first
                    | exact ⟨⟨_, cnt2, R3, B3⟩, LT3.out _ R3.out⟩
                    | (go_roundw
                       case rel => exact ⟨_, cnt2, R3, B3⟩
                       case measure => exact LT3.out _ R3.out)
                · intro hc0 hl0
                  have CBrb := hbl
                  clear hrg hbl hc0 hl0
                  rename World => wc
                  have Bc := Lib.hid (Bb.out.trans (CBrb.out.mono (by omega)))
                  have Sc := Lib.hid (Sb.out.far (fun g hg => CBrb.out.block g (by omega)) CBrb.out.size Bc.out)
                  have Mc := Lib.hid (Mb.out.keep (CBrb.out.block _ (by omega)))
                  have Vc := Lib.hid (Vb.out.keep (w' := wc) (Q := fun g => T ≤ g ∧ g < bi) fun g hg => ⟨hg, CBrb.out.block g (by omega)⟩)
                  have clt : rb ≤ wc.heap.size := by have := CBrb.out.size; have := RErb.out; omega
                  clear Qb RB Bb Sb Mb Vb CBrb
                  have Bd0 := (Below.refl wc.heap.size wc).alloc (Nat.le_refl _) (.map #[] 0)
                  have Nd := Lib.hid (SeenI.made wc)
                  have Sd := Lib.hid (Sc.out.down Bd0)
                  have bic : bi < wc.heap.size := Mc.out.lt
                  have Md := Lib.hid (Mc.out.keep (Bd0.block _ Mc.out.lt))
                  have Vd := Lib.hid (Vc.out.keep (w' := wc.alloc (.map #[] 0)) (Q := fun g => T ≤ g ∧ g < bi) fun g hg => ⟨hg, Bd0.block g (by omega)⟩)
                  have Bd := Lib.hid (Bc.out.trans (Bd0.mono Bc.out.size))
                  have szd : wc.heap.size < (wc.alloc (.map #[] 0)).heap.size := by simp
                  clear Sc Mc Vc Bc
                  go_wp2_with fail
                  generalize wc.alloc (.map #[] 0) = wd at *
                  generalize hbs : wc.heap.size = bs at *
                  clear hbs Bd0
                  refine (st_visible w wd _ p l next vs VA 6 vc Sd.out.st OK.out hvl.out (by decide) VI.out Vd.out (fun b hb => by omega)).mono ?_
                  rintro e we ⟨ve, s, rfl, hh⟩
                  obtain ⟨h1, h2, h3, h4⟩ := hh.out
                  obtain ⟨Ae, ce, rfl, h5⟩ := ids_own h3
                  have Se := Lib.hid (Sd.out.down h4)
                  have Be := Lib.hid (Bd.out.trans (h4.mono Bd.out.size))
                  have Re := Lib.hid h5
                  have Me := Lib.hid (Md.out.keep (h4.block _ Md.out.lt))
                  have Ne := Lib.hid (Nd.out.keep (h4.block _ Nd.out.lt))
                  have Ve := Lib.hid (Vd.out.keep (w' := we) (Q := fun g => T ≤ g ∧ g < bi) fun g hg => ⟨hg, h4.block g (by omega)⟩)
                  have SD := Lib.hid (show s.Nodup from h1.imp fun h => Int.ne_of_lt h)
                  have SV := Lib.hid (Rcv.of FI.out.sorted FI.out.shut h2)
                  have RSs := Lib.hid (show ∀ i ∈ r, i ∈ s from fun i hi => (h2 i).2 (rea_weak ((RR.out i).1 hi)))
                  have s8 : s.length ≤ 8 := Nat.le_trans (sub_len SD.out SV.out.sub) (by rw [ids_len]; exact FI.out.len)
                  have sze := h4.size
                  clear hh h1 h2 h3 h4 h5 Sd Bd Md Nd Vd
                  obtain ⟨sn, hsn⟩ : ∃ sn, s.length = sn := ⟨_, rfl⟩
                  rw [hsn] at s8 ⊢
                  have SN := Lib.hid hsn
                  clear hsn
                  go_wp2_with fail
                  go_loopw [152] (fun i wr => ∃ k : Nat, k ≤ sn ∧ i = .int .i64 k ∧ Hid (SeenI wr bs (s.take k)) ∧ Hid (Frm (fun g => g = bs) we wr)) (fun i _ => sn - (intOf i).toNat)
                  case atStart => exact ⟨0, by omega, rfl, Lib.hid (by rw [List.take_zero]; exact Ne.out), Lib.hid (Frm.of_below (Below.refl _ _))⟩
                  case round =>
                    clear Ne
                    obtain ⟨k, hk, rfl, hS, hF⟩ := hrel
                    have szr := hF.out.size
                    by_cases hlt : k < sn
                    · have kr : k < s.length := by rw [SN.out]; exact hlt
                      have hg := List.getElem?_eq_getElem kr
                      obtain ⟨g, rfl, hPg, hc⟩ := Re.out k _ hg
                      have x0 : wr.cell? ⟨g, k, none⟩ = some (.int .i64 s[k]) := (World.cell?_of_block (a := ⟨g, k, none⟩) (hF.out.block g hPg.2 (by omega))).trans hc
                      have IV := OK.out.ids _ (SV.out.sub _ (List.getElem_mem kr))
                      obtain ⟨hni, TK⟩ := take_seen SD.out hg
                      have ki : (k : Int) < sn := by omega
                      generalize s[k] = id at *
                      have KX := Lib.hid (key_int IV)
                      obtain ⟨D, ho, hD1, hD2, hD3⟩ := hS.out
                      have tl : (s.take k).length = k := by rw [List.length_take, SN.out]; omega
                      have AF := Lib.hid (fun (w3 : World) (h : w3.ownsMap Tryz.prog 3 (plainElem Tryz.prog 4) bs (k + 1) (D.put (.int .i64 id) (.lit (.bool true)))) => show SeenI w3 bs (s.take (k + 1)) by
                        rw [TK]; exact SeenI.after (ho.tidy intLaw) IV hni hD1 hD2 hD3 (by rw [tl]; exact h))
                      rw [tl] at ho
                      have HO := Lib.hid ho
                      clear hg hc hni TK ho hD1 hD2 hD3 kr hPg tl
                      go_wp2_with (at_mapUpdate; refine wpList_mapUpdate_own _ rfl _ _ _ 62 rfl 3 4 intLaw Tryz.underlying62 _ bs k _ rfl HO.out (by unfold maxLen; omega) _ _ _ rfl rfl KX.out _ [] (plainElem_bool Tryz.underlying4 true) ?_)
                      intro w3 ho1 hg1
                      have S3 := Lib.hid (AF.out w3 ho1)
                      have F3 := Lib.hid (hF.out.grown hg1 rfl)
                      clear ho1 hg1 AF HO
                      go_wp2_with fail
                      go_roundw
                      case rel => exact ⟨k + 1, by omega, by go_num, S3, F3⟩
                      case measure => simp [intOf]; omega
                    · obtain rfl : sn = k := by omega
                      rename World => wf
                      have Nf := Lib.hid (show SeenI wf bs s by have := hS.out; rwa [show s.take sn = s by rw [← SN.out, List.take_length]] at this)
                      have Bf := Lib.hid (Frm.below_of Be.out hF.out (fun g hg => by omega))
                      have Sf := Lib.hid (Se.out.far (fun g hg => hF.out.block g (by omega) (by omega)) hF.out.size Bf.out)
                      have Mf := Lib.hid (Me.out.keep (hF.out.block _ Me.out.lt (by omega)))
                      obtain ⟨gv, hVA, vc6, vcm⟩ : ∃ gv, VA = some ⟨gv, 0, none⟩ ∧ 6 ≤ vc ∧ vc ≤ maxLen := by
                        rcases OV.out.2 with ⟨_, h0⟩ | ⟨g, cap, cur, hv, _, _, hn, hm, _⟩
                        · omega
                        · simp only [Value.slice.injEq] at hv
                          obtain ⟨rfl, _, rfl⟩ := hv
                          exact ⟨g, rfl, hn, hm⟩
                      have Vf := Lib.hid (vals_take 3 (Ve.out.keep (w' := wf) (Q := fun g => T ≤ g ∧ g < bi) fun g hg => ⟨hg, hF.out.block g (by omega) (by omega)⟩))
                      unfold maxLen at vcm
                      have v3 : (vs.take 3).length = 3 := by rw [List.length_take, hvl.out]; rfl
                      have HV3 := Lib.hid v3
                      clear hS hF Se Me Be Re Ve hlt v3
                      subst hVA
                      go_wp2_with fail
                      refine (st_reach w wf _ p l next (vs.take 3) (some ⟨gv, 0, none⟩) 3 vc Sf.out.st OK.out HV3.out (by decide) (fun v hv => VI.out v (List.mem_of_mem_take hv)) Vf.out (fun b hb => by omega)).mono ?_
                      rintro e wg ⟨vg, r3, rfl, hh⟩
                      obtain ⟨h1, h2, h3, h4⟩ := hh.out
                      obtain ⟨A7, c7, rfl, h5⟩ := ids_own h3
                      have R3s := Lib.hid (show ∀ i ∈ r3, i ∈ r from fun i hi => (RR.out i).2 (((h2 i).1 hi).mono fun v hv => List.mem_of_mem_take hv))
                      have Sg := Lib.hid (Sf.out.down h4)
                      have Bg := Lib.hid (Bf.out.trans (h4.mono Bf.out.size))
                      have R7 := Lib.hid h5
                      have Mg := Lib.hid (Mf.out.keep (h4.block _ Mf.out.lt))
                      have Ng := Lib.hid (Nf.out.keep (h4.block _ Nf.out.lt))
                      have D3 := Lib.hid (show r3.Nodup from h1.imp fun h => Int.ne_of_lt h)
                      have r38 : r3.length ≤ 8 := Nat.le_trans (sub_len D3.out fun i hi => RU.out i (R3s.out i hi)) (by rw [ids_len]; exact FI.out.len)
                      have szg := h4.size
                      clear hh h1 h2 h3 h4 h5 Sf Bf Mf Nf Vf D3
                      obtain ⟨tn, htn⟩ : ∃ tn, r3.length = tn := ⟨_, rfl⟩
                      rw [htn] at r38 ⊢
                      have TN := Lib.hid htn
                      clear htn
                      go_wp2_with fail
                      go_loopw [164] (fun i wr => ∃ k : Nat, k ≤ tn ∧ i = .int .i64 k ∧ Hid (Below wg.heap.size wg wr)) (fun i _ => tn - (intOf i).toNat)
                      case atStart => exact ⟨0, by omega, rfl, Lib.hid (Below.refl _ _)⟩
                      case round =>
                        obtain ⟨k, hk, rfl, hb⟩ := hrel
                        have szr := hb.out.size
                        by_cases hlt : k < tn
                        · have kr : k < r3.length := by rw [TN.out]; exact hlt
                          have hg := List.getElem?_eq_getElem kr
                          obtain ⟨g, rfl, hPg, hc⟩ := R7.out k _ hg
                          have x0 : wr.cell? ⟨g, k, none⟩ = some (.int .i64 r3[k]) := (hb.out.cell (p := ⟨g, k, none⟩) hPg.2).trans hc
                          have hin := R3s.out _ (List.getElem_mem kr)
                          have IV := OK.out.ids _ (RU.out _ hin)
                          have LK := (Mg.out.keep (hb.out.block _ Mg.out.lt)).look IV
                          rw [decide_eq_true hin] at LK
                          have ki : (k : Int) < tn := by omega
                          generalize r3[k] = id at *
                          clear hg hc kr hPg hin
                          go_wp2_with fail
                          go_roundw
                          case rel => exact ⟨k + 1, by omega, by go_num, hb⟩
                          case measure => simp [intOf]; omega
                        · obtain rfl : tn = k := by omega
                          rename World => wh'
                          have Bh := Lib.hid (Bg.out.trans (hb.out.mono Bg.out.size))
                          have Sh := Lib.hid (Sg.out.down hb.out)
                          have Mh := Lib.hid (Mg.out.keep (hb.out.block _ Mg.out.lt))
                          have Nh := Lib.hid (Ng.out.keep (hb.out.block _ Ng.out.lt))
                          have hlt' : bi < wh'.heap.size ∧ bs < wh'.heap.size ∧ w.heap.size ≤ wh'.heap.size ∧ T ≤ wh'.heap.size := by have := Nh.out.lt; omega
                          clear hb Bg Sg Mg Ng R7 hlt
                          obtain ⟨Drc, horc, -, hhrc, -⟩ := Mh.out
                          have HOrc := Lib.hid horc
                          have HHrc := Lib.hid hhrc
                          clear horc hhrc
                          go_wp2_with (at_range; refine wpList_range_own _ rfl _ 62 rfl 3 4 intLaw Tryz.underlying62 (plainElem Tryz.prog 4) bi _ Drc rfl HOrc.out ?_)
                          intro wi' hrg0 hg0 hs0
                          have R0 := Lib.hid hrg0
                          have C0 := Lib.hid (show Below wh'.heap.size wh' wi' from ⟨hg0.os, hg0.tape, hg0.output, hg0.size, fun k hk => hg0.block k hk (by simp)⟩)
                          clear hrg0 hg0 hs0 HOrc
                          generalize hrb : wh'.heap.size = rc at *
                          have RErc := Lib.hid hrb
                          clear hrb
                          go_wp2_with fail
                          go_loopw [28] (fun _ wr => ∃ (left : Lit → Bool) (cnt : Nat), Hid (wr.ranges Tryz.prog 3 (plainElem Tryz.prog 4) bi rc r.length Drc left cnt) ∧ Hid (Below rc wh' wr)) (fun _ wr => wr.rangeLeft bi rc)
                          case atStart => exact ⟨_, _, R0, C0⟩
                          case round =>
                            clear R0 C0
                            obtain ⟨left, cnt, hrg, hbl⟩ := hrel
                            go_wp2_with (at_next; refine wpList_next_ranges _ rfl _ rfl 3 intLaw (plainElem Tryz.prog 4) encZ idV intK_inv idV_inv bi rc r.length Drc left cnt rfl hrg.out ?_ ?_)
                            rotate_left
                            · intro x cp kl y yp w3 cnt2 hkey hlk hv hat hrg2 hlt hg2 hs2 hen
                              obtain ⟨x', ex, rfl, hwf⟩ := Maps.keyOf_i64 Tryz.underlying3 hkey
                              obtain rfl : x = x' := encZ_inj ex
                              have hx64 : I64 x := wf_I64 hwf
                              have hmem : x ∈ r := by
                                have h1 := has_true_of_atKey hat
                                rw [HHrc.out x hx64] at h1
                                simpa using h1
                              have B3 := Lib.hid (show Below rc wh' w3 from ⟨hg2.os.trans hbl.out.os, hg2.tape.trans hbl.out.tape, hg2.output.trans hbl.out.output, Nat.le_trans hbl.out.size hg2.size, fun k hk => (hg2.block k (Nat.lt_of_lt_of_le hk (by have := hbl.out.size; have := RErc.out; omega)) fun e => by injection e with e; omega).trans (hbl.out.block k hk)⟩)
                              have R3 := Lib.hid hrg2
                              have LT3 := Lib.hid (fun (w' : World) (h : w'.ranges Tryz.prog 3 (plainElem Tryz.prog 4) bi rc r.length Drc (fun z => left z && !z.sameKey (.int .i64 x)) cnt2) => show w'.rangeLeft bi rc < wr.rangeLeft bi rc by rw [h.left_eq, hrg.out.left_eq]; exact hlt)
                              clear hkey hlk hv hat hrg2 hlt hg2 hs2 hwf ex hrg hbl
                              have LR := (Nh.out.keep (B3.out.block _ (by omega))).look hx64
                              rw [decide_eq_true (RSs.out x hmem)] at LR
                              clear hmem
                              go_wp2_with fail
                              first
                                | exact ⟨⟨_, cnt2, R3, B3⟩, LT3.out _ R3.out⟩
                                | (go_roundw
                                   case rel => exact ⟨_, cnt2, R3, B3⟩
                                   case measure => exact LT3.out _ R3.out)
                            · intro hc0 hl0
                              have CBrc := hbl
                              clear hrg hbl hc0 hl0
                              rename World => wi'
                              have Bi := Lib.hid (Bh.out.trans (CBrc.out.mono (by omega)))
                              have Si := Lib.hid (Sh.out.far (fun g hg => CBrc.out.block g (by omega)) CBrc.out.size Bi.out)
                              have Ni := Lib.hid (Nh.out.keep (CBrc.out.block _ (by omega)))
                              have hlt'' : bs < wi'.heap.size ∧ w.heap.size ≤ wi'.heap.size ∧ T ≤ wi'.heap.size := by have := CBrc.out.size; have := RErc.out; omega
                              clear Bh Sh Mh Nh CBrc
                              obtain ⟨Drd, hord, -, hhrd, -⟩ := Ni.out
                              have HOrd := Lib.hid hord
                              have HHrd := Lib.hid hhrd
                              clear hord hhrd
                              go_wp2_with (at_range; refine wpList_range_own _ rfl _ 62 rfl 3 4 intLaw Tryz.underlying62 (plainElem Tryz.prog 4) bs _ Drd rfl HOrd.out ?_)
                              intro wj' hrg0 hg0 hs0
                              have R0 := Lib.hid hrg0
                              have C0 := Lib.hid (show Below wi'.heap.size wi' wj' from ⟨hg0.os, hg0.tape, hg0.output, hg0.size, fun k hk => hg0.block k hk (by simp)⟩)
                              clear hrg0 hg0 hs0 HOrd
                              generalize hrb : wi'.heap.size = rd at *
                              have RErd := Lib.hid hrb
                              clear hrb
                              go_wp2_with fail
                              go_loopw [29] (fun _ wr => ∃ (left : Lit → Bool) (cnt : Nat), Hid (wr.ranges Tryz.prog 3 (plainElem Tryz.prog 4) bs rd s.length Drd left cnt) ∧ Hid (Below rd wi' wr)) (fun _ wr => wr.rangeLeft bs rd)
                              case atStart => exact ⟨_, _, R0, C0⟩
                              case round =>
                                clear R0 C0
                                obtain ⟨left, cnt, hrg, hbl⟩ := hrel
                                go_wp2_with (at_next; refine wpList_next_ranges _ rfl _ rfl 3 intLaw (plainElem Tryz.prog 4) encZ idV intK_inv idV_inv bs rd s.length Drd left cnt rfl hrg.out ?_ ?_)
                                rotate_left
                                · intro x cp kl y yp w3 cnt2 hkey hlk hv hat hrg2 hlt hg2 hs2 hen
                                  obtain ⟨x', ex, rfl, hwf⟩ := Maps.keyOf_i64 Tryz.underlying3 hkey
                                  obtain rfl : x = x' := encZ_inj ex
                                  have hx64 : I64 x := wf_I64 hwf
                                  have hmem : x ∈ s := by
                                    have h1 := has_true_of_atKey hat
                                    rw [HHrd.out x hx64] at h1
                                    simpa using h1
                                  have B3 := Lib.hid (show Below rd wi' w3 from ⟨hg2.os.trans hbl.out.os, hg2.tape.trans hbl.out.tape, hg2.output.trans hbl.out.output, Nat.le_trans hbl.out.size hg2.size, fun k hk => (hg2.block k (Nat.lt_of_lt_of_le hk (by have := hbl.out.size; have := RErd.out; omega)) fun e => by injection e with e; omega).trans (hbl.out.block k hk)⟩)
                                  have R3 := Lib.hid hrg2
                                  have LT3 := Lib.hid (fun (w' : World) (h : w'.ranges Tryz.prog 3 (plainElem Tryz.prog 4) bs rd s.length Drd (fun z => left z && !z.sameKey (.int .i64 x)) cnt2) => show w'.rangeLeft bs rd < wr.rangeLeft bs rd by rw [h.left_eq, hrg.out.left_eq]; exact hlt)
                                  clear hkey hlk hv hat hrg2 hlt hg2 hs2 hwf ex hrg hbl
                                  have hsub := SV.out.sub x hmem
                                  obtain ⟨⟨i, c0⟩, hce, hix⟩ := List.mem_map.1 hsub
                                  simp only at hix
                                  subst hix
                                  have MEM := Lib.hid hmem
                                  have HCE := Lib.hid hce
                                  have B3w := Lib.hid (Bi.out.trans (B3.out.mono (by have := RErd.out; omega)))
                                  have S3w := Lib.hid (Si.out.far (fun g hg => B3.out.block g (by omega)) B3.out.size B3w.out)
                                  have N3 := Lib.hid (Ni.out.keep (B3.out.block _ (by omega)))
                                  have FW := fewL.out _ hce
                                  simp only at FW
                                  have F3 := fewL3.out _ hce
                                  simp only at F3
                                  clear hsub hmem hce
                                  go_wp2_with fail
                                  refine (st_cell w w3 p l next i c0 S3w.out.st hx64 HCE.out FW.1 FW.2).mono ?_
                                  rintro e w4 ⟨D, dc, E, ec, rfl, hh⟩
                                  obtain ⟨⟨b0, M, hb0, hoc⟩, hb4⟩ := hh.out
                                  obtain ⟨E', ec', hE', hV'⟩ := own_vals hoc.2.2.2
                                  simp only [Value.slice.injEq] at hE'
                                  obtain ⟨rfl, -, rfl⟩ := hE'
                                  have IX := Lib.hid (hV'.keep (w' := w4) (Q := fun g => g < w4.heap.size) fun g hg => ⟨(World.ownsRow.lt hoc.2.2.2 g hg).2, rfl⟩)
                                  have N4 := Lib.hid (N3.out.keep (hb4.block _ N3.out.lt))
                                  have B34 := Lib.hid hb4
                                  obtain ⟨mm, hmm9⟩ : ∃ mm, c0.items.length = mm := ⟨_, rfl⟩
                                  have m3 : mm ≤ 3 := by omega
                                  unfold celV
                                  rw [hmm9]
                                  have MM := Lib.hid hmm9
                                  have ax := (Below.refl w4.heap.size w4).alloc (Nat.le_refl _) (.cells #[.int .i64 c0.kind, .int .i64 c0.cls, .int .i64 c0.fn, .int .i64 c0.ten, .slice D c0.names.length dc, .slice E mm ec] 46)
                                  have BX := Lib.hid (Bk.new w4 #[.int .i64 c0.kind, .int .i64 c0.cls, .int .i64 c0.fn, .int .i64 c0.ten, .slice D c0.names.length dc, .slice E mm ec] 46)
                                  have c5 := BX.out.cell 5 (.slice E mm ec) rfl
                                  clear hh hb0 hoc hb4 hV' hmm9
                                  go_wp2_with fail
                                  have IX5 := Lib.hid (IX.out.low (fun g hg => hg) ax)
                                  have N5 := Lib.hid (N4.out.keep (ax.block _ N4.out.lt))
                                  have R4 := Lib.hid (ranges_below (ranges_below R3.out B34.out) ax)
                                  have B5 := Lib.hid ((B34.out.trans (ax.mono B34.out.size)))
                                  have i5 : w4.heap.size ≤ (w4.alloc (.cells #[.int .i64 c0.kind, .int .i64 c0.cls, .int .i64 c0.fn, .int .i64 c0.ten, .slice D c0.names.length dc, .slice E mm ec] 46)).heap.size := ax.size
                                  clear c5 BX IX N4 ax R3
                                  generalize w4.alloc (.cells #[.int .i64 c0.kind, .int .i64 c0.cls, .int .i64 c0.fn, .int .i64 c0.ten, .slice D c0.names.length dc, .slice E mm ec] 46) = w5 at *
                                  have szw4 := B34.out.size
                                  go_loopw [198] (fun i wr => ∃ q : Nat, q ≤ mm ∧ i = .int .i64 q ∧ Hid (Below w5.heap.size w5 wr)) (fun i _ => mm - (intOf i).toNat)
                                  case atStart => exact ⟨0, by omega, rfl, Lib.hid (Below.refl _ _)⟩
                                  case round =>
                                    obtain ⟨q, hq, rfl, hb⟩ := hrel
                                    have szr := hb.out.size
                                    by_cases hlt : q < mm
                                    · have ql : q < c0.items.length := by rw [MM.out]; exact hlt
                                      have hg := List.getElem?_eq_getElem ql
                                      obtain ⟨b1, o, rfl, hb1, z0, z1, z2⟩ := (IX5.out.keep (w' := wr) (Q := fun g => g < w5.heap.size) fun g hg => ⟨by omega, hb.out.block g (by omega)⟩) q _ hg
                                      have IV := RFI.out _ HCE.out _ (List.getElem_mem ql)
                                      have SH := Lib.hid (SV.out.shut _ HCE.out MEM.out _ (List.getElem_mem ql))
                                      have qi : (q : Int) < mm := by omega
                                      generalize c0.items[q] = v at *
                                      obtain ⟨vk, vn, vs0⟩ := v
                                      simp only at z0 z1 z2 IV SH
                                      have aq := (Below.refl wr.heap.size wr).alloc (Nat.le_refl _) (.cells #[.int .i64 vk, .int .i64 vn, .string vs0] 64)
                                      have BV := Lib.hid (Bk.new wr #[.int .i64 vk, .int .i64 vn, .string vs0] 64)
                                      have d0 := BV.out.cell 0 (.int .i64 vk) rfl
                                      have d1 := BV.out.cell 1 (.int .i64 vn) rfl
                                      have BQ := Lib.hid (hb.out.trans (aq.mono szr))
                                      have LS := (N5.out.keep (BQ.out.block _ N5.out.lt)).look IV
                                      clear hg ql aq hb
                                      by_cases h5 : vk = 5
                                      · subst h5
                                        rw [decide_eq_true (SH.out rfl)] at LS
                                        go_wp2_with fail
                                        go_roundw
                                        case rel => exact ⟨q + 1, by omega, by go_num, BQ⟩
                                        case measure => simp [intOf]; omega
                                      · have e5 : (vk == 5) = false := by simp [h5]
                                        clear h5
                                        go_wp2_with fail
                                        go_roundw
                                        case rel => exact ⟨q + 1, by omega, by go_num, BQ⟩
                                        case measure => simp [intOf]; omega
                                    · obtain rfl : mm = q := by omega
                                      have R6 := Lib.hid (ranges_below R4.out hb.out)
                                      have B6 := Lib.hid (B3.out.trans (((B5.out.trans (hb.out.mono (by omega)))).mono (by have := B3.out.size; have := RErd.out; omega)))
                                      clear hb R4 B5
                                      go_wp2_with fail
                                      first
                                        | exact ⟨⟨_, cnt2, R6, B6⟩, LT3.out _ R6.out⟩
                                        | (go_roundw
                                           case rel => exact ⟨_, cnt2, R6, B6⟩
                                           case measure => exact LT3.out _ R6.out)
                                · intro hc0 hl0
                                  have CBrd := hbl
                                  clear hrg hbl hc0 hl0
                                  rename World => wj'
                                  have Bj := Lib.hid (Bi.out.trans (CBrd.out.mono (by have := RErd.out; omega)))
                                  clear CBrd Si Ni
                                  go_wp2_with fail
                                  go_ret
                                  exact ⟨rfl, Bj.out⟩
end Go.Proofs.YtkdpcnikgdbmaaaGreatDoor.Hp
