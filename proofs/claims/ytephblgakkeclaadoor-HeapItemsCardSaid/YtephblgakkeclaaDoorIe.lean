/-
  remove.
-/
import Derived.Test.YtephblgakkeclaaDoorId
import Derived.Maps.RangeWalk
import Derived.BigRegion
namespace Go.Proofs.YtephblgakkeclaaDoor.Hp
open Go Go.RowKit Go.Maps Go.Sort Go.Shelf Va

/-- A row of ids that is read. -/
def IntsAt (w : World) (P : Nat → Prop) (A : Option Addr) (r : List Int) : Prop := ∀ j i, r[j]? = some i → ∃ b, A = some ⟨b, 0, none⟩ ∧ P b ∧ w.cell? ⟨b, j, none⟩ = some (.int .i64 i)
theorem IntsAt.keep {w w' : World} {P Q : Nat → Prop} {A : Option Addr} {r : List Int} (h : IntsAt w P A r) (hk : ∀ b, P b → Q b ∧ w'.heap[b]? = w.heap[b]?) : IntsAt w' Q A r := fun j i hj => by
  obtain ⟨b, rfl, hb, hc⟩ := h j i hj
  exact ⟨b, rfl, (hk _ hb).1, (World.cell?_of_block (a := ⟨b, j, none⟩) (hk _ hb).2).trans hc⟩
theorem IdsAt.ints {w : World} {base : Nat} {v : Value} {r : List Int} (h : IdsAt w base v r) : ∃ A c, v = .slice A r.length c ∧ IntsAt w (fun g => v.ownBlock = some g) A r := by
  unfold IdsAt at h
  rcases h.2 with ⟨rfl, h0⟩ | ⟨g, cap, cur, rfl, _⟩
  · refine ⟨none, 0, by rw [h0], fun j x hx => ?_⟩
    obtain rfl : r = [] := List.length_eq_zero_iff.1 h0
    cases hx
  · refine ⟨_, _, rfl, fun j x hx => ⟨g, rfl, rfl, ?_⟩⟩
    have hj := (List.getElem?_eq_some_iff.1 hx).1
    rw [World.ownsRow.cellAt h j (by omega), List.getElem?_map, hx]
    rfl
theorem search_any (P : Nat → Prop) (A : Option Addr) (r : List Int) (n c : Nat) (x : Int) (w : World) (hn : r.length = n) (h : IntsAt w P A r) (h0 : 0 < n) (hn' : n ≤ 4398046511104) (hs : r.Pairwise (· < ·)) :
    Calls Tryd.prog 49 #[.slice A n c, .int .i64 x] w fun e w' => ∃ i : Int, e = .returned (.tuple #[.int .i64 i, .bool (decide (x ∈ r))]) ∧ Below w.heap.size w w' := by
  subst hn
  obtain ⟨b, rfl, _, _⟩ := h 0 _ (List.getElem?_eq_getElem h0)
  refine (Tryd.slices_BinarySearch_int b 0 r.length c r x w (Nat.le_refl _) (by omega) (fun j hj => ?_) (by rw [List.take_length]; exact hs.imp Int.le_of_lt)).mono ?_
  · obtain ⟨b', e, _, hc⟩ := h j _ (List.getElem?_eq_getElem hj)
    simp only [Option.some.injEq, Addr.mk.injEq, and_true] at e
    subst e
    rw [Nat.zero_add, hc, List.getD_eq_getElem?_getD, List.getElem?_eq_getElem hj]; rfl
  · rintro e w' ⟨rfl, q, rfl⟩
    rw [List.take_length]
    refine ⟨((r.countP (· < x) : Nat) : Int), ?_, ⟨rfl, rfl, rfl, Nat.le_refl _, fun _ _ => rfl⟩⟩
    rw [show r.contains x = decide (x ∈ r) by rw [Bool.eq_iff_iff]; simp]
def ptrV : Option Nat → Value
  | none => .pointer none
  | some b => .pointer (some ⟨b, 0, none⟩)
theorem ptrV_inv (v : Value) (y : DataW Unit × List MemPlace) (h : ptrElem v = some y) : ∃ c, v = ptrV c := by
  unfold ptrElem at h
  split at h
  · exact ⟨none, rfl⟩
  · exact ⟨some _, rfl⟩
  · cases h
theorem intK_inv (key : Value) (kl : Lit) (h : keyOf Tryd.prog 3 key = some kl) : ∃ x, key = encZ x := by
  obtain ⟨x, hx, _⟩ := Maps.keyOf_i64 Tryd.underlying3 h
  exact ⟨x, hx⟩
theorem wf_I64 {n : Int} (h : (Lit.int .i64 n).wf = true) : I64 n := by
  have h3 : IntKind.i64.min = -9223372036854775808 := rfl
  have h4 : IntKind.i64.max = 9223372036854775807 := rfl
  simp [Lit.wf, h3, h4] at h
  exact h
theorem store3_grown (w : World) (b i j k : Nat) (x y z : Value) : w.grownBy (((w.setCell ⟨b, i, none⟩ x).setCell ⟨b, j, none⟩ y).setCell ⟨b, k, none⟩ z) (some b) :=
  ⟨rfl, rfl, rfl, by simp [World.setCell], fun g _ hne => by
    have h : g ≠ b := fun e => hne (by rw [e])
    rw [set_other _ _ _ _ g h, set_other _ _ _ _ g h, set_other _ _ _ _ g h]⟩
theorem cleanC_kind {gone : List Int} {c : Cel} (h : c.kind ≠ 4) : cleanC gone c = c := by unfold cleanC; rw [if_neg h]
theorem cleanC_one {gone : List Int} {c : Cel} {v : Val} (h : c.kind = 4) (hi : c.items = [v]) : cleanC gone c = if v.k = 5 ∧ v.n ∈ gone then c.put 0 nilVal else c := by
  unfold cleanC; rw [if_pos h]
  split
  · rename_i v' e
    rw [hi] at e
    injection e with e
    subst e; rfl
  · rename_i e
    exact absurd hi (e v)
theorem cleanC_nil (c : Cel) : cleanC [] c = c := by
  unfold cleanC
  split
  · split
    · rw [if_neg (by simp)]
    · rfl
  · rfl
theorem cleanL_nil (l : List Ent) : cleanL [] l = l := by
  unfold cleanL
  refine (List.map_congr_left fun e _ => ?_).trans (List.map_id l)
  rw [cleanC_nil]; rfl
theorem ranges_below {w w' : World} {P : Program} {k : TypeId} {R : Value → Option (DataW Unit × List MemPlace)} {b r n cnt : Nat} {D : DataW Unit} {left : Lit → Bool} (h : w.ranges P k R b r n D left cnt) (hb : Below w.heap.size w w') : w'.ranges P k R b r n D left cnt :=
  h.kept (row := none) ⟨hb.os, hb.tape, hb.output, hb.size, fun k hk _ => hb.block k hk⟩ (by simp) (by simp)
set_option maxRecDepth 100000 in
set_option maxHeartbeats 4000000 in
theorem remove_any (F P : Nat → Prop) (p b : Nat) (f : Int → Hd) (l : List Ent) (next : Int) (gone : List Int) (A : Option Addr) (n c : Nat) (w : World) (H : HeapA w F p (some b) f l next) (hF : ∀ g, F g → g < w.heap.size) (hn : gone.length = n) (hn' : n ≤ 4398046511104) (hg : ∀ i ∈ gone, I64 i) (hs : gone.Pairwise (· < ·)) (hid : ∀ i ∈ ids l, I64 i) (hA : IntsAt w P A gone) (hP : ∀ g, P g → g < w.heap.size ∧ ¬ F g)
    (hwk : ∀ e ∈ l, e.2.kind = 4 → ∃ v, e.2.items = [v] ∧ I64 v.n) :
    Calls Tryd.prog 34 #[.pointer (some ⟨p, 0, none⟩), .slice A n c] w fun e w' => e = .returned (.tuple #[]) ∧ Hid (HeapA w' F p (some b) f (cleanL gone (dropL gone l)) next ∧ Frm F w w') := by
  subst hn
  have HH := Lib.hid H
  have HF := Lib.hid hF
  have HG := Lib.hid hg
  have HS := Lib.hid hs
  have HI := Lib.hid hid
  have HW := Lib.hid hwk
  have AA := Lib.hid (fun (w' : World) (hf : Frm F w w') => hA.keep (w' := w') (Q := P) fun g hg => ⟨hg, hf.block g (hP g hg).1 (hP g hg).2⟩)
  clear H hF hg hs hid hwk hA hP
  go_enter Tryd.func34, Tryd.ntmps34
  go_wp2_with fail
  go_loopw [12] (fun i wr => ∃ q : Nat, q ≤ gone.length ∧ i = .int .i64 q ∧ Hid (HeapA wr F p (some b) f (dropL (gone.take q) l) next) ∧ Hid (Frm F w wr)) (fun i _ => gone.length - (intOf i).toNat)
  case atStart => exact ⟨0, by omega, rfl, Lib.hid (by rw [List.take_zero, dropL_nil]; exact HH.out), Lib.hid (Frm.of_below (Below.refl _ _))⟩
  case round =>
    obtain ⟨q, hq, rfl, hheap, hfr⟩ := hrel
    by_cases hlt : q < gone.length
    · have hg := List.getElem?_eq_getElem hlt
      obtain ⟨g, rfl, hPg, hc⟩ := AA.out _ hfr.out q _ hg
      have TK := Lib.hid (List.take_succ_eq_append_getElem hlt)
      have IV := HG.out _ (List.getElem_mem hlt)
      have ki : (q : Int) < gone.length := by omega
      generalize gone[q] = id at *
      clear hg
      have p0 := hheap.out.top.cell 0 _ rfl
      have hm := hheap.out.map
      rcases hm with ⟨h', _⟩ | ⟨b', D0, hb', hFb, ho, hD⟩
      · cases h'
      obtain rfl : b = b' := Option.some.inj hb'
      have KX := Lib.hid (key_int IV)
      have ST := Lib.hid (fun (w3 : World) (h : w3.ownsMap Tryd.prog 3 ptrElem b (dropL (gone.take q) l).length (D0.del (.int .i64 id))) (hg : wr.grownBy w3 (some b)) => hheap.out.strike hFb ho hD IV h hg)
      have FB := Lib.hid hFb
      clear hb' hD hFb
      go_wp2_with (at_delete; refine wpList_delete_own _ rfl _ _ 54 3 rfl 62 intLaw Tryd.underlying54 ptrElem b _ D0 rfl ho _ _ rfl KX.out ?_)
      intro w3 ho1 hg1
      have H3 := Lib.hid (show HeapA w3 F p (some b) f (dropL (gone.take (q + 1)) l) next by rw [TK.out, dropL_snoc]; exact ST.out w3 ho1 hg1.grown)
      have F3 := Lib.hid (hfr.out.grown hg1.grown FB.out)
      clear ho ho1 hg1 ST
      go_wp2_with fail
      go_roundw
      case rel => exact ⟨q + 1, by omega, by go_num, H3, F3⟩
      case measure => simp [intOf]; omega
    · obtain rfl : q = gone.length := by omega
      have H2 := Lib.hid (show HeapA wr F p (some b) f (dropL gone l) next by have := hheap.out; rwa [List.take_length] at this)
      clear hheap
      rcases Nat.eq_zero_or_pos gone.length with h0 | h0
      · obtain rfl := List.eq_nil_of_length_eq_zero h0
        clear h0
        go_wp2_with fail
        refine bodyPost_ret (results_none rfl _ _ _) rfl ?_
        exact ⟨rfl, Lib.hid ⟨by rw [cleanL_nil]; exact H2.out, hfr.out⟩⟩
      · have h0i : (((gone.length : Nat) : Int) == 0) = false := by simp; intro e; rw [e] at h0; simp at h0
        have p0 := H2.out.top.cell 0 (.map (some b)) rfl
        have hm := H2.out.map
        rcases hm with ⟨h', _⟩ | ⟨b', D0, hb', hFb, ho, hD⟩
        · cases h'
        obtain rfl : b = b' := Option.some.inj hb'
        have HO := Lib.hid ho
        have HD := Lib.hid hD
        have FB := Lib.hid hFb
        have SL := Lib.hid (show (ids (dropL gone l)).Pairwise (· < ·) from H2.out.sorted)
        have IL := Lib.hid (fun e (he : e ∈ dropL gone l) => (List.mem_filter.1 he).1)
        have IDL := Lib.hid (show ∀ i ∈ ids (dropL gone l), I64 i from fun i hi => HI.out i (by rw [ids_dropL] at hi; exact (List.mem_filter.1 hi).1))
        have wsz := hfr.out.size
        clear hb' hFb ho hD hq hlt
        generalize hl2 : dropL gone l = l2 at *
        have HL2 := Lib.hid hl2
        clear hl2
        go_wp2_with (at_range; refine wpList_range_own _ rfl _ 54 rfl 3 62 intLaw Tryd.underlying54 ptrElem b _ D0 rfl HO.out ?_)
        intro w0 hrg0 hg0 hs0
        have R0 := Lib.hid hrg0
        have F0 := Lib.hid (show Frm F w w0 from hfr.out.then ⟨hg0.os, hg0.tape, hg0.output, hg0.size, fun k hk _ => hg0.block k hk (by simp)⟩)
        have H0 := Lib.hid (show HeapA w0 F p (some b) f (partL gone (Maps.has D0) l2) next by
          rw [partL_start _ _ _ (fun i hi => by rw [HD.out.has_ i (IDL.out i hi)]; simp [hi])]
          exact H2.out.keep fun g hg => ⟨hg, hg0.block g (by have := HF.out g hg; omega) (by simp)⟩)
        clear hrg0 hg0 hs0 hfr H2 p0 HO
        generalize wr.heap.size = rb at *
        go_wp2_with fail
        go_loopw [7] (fun _ wr2 => ∃ (left : Lit → Bool) (cnt : Nat), Hid (wr2.ranges Tryd.prog 3 ptrElem b rb l2.length D0 left cnt) ∧ Hid (HeapA wr2 F p (some b) f (partL gone left l2) next) ∧ Hid (Frm F w wr2)) (fun _ wr2 => wr2.rangeLeft b rb)
        case atStart => exact ⟨_, _, R0, H0, F0⟩
        case round =>
          obtain ⟨left, cnt, hrg, hhp, hfr⟩ := hrel
          go_wp2_with (at_next; refine wpList_next_ranges _ rfl _ rfl 3 intLaw ptrElem encZ ptrV intK_inv ptrV_inv b rb l2.length D0 left cnt rfl hrg.out ?_ ?_)
          · intro hc0 hl0
            have HE := Lib.hid (show HeapA wr F p (some b) f (cleanL gone l2) next by rw [← partL_end gone left l2 hl0]; exact hhp.out)
            go_wp2_with fail
            go_end0
            exact ⟨rfl, Lib.hid ⟨by rw [HL2.out]; exact HE.out, hfr.out⟩⟩
          · intro x cp kl y yp w3 cnt2 hkey hlk hv hat hrg2 hlt hg2 hs2 hen
            obtain ⟨x', ex, rfl, hwf⟩ := Maps.keyOf_i64 Tryd.underlying3 hkey
            obtain rfl : x = x' := encZ_inj ex
            have hx64 : I64 x := wf_I64 hwf
            have hmem : x ∈ ids l2 := by
              have h1 := has_true_of_atKey hat
              rw [HD.out.has_ x hx64] at h1
              simpa using h1
            have hpv : ptrV cp = .pointer (some ⟨(f x).b, 0, none⟩) := by
              have h1 := HD.out.at_ x hx64
              rw [hat .nil, if_pos hmem] at h1
              rw [h1] at hv
              exact ptrElem_lit hv
            rw [hpv] at hen ⊢
            obtain ⟨ee, hel, hex⟩ := List.mem_map.1 hmem
            obtain ⟨j, c0⟩ := ee
            simp only at hex
            subst hex
            have hrbF : ∀ g, F g → g ≠ rb := fun g hg => by have := HF.out g hg; omega
            have F3 := Lib.hid (show Frm F w w3 from ⟨hg2.os.trans hfr.out.os, hg2.tape.trans hfr.out.tape, hg2.output.trans hfr.out.output, Nat.le_trans hfr.out.size hg2.size, fun k hk hn => (hg2.block k (Nat.lt_of_lt_of_le hk hfr.out.size) fun e => by injection e with e; omega).trans (hfr.out.block k hk hn)⟩)
            have H3 := Lib.hid (show HeapA w3 F p (some b) f (partL gone left l2) next from hhp.out.keep fun g hg => ⟨hg, hg2.block g (by have := HF.out g hg; have := hfr.out.size; omega) (fun e => hrbF g hg (by injection e))⟩)
            have M3 := Lib.hid (show (j, c0) ∈ partL gone left l2 from partL_mem hel hlk)
            have PS := Lib.hid (partL_step (gone := gone) (left := left) SL.out hel)
            have PSO := Lib.hid (show (ids (partL gone left l2)).Pairwise (· < ·) by rw [ids_partL]; exact SL.out)
            have CK := Lib.hid (HW.out (j, c0) (IL.out _ hel))
            have R3 := Lib.hid hrg2
            have LT3 := Lib.hid (fun (w' : World) (h : w'.ranges Tryd.prog 3 ptrElem b rb l2.length D0 (fun z => left z && !z.sameKey (.int .i64 j)) cnt2) => show w'.rangeLeft b rb < wr.rangeLeft b rb by rw [h.left_eq, hrg.out.left_eq]; exact hlt)
            clear hkey hlk hv hat hrg2 hlt hg2 hs2 hpv hmem hel hwf ex hrg hhp hfr
            have C3 := Lib.hid (H3.out.of M3.out).2
            obtain ⟨A1, nc, B, ic, e1, e2, -, hV3⟩ := C3.out.rows
            have bk := C3.out.blk
            unfold rowC at bk
            rw [e2] at bk
            have k0 := bk.cell 0 (.int .i64 c0.kind) rfl
            have k5 := bk.cell 5 (.slice B c0.items.length ic) rfl
            clear bk e1
            by_cases hk4 : c0.kind = 4
            · obtain ⟨v, hiv, v64⟩ := CK.out hk4
              rw [hk4] at k0
              obtain ⟨vk, vn, vs⟩ := v
              rw [hiv] at hV3
              obtain ⟨ib, io, rfl, hib, x0, x1, x2⟩ := hV3 0 _ rfl
              have hI := C3.out.its
              rw [e2, hiv] at hI
              have ho : io = 0 := by
                rcases hI.2 with ⟨h, _⟩ | ⟨g, cap, cur, h, _⟩
                · cases h
                · cases h; rfl
              subst ho
              simp only [Nat.zero_mul, Nat.add_zero, Nat.zero_add] at x0 x1 x2
              have CO := Lib.hid (cleanC_one (gone := gone) hk4 hiv)
              have EI := Lib.hid e2
              have LI : c0.items.length = 1 := by rw [hiv]; rfl
              rw [LI] at k5
              have z0 := World.ownsRow.frozenAt hI 0
              have z1 := World.ownsRow.frozenAt hI 1
              have z2 := World.ownsRow.frozenAt hI 2
              clear CK hk4 hV3 hI hiv e2
              by_cases hv5 : vk = 5
              · subst hv5
                have SR := Lib.hid (search_any P A gone gone.length c vn w3 rfl (AA.out _ F3.out) h0 hn' HS.out)
                have il := Hd.lt_of C3.out hib
                have ibF := Lib.hid (H3.out.inF M3.out hib)
                go_wp2_with fail
                refine SR.out.mono ?_
                rintro e w4 ⟨iq, rfl, hb⟩
                have F4 := Lib.hid (F3.out.low hb)
                have H4 := Lib.hid (H3.out.low (fun g hg => by have := HF.out g hg; have := F3.out.size; omega) hb)
                have R4 := Lib.hid (ranges_below R3.out hb)
                have y0 := (hb.cell (p := ⟨ib, 0, none⟩) il).trans x0
                have y1 := (hb.cell (p := ⟨ib, 1, none⟩) il).trans x1
                have y2 := (hb.cell (p := ⟨ib, 2, none⟩) il).trans x2
                have y5 := (hb.cell (p := ⟨(f j).b, 5, none⟩) C3.out.blk.lt).trans k5
                have fz : ∀ i, w4.frozen? ⟨ib, i, none⟩ = w3.frozen? ⟨ib, i, none⟩ := fun i => by simp only [World.frozen?, hb.block ib il]
                have g0 := (fz _).trans z0
                have g1 := (fz _).trans z1
                have g2 := (fz _).trans z2
                clear x0 x1 x2 k0 k5 z0 z1 z2 fz hb SR
                by_cases hin : vn ∈ gone
                · rw [decide_eq_true hin]
                  have EQ := Lib.hid (show partL gone (fun z => left z && !z.sameKey (.int .i64 j)) l2 = setC (partL gone left l2) j (c0.put 0 nilVal) by rw [PS.out, CO.out, if_pos (by simp [hin])])
                  have PR := Lib.hid (put_result H4.out (fun g hg => by have := HF.out g hg; have := F4.out.size; omega) (Below.refl _ _) M3.out EI.out rfl 0 nilVal)
                  simp only [Nat.zero_mul, Nat.zero_add, nilVal] at PR
                  have R5 := Lib.hid (R4.out.kept (store3_grown w4 ib 0 1 2 (.int .i64 1) (.int .i64 0) (.string ⟨#[]⟩)) (fun e => by
                    obtain ⟨es, cl, h1⟩ := own_isMap R4.out.owns
                    obtain ⟨cur, T, h2⟩ := (H4.out.of M3.out).2.isCells hib
                    injection e with e
                    subst e
                    rw [h1] at h2; cases h2) (fun e => hrbF ib ibF.out (by injection e with e; exact e.symm)))
                  have F5 := Lib.hid (F4.out.then PR.out.2)
                  clear hin CO
                  go_wp2_with fail
                  first
                    | exact ⟨⟨_, cnt2, R5, by rw [EQ.out]; exact Lib.hid PR.out.1, F5⟩, LT3.out _ R5.out⟩
                    | (go_roundw
                       case rel => exact ⟨_, cnt2, R5, by rw [EQ.out]; exact Lib.hid PR.out.1, F5⟩
                       case measure => exact LT3.out _ R5.out)
                · rw [decide_eq_false hin]
                  have EQ := Lib.hid (show partL gone (fun z => left z && !z.sameKey (.int .i64 j)) l2 = partL gone left l2 by rw [PS.out, CO.out, if_neg (by simp [hin]), setC_same PSO.out M3.out])
                  clear hin CO
                  go_wp2_with fail
                  first
                    | exact ⟨⟨_, cnt2, R4, by rw [EQ.out]; exact H4, F4⟩, LT3.out _ R4.out⟩
                    | (go_roundw
                       case rel => exact ⟨_, cnt2, R4, by rw [EQ.out]; exact H4, F4⟩
                       case measure => exact LT3.out _ R4.out)
              · have hv5' : (vk != 5) = true := by simp [hv5]
                have EQ := Lib.hid (show partL gone (fun z => left z && !z.sameKey (.int .i64 j)) l2 = partL gone left l2 by rw [PS.out, CO.out, if_neg (by simp [hv5]), setC_same PSO.out M3.out])
                clear hv5
                go_wp2_with fail
                first
                  | exact ⟨⟨_, cnt2, R3, by rw [EQ.out]; exact H3, F3⟩, LT3.out _ R3.out⟩
                  | (go_roundw
                     case rel => exact ⟨_, cnt2, R3, by rw [EQ.out]; exact H3, F3⟩
                     case measure => exact LT3.out _ R3.out)
            · have hk4' : (c0.kind != 4) = true := by simp [hk4]
              have EQ := Lib.hid (show partL gone (fun z => left z && !z.sameKey (.int .i64 j)) l2 = partL gone left l2 by rw [PS.out, cleanC_kind hk4, setC_same PSO.out M3.out])
              clear CK hk4
              go_wp2_with fail
              first
                | exact ⟨⟨_, cnt2, R3, by rw [EQ.out]; exact H3, F3⟩, LT3.out _ R3.out⟩
                | (go_roundw
                   case rel => exact ⟨_, cnt2, R3, by rw [EQ.out]; exact H3, F3⟩
                   case measure => exact LT3.out _ R3.out)
end Go.Proofs.YtephblgakkeclaaDoor.Hp
