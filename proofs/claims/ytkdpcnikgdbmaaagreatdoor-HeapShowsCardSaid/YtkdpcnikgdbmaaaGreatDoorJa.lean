/-
  Contract of closed.
-/
import Derived.Test.YtkdpcnikgdbmaaaGreatDoorIb
namespace Go.Proofs.YtkdpcnikgdbmaaaGreatDoor.Hp
open Go Go.RowKit Go.Maps Go.Sort Go.Shelf Va

def okItems (l : List Ent) (r : List Val) : Bool := r.all fun v => !decide (v.k = 5) || decide (v.n ∈ ids l)
def shutB (l : List Ent) : Bool := l.all fun e => okItems l e.2.items
theorem okItems_snoc (l : List Ent) (r : List Val) (q : Nat) (v : Val) (hv : r[q]? = some v) : okItems l (r.take (q + 1)) = (okItems l (r.take q) && (!decide (v.k = 5) || decide (v.n ∈ ids l))) := by
  obtain ⟨h, rfl⟩ := List.getElem?_eq_some_iff.1 hv
  unfold okItems
  rw [List.take_succ_eq_append_getElem h, List.all_append]
  simp
theorem okItems_bad {l : List Ent} {r : List Val} {q : Nat} {v : Val} (hv : r[q]? = some v) (h5 : v.k = 5) (hn : v.n ∉ ids l) : okItems l r = false := by
  unfold okItems
  rw [List.all_eq_false]
  exact ⟨v, List.mem_of_getElem? hv, by simp [h5, hn]⟩
theorem closed_bad {l : List Ent} {e : Ent} (he : e ∈ l) (h : okItems l e.2.items = false) : shutB l = false := by
  unfold shutB
  rw [List.all_eq_false]
  exact ⟨e, he, by simp [h]⟩
set_option maxRecDepth 100000 in
set_option maxHeartbeats 4000000 in
theorem closed_any (F : Nat → Prop) (p b : Nat) (f : Int → Hd) (l : List Ent) (next : Int) (w : World) (H : HeapA w F p (some b) f l next) (hF : ∀ g, F g → g < w.heap.size) (hid : ∀ i ∈ ids l, I64 i) (hit : ∀ e ∈ l, e.2.items.length ≤ 4398046511104 ∧ ∀ v ∈ e.2.items, I64 v.n) :
    Calls Tryz.prog 62 #[.pointer (some ⟨p, 0, none⟩)] w fun e w' => e = .returned (.bool (shutB l)) ∧ Below w.heap.size w w' := by
  have HH := Lib.hid H
  have HF := Lib.hid hF
  have HI := Lib.hid hid
  have HT := Lib.hid hit
  have p0 := H.top.cell 0 (.map (some b)) rfl
  have hm := H.map
  clear H hF hid hit
  rcases hm with ⟨h', _⟩ | ⟨b', D0, hb', hFb, ho, hD⟩
  · cases h'
  obtain rfl : b = b' := Option.some.inj hb'
  have HO := Lib.hid ho
  have HD := Lib.hid hD
  have FB := Lib.hid hFb
  clear hb' hFb ho hD
  go_enter Tryz.func62, Tryz.ntmps62
  go_wp2_with (at_range; refine wpList_range_own _ rfl _ 97 rfl 3 101 intLaw Tryz.underlying97 ptrElem b _ D0 rfl HO.out ?_)
  intro w0 hrg0 hg0 hs0
  have R0 := Lib.hid hrg0
  have B0 := Lib.hid (show Below w.heap.size w w0 from ⟨hg0.os, hg0.tape, hg0.output, hg0.size, fun k hk => hg0.block k hk (by simp)⟩)
  have W0 := Lib.hid (show w.heap.size < w0.heap.size by first | omega | exact hs0)
  clear hrg0 hg0 p0 HO
  generalize hrb : w.heap.size = rb at *
  go_wp2_with fail
  go_loopw [4] (fun _ wr2 => ∃ (left : Lit → Bool) (cnt : Nat), Hid (wr2.ranges Tryz.prog 3 ptrElem b rb l.length D0 left cnt) ∧ Hid (Below rb w wr2) ∧ Hid (∀ e ∈ l, left (.int .i64 e.1) = false → okItems l e.2.items = true)) (fun _ wr2 => wr2.rangeLeft b rb)
  case atStart => exact ⟨_, _, R0, B0, Lib.hid fun e he h => by
    rw [HD.out.has_ e.1 (HI.out _ (List.mem_map.2 ⟨e, he, rfl⟩))] at h
    exact absurd (List.mem_map.2 ⟨e, he, rfl⟩) (of_decide_eq_false h)⟩
  case round =>
    clear R0 B0
    obtain ⟨left, cnt, hrg, hbl, hok⟩ := hrel
    go_wp2_with (at_next; refine wpList_next_ranges _ rfl _ rfl 3 intLaw ptrElem encZ ptrV intK_inv ptrV_inv b rb l.length D0 left cnt rfl hrg.out ?_ ?_)
    · intro hc0 hl0
      have HE := Lib.hid (show shutB l = true by
        unfold shutB
        rw [List.all_eq_true]
        exact fun e he => hok.out e he (hl0 _))
      go_wp2_with fail
      go_ret
      exact ⟨by rw [HE.out]; rfl, by rw [hrb]; exact hbl.out⟩
    · intro x cp kl y yp w3 cnt2 hkey hlk hv hat hrg2 hlt hg2 hs2 hen
      obtain ⟨x', ex, rfl, hwf⟩ := Maps.keyOf_i64 Tryz.underlying3 hkey
      obtain rfl : x = x' := encZ_inj ex
      have hx64 : I64 x := wf_I64 hwf
      have hmem : x ∈ ids l := by
        have h1 := has_true_of_atKey hat
        rw [HD.out.has_ x hx64] at h1
        simpa using h1
      have hpv : ptrV cp = .pointer (some ⟨(f x).b, 0, none⟩) := by
        have h1 := HD.out.at_ x hx64
        rw [hat .nil, if_pos hmem] at h1
        rw [h1] at hv
        exact ptrElem_lit hv
      rw [hpv] at hen ⊢
      obtain ⟨ee, hel, hex⟩ := List.mem_map.1 hmem
      obtain ⟨j, c0⟩ := ee
      simp only at hex
      subst hex
      have HEL := Lib.hid hel
      have B3 := Lib.hid (show Below rb w w3 from ⟨hg2.os.trans hbl.out.os, hg2.tape.trans hbl.out.tape, hg2.output.trans hbl.out.output, Nat.le_trans hbl.out.size hg2.size, fun k hk => (hg2.block k (Nat.lt_of_lt_of_le (by omega) hbl.out.size) fun e => by injection e with e; omega).trans (hbl.out.block k hk)⟩)
      have KEEP := Lib.hid (fun (w' : World) (hb : Below rb w w') => show HeapA w' F p (some b) f l next from HH.out.keep fun g hg => ⟨hg, hb.block g (HF.out g hg)⟩)
      have R3 := Lib.hid hrg2
      have LT3 := Lib.hid (fun (w' : World) (h : w'.ranges Tryz.prog 3 ptrElem b rb l.length D0 (fun z => left z && !z.sameKey (.int .i64 j)) cnt2) => show w'.rangeLeft b rb < wr.rangeLeft b rb by rw [h.left_eq, hrg.out.left_eq]; exact hlt)
      clear hkey hlk hv hat hrg2 hlt hg2 hs2 hpv hmem hel hwf ex hrg hbl
      have C3 := Lib.hid ((KEEP.out _ B3.out).of HEL.out).2
      obtain ⟨A1, nc, B, ic, e1, e2, -, hV3⟩ := C3.out.rows
      have bk := C3.out.blk
      unfold rowC at bk
      rw [e2] at bk
      have k5 := bk.cell 5 (.slice B c0.items.length ic) rfl
      clear bk e1
      have hIL := (HT.out _ HEL.out).1
      have IT := Lib.hid (HT.out _ HEL.out).2
      simp only at hIL IT
      have V3 := Lib.hid (fun (w' : World) (hb : Below w3.heap.size w3 w') => hV3.keep (w' := w') (Q := (f j).has) fun g hg => ⟨hg, hb.block g (by have := HF.out g ((HH.out.cells _ HEL.out).2 g hg); have := B3.out.size; omega)⟩)
      have KB := Lib.hid (fun (w' : World) (hb : Below w3.heap.size w3 w') => show Below rb w w' from B3.out.trans (hb.mono (by have := B3.out.size; omega)))
      clear hV3
      go_wp2_with fail
      go_loopw [21] (fun i wr2 => ∃ q : Nat, q ≤ c0.items.length ∧ i = .int .i64 q ∧ Hid (okItems l (c0.items.take q) = true) ∧ Hid (Below w3.heap.size w3 wr2)) (fun i _ => c0.items.length - (intOf i).toNat)
      case atStart => exact ⟨0, by omega, rfl, Lib.hid (by simp [okItems]), Lib.hid (Below.refl _ _)⟩
      case round =>
        obtain ⟨q, hq, rfl, hsf, hb3⟩ := hrel
        by_cases hlt2 : q < c0.items.length
        · have hg := List.getElem?_eq_getElem hlt2
          have IV := IT.out _ (List.getElem_mem hlt2)
          have SN := Lib.hid (okItems_snoc l c0.items q _ hg)
          have BD := Lib.hid (fun h5 hn => closed_bad (l := l) HEL.out (okItems_bad (l := l) hg h5 hn))
          obtain ⟨b1, o, rfl, hb1, x0, x1, x2⟩ := V3.out _ hb3.out q _ hg
          have ki : (q : Int) < c0.items.length := by omega
          generalize c0.items[q] = v at *
          clear hg
          obtain ⟨vk, vn, vs⟩ := v
          simp only at x0 x1 x2 IV SN BD
          have hsz3 := hb3.out.size
          have hB3 := B3.out.size
          have DE := Lib.hid (fun (o : Obj) => denoted_any F p (some b) f l next ⟨vk, vn, vs⟩ (wr.alloc o) (fun g hg => by have := HF.out g hg; simp; omega) (KEEP.out _ ((KB.out _ hb3.out).alloc (by omega) o)) IV)
          by_cases hv5 : vk = 5
          · subst hv5
            go_wp2_with fail
            refine (DE.out _).mono ?_
            rintro e w4 ⟨rfl, hb4⟩
            have B4 := Lib.hid (show Below w3.heap.size w3 w4 from (hb3.out.alloc hsz3 _).trans (hb4.mono (by simp; omega)))
            clear hb4 DE
            by_cases hin : vn ∈ ids l
            · have ed : denOf l f ⟨5, vn, vs⟩ = some ⟨(f vn).b, 0, none⟩ := by unfold denOf ptrOf; rw [if_pos rfl, if_pos hin]
              have OK := Lib.hid (show okItems l (c0.items.take (q + 1)) = true by rw [SN.out, hsf.out]; simp [hin])
              rw [ed]
              clear ed hin
              go_wp2_with fail
              go_roundw
              case rel => exact ⟨q + 1, by omega, by go_num, OK, B4⟩
              case measure => simp [intOf]; omega
            · have ed : denOf l f ⟨5, vn, vs⟩ = none := by unfold denOf ptrOf; rw [if_pos rfl, if_neg hin]
              have HE := Lib.hid (BD.out (by trivial) hin)
              rw [ed]
              clear ed hin
              go_wp2_with fail
              go_ret
              exact ⟨by rw [HE.out]; rfl, by rw [hrb]; exact KB.out _ B4.out⟩
          · have hv5' : (vk == 5) = false := by simp [hv5]
            have OK := Lib.hid (show okItems l (c0.items.take (q + 1)) = true by rw [SN.out, hsf.out]; simp [hv5])
            have B4 := Lib.hid (hb3.out.alloc hsz3 (.cells #[.int .i64 vk, .int .i64 vn, .string vs] 64))
            clear hv5 DE
            go_wp2_with fail
            go_roundw
            case rel => exact ⟨q + 1, by omega, by go_num, OK, B4⟩
            case measure => simp [intOf]; omega
        · have hge : (c0.items.length : Int) ≤ q := by omega
          have R4 := Lib.hid (ranges_below R3.out hb3.out)
          have OK := Lib.hid (show ∀ e ∈ l, (left (.int .i64 e.1) && !(Lit.int .i64 e.1).sameKey (.int .i64 j)) = false → okItems l e.2.items = true from fun e he h => by
            by_cases hl : left (.int .i64 e.1) = false
            · exact hok.out e he hl
            · obtain ⟨i, c'⟩ := e
              have h1 : i = j := by simpa [hl, Lit.sameKey] using h
              subst h1
              obtain rfl := mem_uniq HH.out.sorted he HEL.out
              have h2 := hsf.out
              rwa [show q = c'.items.length by omega, List.take_length] at h2)
          have B4 := Lib.hid (KB.out _ hb3.out)
          go_wp2_with fail
          first
            | exact ⟨⟨_, cnt2, R4, B4, OK⟩, LT3.out _ R4.out⟩
            | (go_roundw
               case rel => exact ⟨_, cnt2, R4, B4, OK⟩
               case measure => exact LT3.out _ R4.out)
end Go.Proofs.YtkdpcnikgdbmaaaGreatDoor.Hp
