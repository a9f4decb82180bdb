/-
  The walk of HeapFields.
-/
import Derived.Test.YthgjkpfnfdnkjaaGreatDoorQd
namespace Go.Proofs.YthgjkpfnfdnkjaaGreatDoor.Hp
open Go Go.RowKit Go.Maps Va

theorem bnds_low {w w' : World} (hB : Bnds w) (hb : Below w.heap.size w w') : Bnds w' := fun i hi => (hb.cell (p := ⟨_, _, none⟩) hB.size).trans (hB i hi)
set_option maxRecDepth 100000 in
set_option maxHeartbeats 4000000 in
theorem fields_walk (w : World) (hB : Bnds w) (A : Option Addr) (zs : List Int) (c : Nat) (z0 z1 n : Int) (hA : Ac.Sl w w.heap.size A zs) (hz : ∀ z ∈ zs, I64 z) (hl : zs.length ≤ 17592186044404) (h0 : I64 z0) (h1 : I64 z1) (hn : I64 n) :
    Calls Tryz.prog 8 #[.slice A zs.length c, .agg #[.int .i64 z0, .int .i64 z1], .int .i64 n] w fun e w' => e = .returned (.bool true) ∧ Below w.heap.size w w' := by
  have HB := Lib.hid hB
  have HA := Lib.hid hA
  have HZ := Lib.hid hz
  have Z0 := Lib.hid h0
  have Z1 := Lib.hid h1
  have HN := Lib.hid hn
  have hmx : Tryz.prog.follows .mixedOrders = true := by kernel_rfl
  clear hB hA hz h0 h1 hn
  go_enter Tryz.func8, Tryz.ntmps8
  go_wp2_with fail
  have hW1 := (Below.refl w.heap.size w).alloc (Nat.le_refl _) (.cells #[.int .i64 z0, .int .i64 z1] 69)
  refine (sanity_any _ (bnds_low HB.out hW1)).mono ?_
  rintro e w1 ⟨rfl, hb⟩
  have B1 := Lib.hid (hW1.trans (hb.mono hW1.size))
  have sz1 := B1.out.size
  clear hW1 hb
  go_wp2_with fail
  refine (begin_any A zs c w1 (Ac.Sl.up (HA.out.below B1.out (Nat.le_refl _)) sz1) HZ.out hl (bnds_low HB.out B1.out)).mono ?_
  rintro e w2 ⟨p, q, v, es, l, next, rfl, hh⟩
  have FI := Lib.hid hh.out.2.2.2.2
  have S2 := Lib.hid (hh.out.1.since B1.out HB.out)
  have B2 := Lib.hid (B1.out.trans (hh.out.2.2.2.1.mono sz1))
  have sz2 := B2.out.size
  clear hh
  go_wp2_with fail
  refine (st_entries w w2 p l next S2.out FI.out).mono ?_
  rintro e w3 ⟨v3, es3, rfl, hh⟩
  have S3 := Lib.hid (S2.out.down hh.out.2)
  have B23 := Lib.hid hh.out.2
  have B3 := Lib.hid (B2.out.trans (hh.out.2.mono sz2))
  have sz3 := B3.out.size
  obtain ⟨A3, c3, rfl, hE⟩ := hh.out.1.slot
  have HE := Lib.hid hE
  clear hh hE
  by_cases hl0 : l.length = 0
  · have e0 : ((l.length : Int) == 0) = true := by simp [hl0]
    go_wp2_with fail
    go_ret
    exact ⟨rfl, B3.out⟩
  have e0 : ((l.length : Int) == 0) = false := by simp [hl0]
  have l8 : l.length ≤ 8 := FI.out.len
  go_wp2_with fail
  refine (Ac.mod_any z0 l.length Z0.out (by omega) (by omega) _).mono ?_
  rintro e w4 ⟨rfl, rfl⟩
  obtain ⟨m, hm⟩ : ∃ m : Nat, z0 % (l.length : Int) = m := ⟨(z0 % l.length).toNat, by have := Int.emod_nonneg z0 (show (l.length : Int) ≠ 0 by omega); omega⟩
  have ml : m < l.length := by have := Int.emod_lt_of_pos z0 (show (0 : Int) < l.length by omega); omega
  rw [hm]
  have hx := List.getElem?_eq_getElem ml
  have hel : m < es3.length := by rw [HE.out.len]; exact ml
  have he := List.getElem?_eq_getElem hel
  have MX := Lib.hid (List.getElem_mem ml)
  have hent := HE.out.ent m _ _ he hx
  obtain ⟨g, rfl, hPg, hcells⟩ := HE.out.row m _ he
  generalize l[m] = x at *
  generalize es3[m] = e at *
  obtain ⟨eid, ek, ec, ef, et, nA, nn, nc, iA, mm, ic⟩ := e
  obtain ⟨j, cel⟩ := x
  obtain ⟨a1, a2, a3, a4, a5, a6, a7, a8, a9⟩ := hent
  simp only at a1 a2 a3 a4 a5 a6 a7 a8 a9
  subst a1; subst a2; subst a3; subst a4; subst a5
  have x0 : w3.cell? ⟨g, m * 7, none⟩ = some (.int .i64 eid) := hcells 0 _ rfl
  have x1 := hcells 1 _ rfl
  have x2 := hcells 2 _ rfl
  have x3 := hcells 3 _ rfl
  have x4 := hcells 4 _ rfl
  have x5 := hcells 5 _ rfl
  have x6 := hcells 6 _ rfl
  have NMS := Lib.hid a8
  have ITS := Lib.hid a9
  have a6' := Lib.hid a6
  have a7' := Lib.hid a7
  have mi : (m : Int) < l.length := by omega
  clear hcells a6 a7 a8 a9 hx he hm hel
  go_wp2_with fail
  have BX := Lib.hid (Bk.new w3 #[.int .i64 eid, .int .i64 cel.kind, .int .i64 cel.cls, .int .i64 cel.fn, .int .i64 cel.ten, .slice nA nn nc, .slice iA mm ic] 49)
  have b4 := (Below.refl w3.heap.size w3).alloc (Nat.le_refl _) (.cells #[.int .i64 eid, .int .i64 cel.kind, .int .i64 cel.cls, .int .i64 cel.fn, .int .i64 cel.ten, .slice nA nn nc, .slice iA mm ic] 49)
  generalize w3.alloc (.cells #[.int .i64 eid, .int .i64 cel.kind, .int .i64 cel.cls, .int .i64 cel.fn, .int .i64 cel.ten, .slice nA nn nc, .slice iA mm ic] 49) = w4 at *
  refine (name_any z1 Z1.out w4).mono ?_
  rintro e w5 ⟨s, rfl, hs⟩
  have b5 := b4.trans (hs.out.2.mono b4.size)
  have BX5 := Lib.hid (BX.out.low hs.out.2)
  clear hs BX
  go_wp2_with fail
  refine (lawNum_any _ _).mono ?_
  rintro e w6 ⟨rfl, hb6⟩
  dsimp only [valV]
  obtain ⟨r, hr⟩ : ∃ r, n.tmod 1000 = r := ⟨_, rfl⟩
  rw [hr]
  have b6 := b5.trans (hb6.mono b5.size)
  have BX6 := Lib.hid (BX5.out.low hb6)
  clear hb6 BX5 b4 hr
  go_wp2_with fail
  have BV := Lib.hid (Bk.new w6 #[.int .i64 3, .int .i64 r, .string ⟨#[]⟩] 64)
  have b7 := b6.alloc b6.size (.cells #[.int .i64 3, .int .i64 r, .string ⟨#[]⟩] 64)
  have BX7 := Lib.hid (BX6.out.alloc (.cells #[.int .i64 3, .int .i64 r, .string ⟨#[]⟩] 64))
  generalize w6.alloc (.cells #[.int .i64 3, .int .i64 r, .string ⟨#[]⟩] 64) = w7 at *
  generalize hvx : w6.heap.size = vb at BV ⊢
  have I64e := Lib.hid (FI.out.okay.ids eid (List.mem_map.2 ⟨_, MX.out, rfl⟩))
  have y0 := BX7.out.cell 0 (.int .i64 eid) rfl
  go_wp2_with fail
  generalize hbx : w3.heap.size = b at BX7 ⊢
  have BGE := Lib.hid (show w2.heap.size ≤ b ∧ w2.heap.size ≤ vb by have := B23.out.size; have := b6.size; omega)
  clear hbx hvx y0
  -- R13 BEGIN
  have S1 := Lib.hid (show (fun v : World => v.cell? ⟨b, 0, none⟩ = some (.int .i64 eid) ∧ v.cell? ⟨vb, 0, none⟩ = some (.int .i64 3) ∧ v.cell? ⟨vb, 1, none⟩ = some (.int .i64 r) ∧ v.cell? ⟨vb, 2, none⟩ = some (.string ⟨#[]⟩)) w7.drew from ⟨BX7.out.cell 0 _ rfl, BV.out.cell 0 _ rfl, BV.out.cell 1 _ rfl, BV.out.cell 2 _ rfl⟩)
  refine region_plain (fun v : World => v.cell? ⟨b, 0, none⟩ = some (.int .i64 eid) ∧ v.cell? ⟨vb, 0, none⟩ = some (.int .i64 3) ∧ v.cell? ⟨vb, 1, none⟩ = some (.int .i64 r) ∧ v.cell? ⟨vb, 2, none⟩ = some (.string ⟨#[]⟩)) hmx ?_
  refine wpAnyH_take (i := 0) (v := ?_) rfl (by kernel_rfl) (by kernel_rfl) (by kernel_rfl) (fun _ _ _ h => h) (.inl ⟨by kernel_rfl, fun v hS => ?_⟩) S1.out ?_
  rotate_left
  · obtain ⟨e0, e1, e2, e3⟩ := hS
    go_simp
    with_reducible rfl
  refine wpAnyH_take (i := 1) (v := ?_) rfl (by kernel_rfl) (by kernel_rfl) (by kernel_rfl) (fun _ _ _ h => h) (.inl ⟨by kernel_rfl, fun v hS => ?_⟩) S1.out ?_
  rotate_left
  · obtain ⟨e0, e1, e2, e3⟩ := hS
    go_simp
    with_reducible rfl
  refine wpAnyH_take (i := 2) (v := ?_) rfl (by kernel_rfl) (by kernel_rfl) (by kernel_rfl) (fun _ _ _ h => h) (.inl ⟨by kernel_rfl, fun v hS => ?_⟩) S1.out ?_
  rotate_left
  · obtain ⟨e0, e1, e2, e3⟩ := hS
    go_simp
    with_reducible rfl
  refine wpAnyH_take (i := 4) (v := ?_) rfl (by kernel_rfl) (by kernel_rfl) (by kernel_rfl) (fun _ _ _ h => h) (.inl ⟨by kernel_rfl, fun v hS => ?_⟩) S1.out ?_
  rotate_left
  · obtain ⟨e0, e1, e2, e3⟩ := hS
    go_simp
    with_reducible rfl
  refine wpAnyH_take (i := 5) (v := ?_) rfl (by kernel_rfl) (by kernel_rfl) (by kernel_rfl) (fun _ _ _ h => h) (.inl ⟨by kernel_rfl, fun v hS => ?_⟩) S1.out ?_
  rotate_left
  · obtain ⟨e0, e1, e2, e3⟩ := hS
    go_simp
    with_reducible rfl
  refine one_ready 3 rfl (by kernel_rfl) (by kernel_rfl) ?_
  go_simp
  refine (lawRef_any _ _).mono ?_
  rintro e w8 ⟨rfl, hb8⟩
  dsimp only [valV]
  have b8 := Lib.hid (b7.drew.trans (hb8.mono b7.size))
  have BX8 := Lib.hid (show Bk w8 b _ _ from BX7.out.low (w := w7.drew) hb8)
  have BV8 := Lib.hid (show Bk w8 vb _ _ from BV.out.low (w := w7.drew) hb8)
  have S2x := Lib.hid (show (fun v : World => v.cell? ⟨b, 0, none⟩ = some (.int .i64 eid) ∧ v.cell? ⟨vb, 0, none⟩ = some (.int .i64 3) ∧ v.cell? ⟨vb, 1, none⟩ = some (.int .i64 r) ∧ v.cell? ⟨vb, 2, none⟩ = some (.string ⟨#[]⟩)) w8 from ⟨BX8.out.cell 0 _ rfl, BV8.out.cell 0 _ rfl, BV8.out.cell 1 _ rfl, BV8.out.cell 2 _ rfl⟩)
  obtain ⟨gr, ft, d, hSO, hCall⟩ := st_set_any w w2 w8 p l next eid r s cel S2.out (B23.out.trans (b8.out.mono B23.out.size)) FI.out MX.out I64e.out
  have SO := Lib.hid hSO
  clear hb8 hSO
  refine ⟨S2x.out, ?_⟩
  refine one_ready 6 rfl (by kernel_rfl) (by kernel_rfl) ?_
  go_simp
  refine hCall.mono ?_
  rintro e w9 ⟨rfl, hh⟩
  have FR := Lib.hid hh.out.2
  obtain ⟨l', hS9, hin⟩ := hh.out.1
  have S9 := Lib.hid hS9
  have MD := Lib.hid hin
  have BX9 := Lib.hid (FR.out.bk BX8.out BGE.out.1)
  have BV9 := Lib.hid (FR.out.bk BV8.out BGE.out.2)
  have S3x := Lib.hid (show (fun v : World => v.cell? ⟨b, 0, none⟩ = some (.int .i64 eid) ∧ v.cell? ⟨vb, 0, none⟩ = some (.int .i64 3) ∧ v.cell? ⟨vb, 1, none⟩ = some (.int .i64 r) ∧ v.cell? ⟨vb, 2, none⟩ = some (.string ⟨#[]⟩)) w9 from ⟨BX9.out.cell 0 _ rfl, BV9.out.cell 0 _ rfl, BV9.out.cell 1 _ rfl, BV9.out.cell 2 _ rfl⟩)
  clear hh hS9 hin hCall
  refine ⟨S3x.out, ?_⟩
  refine wpAnyH_take (i := 7) (v := ?_) rfl (by kernel_rfl) (by kernel_rfl) (by kernel_rfl) (fun _ _ _ h => h) (.inl ⟨by kernel_rfl, fun v hS => ?_⟩) S3x.out ?_
  rotate_left
  · obtain ⟨e0, e1, e2, e3⟩ := hS
    go_simp
    with_reducible rfl
  refine wpAnyH_take (i := 8) (v := ?_) rfl (by kernel_rfl) (by kernel_rfl) (by kernel_rfl) (fun _ _ _ h => h) (.inl ⟨by kernel_rfl, fun v hS => ?_⟩) S3x.out ?_
  rotate_left
  · obtain ⟨e0, e1, e2, e3⟩ := hS
    go_simp
    with_reducible rfl
  refine wpAnyH_take (i := 9) (v := ?_) rfl (by kernel_rfl) (by kernel_rfl) (by kernel_rfl) (fun _ _ _ h => h) (.inl ⟨by kernel_rfl, fun v hS => ?_⟩) S3x.out ?_
  rotate_left
  · obtain ⟨e0, e1, e2, e3⟩ := hS
    go_simp
    with_reducible rfl
  refine one_ready 10 rfl (by kernel_rfl) (by kernel_rfl) ?_
  go_simp
  refine ⟨S3x.out, ?_⟩
  refine one_ready 11 rfl (by kernel_rfl) (by kernel_rfl) ?_
  go_simp
  refine ⟨S3x.out, rfl, ?_⟩
  -- R13 END
  have sz9 := FR.out.1
  have FW := Lib.hid (FI.out.few _ MX.out)
  simp only at FW
  have FD := Lib.hid (SO.out.few FW.out)
  have y0 := BX9.out.cell 0 (.int .i64 eid) rfl
  have PQ := Lib.hid (fun g (h : w2.heap.size ≤ g ∧ g < w3.heap.size) => FR.out.2 g h.1 (by have := b8.out.size; omega))
  have N9 := Lib.hid (NMS.out.keep (w' := w9) (Q := fun g => w2.heap.size ≤ g ∧ g < w3.heap.size) fun g hg => ⟨hg, (PQ.out g hg).trans (b8.out.block g hg.2)⟩)
  have V9 := Lib.hid (ITS.out.keep (w' := w9) (Q := fun g => w2.heap.size ≤ g ∧ g < w3.heap.size) fun g hg => ⟨hg, (PQ.out g hg).trans (b8.out.block g hg.2)⟩)
  have P9 := Lib.hid (show ∀ g, (w2.heap.size ≤ g ∧ g < w3.heap.size) → g < w9.heap.size from fun g hg => by have := b8.out.size; omega)
  (try clear b7)
  (try clear b6)
  (try clear b5)
  (try clear b4)
  go_wp2_with fail
  refine (st_cell w w9 p l' next eid d S9.out I64e.out MD.out (by have := FD.out.1; omega) (by have := FD.out.2; omega)).mono ?_
  rintro e w10 ⟨D, dc, E, ec, rfl, hh⟩
  obtain ⟨⟨b0, M, hb0, hoc⟩, hb10⟩ := hh.out
  have S10 := Lib.hid (S9.out.down hb10)
  have BX10 := Lib.hid (BX9.out.low hb10)
  have BV10 := Lib.hid (BV9.out.low hb10)
  have N10 := Lib.hid (N9.out.low P9.out hb10)
  have V10 := Lib.hid (V9.out.low P9.out hb10)
  have sz10 := hb10.size
  have OC := Lib.hid hoc
  clear hh hoc hb10
  unfold celV
  have BX11 := Lib.hid (BX10.out.alloc (.cells #[.int .i64 d.kind, .int .i64 d.cls, .int .i64 d.fn, .int .i64 d.ten, .slice D d.names.length dc, .slice E d.items.length ec] 46))
  have BC11 := Lib.hid (Bk.new w10 (#[.int .i64 d.kind, .int .i64 d.cls, .int .i64 d.fn, .int .i64 d.ten, .slice D d.names.length dc, .slice E d.items.length ec] : Array Value) 46)
  have BV11 := Lib.hid (BV10.out.alloc (.cells #[.int .i64 d.kind, .int .i64 d.cls, .int .i64 d.fn, .int .i64 d.ten, .slice D d.names.length dc, .slice E d.items.length ec] 46))
  have a11 := (Below.refl w10.heap.size w10).alloc (Nat.le_refl _) (.cells #[.int .i64 d.kind, .int .i64 d.cls, .int .i64 d.fn, .int .i64 d.ten, .slice D d.names.length dc, .slice E d.items.length ec] 46)
  have S11 := Lib.hid (S10.out.down a11)
  have N11 := Lib.hid (N10.out.low (fun g hg => Nat.lt_of_lt_of_le (P9.out g hg) sz10) a11)
  have V11 := Lib.hid (V10.out.low (fun g hg => Nat.lt_of_lt_of_le (P9.out g hg) sz10) a11)
  have P11 := Lib.hid (show ∀ g, (w2.heap.size ≤ g ∧ g < w3.heap.size) → g < (w10.alloc (.cells #[.int .i64 d.kind, .int .i64 d.cls, .int .i64 d.fn, .int .i64 d.ten, .slice D d.names.length dc, .slice E d.items.length ec] 46)).heap.size from fun g hg => Nat.lt_of_lt_of_le (Nat.lt_of_lt_of_le (P9.out g hg) sz10) a11.size)
  have OC11 := Lib.hid (show OwnC (w10.alloc (.cells #[.int .i64 d.kind, .int .i64 d.cls, .int .i64 d.fn, .int .i64 d.ten, .slice D d.names.length dc, .slice E d.items.length ec] 46)) b0 M d (.slice D d.names.length dc) (.slice E d.items.length ec) from ⟨OC.out.1, own_keep OC.out.2.1 fun g _ hg => a11.block g hg, OC.out.2.2.1, own_keep OC.out.2.2.2 fun g _ hg => a11.block g hg⟩)
  have x1 := BX11.out.cell 1 (.int .i64 cel.kind) rfl
  have x2 := BX11.out.cell 2 (.int .i64 cel.cls) rfl
  have x3 := BX11.out.cell 3 (.int .i64 cel.fn) rfl
  have x4 := BX11.out.cell 4 (.int .i64 cel.ten) rfl
  have x5 := BX11.out.cell 5 (.slice nA nn nc) rfl
  have x6 := BX11.out.cell 6 (.slice iA mm ic) rfl
  have EC := Lib.hid (ownC_ent (id := 0) OC11.out rfl rfl (fun g => g < (w10.alloc (.cells #[.int .i64 d.kind, .int .i64 d.cls, .int .i64 d.fn, .int .i64 d.ten, .slice D d.names.length dc, .slice E d.items.length ec] 46)).heap.size) fun g _ h => h)
  have cq : w10.heap.size < (w10.alloc (.cells #[.int .i64 d.kind, .int .i64 d.cls, .int .i64 d.fn, .int .i64 d.ten, .slice D d.names.length dc, .slice E d.items.length ec] 46)).heap.size := by simp
  clear a11 y0
  rcases SO.out with ⟨hk, rfl, rfl, rfl⟩ | hk
  · have hne : (d.kind != 1) = true := by simp [hk]
    clear hk
    have BFin := Lib.hid (S11.out.below)
    have EQ := Lib.hid (equal_any _ _ d d D E nA iA d.names.length dc d.items.length ec nn nc mm ic _ rfl rfl a6'.out a7'.out EC.out.nms EC.out.its N11.out V11.out (fun b hb => hb) P11.out (by have := FD.out.1; omega) (by have := FD.out.2; omega) (by have := FW.out.1; have := a6'.out; omega) (by have := FW.out.2; have := a7'.out; omega) true (by simp))
    unfold celV at EQ
    rw [show sType = ⟨#[116, 121, 112, 101]⟩ from rfl]
    go_wp2_with fail
    refine EQ.out.mono ?_
    rintro e w12 ⟨rfl, hb12⟩
    have B12 := Lib.hid (BFin.out.trans (hb12.mono BFin.out.size))
    clear hb12
    go_wp2_with fail
    go_ret
    exact ⟨rfl, B12.out⟩
  have k1 : cel.kind = 1 := by rcases hk with h | h | h <;> exact h.1
  have hne : (cel.kind != 1) = false := by simp [k1]
  have BFin := Lib.hid (S11.out.below)
  have IX := Lib.hid (refIndex_any _ nA cel.names nn nc s _ a6'.out N11.out (by have := FW.out.1; have := a6'.out; omega))
  have K1 := Lib.hid k1
  rcases hk with ⟨hk1, hp, hs, rfl, rfl, rfl⟩ | hk
  · clear hk1
    have PI := Lib.hid (show posI d.names s = -1 by unfold posI; rw [hp])
    rw [PI.out] at IX
    rw [show sRange = ⟨#[114, 97, 110, 103, 101]⟩ from rfl]
    clear k1 hp
    go_wp2_with fail
    refine IX.out.mono ?_
    rintro e w12 ⟨rfl, rfl⟩
    go_wp2_with fail
    go_ret
    exact ⟨rfl, BFin.out⟩
  have hni := (right_len (FI.out.ok _ MX.out).1).2.2 k1
  simp only at hni
  rcases hk with ⟨hk1, ⟨j, hp, hj, hd⟩, rfl, rfl⟩ | ⟨hk1, hp, hs, rfl, rfl, hd⟩
  · have hfl : Fld cel s r false d := by rw [hd]; exact fld_item k1 hni hp hj
    have PI := Lib.hid (show posI cel.names s = j by unfold posI; rw [hp])
    rw [PI.out] at IX
    obtain ⟨jj, hjj⟩ : ∃ jj : Int, (j : Int) = jj := ⟨_, rfl⟩
    have j0 : 0 ≤ jj := by omega
    rw [hjj] at IX
    clear hk1 hp hj hd hjj k1 hni
    -- ITEM BEGIN
    have e1 : nn = d.names.length := by have h := hfl.nlen; have := a6'.out; simp at h; omega
    have e2 : nn = d.items.length := by have h := hfl.ilen; have := a6'.out; simp at h; omega
    have e3 : nn = mm := by have := hfl.same; have := a6'.out; have := a7'.out; omega
    have FL := Lib.hid hfl
    subst e3
    have E1 := Lib.hid e1
    have E2 := Lib.hid e2
    have n3 : nn ≤ 3 := by have := FW.out.1; have := a6'.out; omega
    clear hfl
    generalize d.names.length = dn at *
    generalize d.items.length = di at *
    subst e1 e2
    have pg : (0 : Int) ≤ jj := by omega
    have CW := Lib.hid S11
    go_wp2_with fail
    refine IX.out.mono ?_
    rintro e w12 ⟨rfl, rfl⟩
    have y0 := BX11.out.cell 0 (.int .i64 eid) rfl
    go_wp2_with fail
    refine (lawRef_any _ _).mono ?_
    rintro e w13 ⟨rfl, hb13⟩
    dsimp only [valV]
    have S13 := Lib.hid (S11.out.down hb13)
    have BX13 := Lib.hid (BX11.out.low hb13)
    have BC13 := Lib.hid (BC11.out.low hb13)
    have BV13 := Lib.hid (BV11.out.low hb13)
    have OC13 := Lib.hid (show OwnC w13 b0 M d (.slice D _ dc) (.slice E _ ec) from ⟨OC11.out.1, own_keep OC11.out.2.1 fun g _ hg => hb13.block g hg, OC11.out.2.2.1, own_keep OC11.out.2.2.2 fun g _ hg => hb13.block g hg⟩)
    have N13 := Lib.hid (N11.out.low P11.out hb13)
    have V13 := Lib.hid (V11.out.low P11.out hb13)
    have P13 := Lib.hid (show ∀ g, (w2.heap.size ≤ g ∧ g < w3.heap.size) → g < w13.heap.size from fun g hg => Nat.lt_of_lt_of_le (P11.out g hg) hb13.size)
    have cq13 := Nat.lt_of_lt_of_le cq hb13.size
    clear hb13 y0
    obtain ⟨ja, hja, hjx⟩ := FL.out.at_
    have GC := Lib.hid (st_getf_item w w13 p l' next ⟨5, eid, ⟨#[]⟩⟩ ⟨3, r, ⟨#[]⟩⟩ s ja d S13.out I64e.out rfl MD.out FL.out.kind (by have h1 := FL.out.nlen; have h2 := a6'.out; split at h1 <;> omega) hja hjx)
    unfold valV at GC
    clear hja hjx
    go_wp2_with fail
    refine GC.out.mono ?_
    rintro e w14 ⟨rfl, hb14⟩
    have S14 := Lib.hid (S13.out.down hb14)
    have BX14 := Lib.hid (BX13.out.low hb14)
    have BC14 := Lib.hid (BC13.out.low hb14)
    have BV14 := Lib.hid (BV13.out.low hb14)
    have OC14 := Lib.hid (show OwnC w14 b0 M d (.slice D _ dc) (.slice E _ ec) from ⟨OC13.out.1, own_keep OC13.out.2.1 fun g _ hg => hb14.block g hg, OC13.out.2.2.1, own_keep OC13.out.2.2.2 fun g _ hg => hb14.block g hg⟩)
    have N14 := Lib.hid (N13.out.low P13.out hb14)
    have V14 := Lib.hid (V13.out.low P13.out hb14)
    have P14 := Lib.hid (show ∀ g, (w2.heap.size ≤ g ∧ g < w3.heap.size) → g < w14.heap.size from fun g hg => Nat.lt_of_lt_of_le (P13.out g hg) hb14.size)
    have cq14 := Nat.lt_of_lt_of_le cq13 hb14.size
    clear hb14
    have a15 := (Below.refl w14.heap.size w14).alloc (Nat.le_refl _) (.cells #[.int .i64 3, .int .i64 r, .string ⟨#[]⟩] 64)
    have BG := Lib.hid (Bk.new w14 (#[.int .i64 3, .int .i64 r, .string ⟨#[]⟩] : Array Value) 64)
    have BX15 := Lib.hid (BX14.out.low a15)
    have BC15 := Lib.hid (BC14.out.low a15)
    have BV15 := Lib.hid (BV14.out.low a15)
    have S15 := Lib.hid (S14.out.down a15)
    have OC15 := Lib.hid (show OwnC (w14.alloc (.cells #[.int .i64 3, .int .i64 r, .string ⟨#[]⟩] 64)) b0 M d (.slice D _ dc) (.slice E _ ec) from ⟨OC14.out.1, own_keep OC14.out.2.1 fun g _ hg => a15.block g hg, OC14.out.2.2.1, own_keep OC14.out.2.2.2 fun g _ hg => a15.block g hg⟩)
    have N15 := Lib.hid (N14.out.low P14.out a15)
    have V15 := Lib.hid (V14.out.low P14.out a15)
    have P15 := Lib.hid (show ∀ g, (w2.heap.size ≤ g ∧ g < w3.heap.size) → g < (w14.alloc (.cells #[.int .i64 3, .int .i64 r, .string ⟨#[]⟩] 64)).heap.size from fun g hg => Nat.lt_of_lt_of_le (P14.out g hg) a15.size)
    have cn := BC15.out.cell 4 _ rfl
    have ci := BC15.out.cell 5 _ rfl
    have xn := BX15.out.cell 5 _ rfl
    have xi := BX15.out.cell 6 _ rfl
    clear a15
    go_wp2_with fail
    generalize w14.alloc (.cells #[.int .i64 3, .int .i64 r, .string ⟨#[]⟩] 64) = w15 at *
    generalize hgb : w14.heap.size = gb at BG ⊢
    generalize hcb : w10.heap.size = cb at BC15 ⊢
    clear hgb hcb
    have hq := fun w => run_veq 3 r 3 r ⟨#[]⟩ ⟨#[]⟩ w
    rw [decide_eq_true rfl] at hq
    have S1x := Lib.hid (show (fun v : World => v.cell? ⟨gb, 0, none⟩ = some (.int .i64 3) ∧ v.cell? ⟨gb, 1, none⟩ = some (.int .i64 r) ∧ v.cell? ⟨gb, 2, none⟩ = some (.string ⟨#[]⟩) ∧ v.cell? ⟨vb, 0, none⟩ = some (.int .i64 3) ∧ v.cell? ⟨vb, 1, none⟩ = some (.int .i64 r) ∧ v.cell? ⟨vb, 2, none⟩ = some (.string ⟨#[]⟩) ∧ v.cell? ⟨b, 1, none⟩ = some (.int .i64 cel.kind) ∧ v.cell? ⟨b, 2, none⟩ = some (.int .i64 cel.cls) ∧ v.cell? ⟨b, 3, none⟩ = some (.int .i64 cel.fn) ∧ v.cell? ⟨b, 4, none⟩ = some (.int .i64 cel.ten) ∧ v.cell? ⟨b, 5, none⟩ = some (.slice nA nn nc) ∧ v.cell? ⟨b, 6, none⟩ = some (.slice iA nn ic) ∧ v.cell? ⟨cb, 0, none⟩ = some (.int .i64 d.kind) ∧ v.cell? ⟨cb, 1, none⟩ = some (.int .i64 d.cls) ∧ v.cell? ⟨cb, 2, none⟩ = some (.int .i64 d.fn) ∧ v.cell? ⟨cb, 3, none⟩ = some (.int .i64 d.ten) ∧ v.cell? ⟨cb, 4, none⟩ = some (.slice D nn dc) ∧ v.cell? ⟨cb, 5, none⟩ = some (.slice E nn ec)) w15.drew from ⟨BG.out.cell 0 _ rfl, BG.out.cell 1 _ rfl, BG.out.cell 2 _ rfl, BV15.out.cell 0 _ rfl, BV15.out.cell 1 _ rfl, BV15.out.cell 2 _ rfl, BX15.out.cell 1 _ rfl, BX15.out.cell 2 _ rfl, BX15.out.cell 3 _ rfl, BX15.out.cell 4 _ rfl, BX15.out.cell 5 _ rfl, BX15.out.cell 6 _ rfl, BC15.out.cell 0 _ rfl, BC15.out.cell 1 _ rfl, BC15.out.cell 2 _ rfl, BC15.out.cell 3 _ rfl, BC15.out.cell 4 _ rfl, BC15.out.cell 5 _ rfl⟩)
    refine region_plain (fun v : World => v.cell? ⟨gb, 0, none⟩ = some (.int .i64 3) ∧ v.cell? ⟨gb, 1, none⟩ = some (.int .i64 r) ∧ v.cell? ⟨gb, 2, none⟩ = some (.string ⟨#[]⟩) ∧ v.cell? ⟨vb, 0, none⟩ = some (.int .i64 3) ∧ v.cell? ⟨vb, 1, none⟩ = some (.int .i64 r) ∧ v.cell? ⟨vb, 2, none⟩ = some (.string ⟨#[]⟩) ∧ v.cell? ⟨b, 1, none⟩ = some (.int .i64 cel.kind) ∧ v.cell? ⟨b, 2, none⟩ = some (.int .i64 cel.cls) ∧ v.cell? ⟨b, 3, none⟩ = some (.int .i64 cel.fn) ∧ v.cell? ⟨b, 4, none⟩ = some (.int .i64 cel.ten) ∧ v.cell? ⟨b, 5, none⟩ = some (.slice nA nn nc) ∧ v.cell? ⟨b, 6, none⟩ = some (.slice iA nn ic) ∧ v.cell? ⟨cb, 0, none⟩ = some (.int .i64 d.kind) ∧ v.cell? ⟨cb, 1, none⟩ = some (.int .i64 d.cls) ∧ v.cell? ⟨cb, 2, none⟩ = some (.int .i64 d.fn) ∧ v.cell? ⟨cb, 3, none⟩ = some (.int .i64 d.ten) ∧ v.cell? ⟨cb, 4, none⟩ = some (.slice D nn dc) ∧ v.cell? ⟨cb, 5, none⟩ = some (.slice E nn ec)) hmx ?_
    refine wpAnyH_take (i := 0) (v := ?_) rfl (by kernel_rfl) (by kernel_rfl) (by kernel_rfl) (fun _ _ _ h => h) (.inl ⟨by kernel_rfl, fun v hS => ?_⟩) S1x.out ?_
    rotate_left
    · obtain ⟨e0, e1, e2, e3, e4, e5, e6, e7, e8, e9, e10, e11, e12, e13, e14, e15, e16, e17⟩ := hS
      go_simp
      with_reducible rfl
    refine wpAnyH_take (i := 1) (v := ?_) rfl (by kernel_rfl) (by kernel_rfl) (by kernel_rfl) (fun _ _ _ h => h) (.inl ⟨by kernel_rfl, fun v hS => ?_⟩) S1x.out ?_
    rotate_left
    · obtain ⟨e0, e1, e2, e3, e4, e5, e6, e7, e8, e9, e10, e11, e12, e13, e14, e15, e16, e17⟩ := hS
      go_simp
      with_reducible rfl
    refine wpAnyH_take (i := 2) (v := ?_) rfl (by kernel_rfl) (by kernel_rfl) (by kernel_rfl) (fun _ _ _ h => h) (.inl ⟨by kernel_rfl, fun v hS => ?_⟩) S1x.out ?_
    rotate_left
    · obtain ⟨e0, e1, e2, e3, e4, e5, e6, e7, e8, e9, e10, e11, e12, e13, e14, e15, e16, e17⟩ := hS
      go_simp
      with_reducible rfl
    refine wpAnyH_take (i := 3) (v := ?_) rfl (by kernel_rfl) (by kernel_rfl) (by kernel_rfl) (fun _ _ _ h => h) (.inl ⟨by kernel_rfl, fun v hS => ?_⟩) S1x.out ?_
    rotate_left
    · obtain ⟨e0, e1, e2, e3, e4, e5, e6, e7, e8, e9, e10, e11, e12, e13, e14, e15, e16, e17⟩ := hS
      go_simp
      with_reducible rfl
    refine wpAnyH_take (i := 4) (v := ?_) rfl (by kernel_rfl) (by kernel_rfl) (by kernel_rfl) (fun _ _ _ h => h) (.inl ⟨by kernel_rfl, fun v hS => ?_⟩) S1x.out ?_
    rotate_left
    · obtain ⟨e0, e1, e2, e3, e4, e5, e6, e7, e8, e9, e10, e11, e12, e13, e14, e15, e16, e17⟩ := hS
      go_simp
      with_reducible rfl
    refine wpAnyH_take (i := 5) (v := ?_) rfl (by kernel_rfl) (by kernel_rfl) (by kernel_rfl) (fun _ _ _ h => h) (.inl ⟨by kernel_rfl, fun v hS => ?_⟩) S1x.out ?_
    rotate_left
    · obtain ⟨e0, e1, e2, e3, e4, e5, e6, e7, e8, e9, e10, e11, e12, e13, e14, e15, e16, e17⟩ := hS
      go_simp
      with_reducible rfl
    refine wpAnyH_take (i := 6) (v := ?_) rfl (by kernel_rfl) (by kernel_rfl) (by kernel_rfl) (fun _ _ _ h => h) (.inl ⟨by kernel_rfl, fun v hS => ?_⟩) S1x.out ?_
    rotate_left
    · obtain ⟨e0, e1, e2, e3, e4, e5, e6, e7, e8, e9, e10, e11, e12, e13, e14, e15, e16, e17⟩ := hS
      go_simp
      with_reducible rfl
    refine wpAnyH_take (i := 7) (v := ?_) rfl (by kernel_rfl) (by kernel_rfl) (by kernel_rfl) (fun _ _ _ h => h) (.inl ⟨by kernel_rfl, fun v hS => ?_⟩) S1x.out ?_
    rotate_left
    · obtain ⟨e0, e1, e2, e3, e4, e5, e6, e7, e8, e9, e10, e11, e12, e13, e14, e15, e16, e17⟩ := hS
      go_simp
      with_reducible rfl
    refine wpAnyH_take (i := 8) (v := ?_) rfl (by kernel_rfl) (by kernel_rfl) (by kernel_rfl) (fun _ _ _ h => h) (.inl ⟨by kernel_rfl, fun v hS => ?_⟩) S1x.out ?_
    rotate_left
    · obtain ⟨e0, e1, e2, e3, e4, e5, e6, e7, e8, e9, e10, e11, e12, e13, e14, e15, e16, e17⟩ := hS
      go_simp
      with_reducible rfl
    refine wpAnyH_take (i := 9) (v := ?_) rfl (by kernel_rfl) (by kernel_rfl) (by kernel_rfl) (fun _ _ _ h => h) (.inl ⟨by kernel_rfl, fun v hS => ?_⟩) S1x.out ?_
    rotate_left
    · obtain ⟨e0, e1, e2, e3, e4, e5, e6, e7, e8, e9, e10, e11, e12, e13, e14, e15, e16, e17⟩ := hS
      go_simp
      with_reducible rfl
    refine wpAnyH_take (i := 10) (v := ?_) rfl (by kernel_rfl) (by kernel_rfl) (by kernel_rfl) (fun _ _ _ h => h) (.inl ⟨by kernel_rfl, fun v hS => ?_⟩) S1x.out ?_
    rotate_left
    · obtain ⟨e0, e1, e2, e3, e4, e5, e6, e7, e8, e9, e10, e11, e12, e13, e14, e15, e16, e17⟩ := hS
      go_simp
      with_reducible rfl
    refine wpAnyH_take (i := 11) (v := ?_) rfl (by kernel_rfl) (by kernel_rfl) (by kernel_rfl) (fun _ _ _ h => h) (.inl ⟨by kernel_rfl, fun v hS => ?_⟩) S1x.out ?_
    rotate_left
    · obtain ⟨e0, e1, e2, e3, e4, e5, e6, e7, e8, e9, e10, e11, e12, e13, e14, e15, e16, e17⟩ := hS
      go_simp
      with_reducible rfl
    refine wpAnyH_take (i := 12) (v := ?_) rfl (by kernel_rfl) (by kernel_rfl) (by kernel_rfl) (fun _ _ _ h => h) (.inl ⟨by kernel_rfl, fun v hS => ?_⟩) S1x.out ?_
    rotate_left
    · obtain ⟨e0, e1, e2, e3, e4, e5, e6, e7, e8, e9, e10, e11, e12, e13, e14, e15, e16, e17⟩ := hS
      go_simp
      with_reducible rfl
    refine wpAnyH_take (i := 13) (v := ?_) rfl (by kernel_rfl) (by kernel_rfl) (by kernel_rfl) (fun _ _ _ h => h) (.inl ⟨by kernel_rfl, fun v hS => ?_⟩) S1x.out ?_
    rotate_left
    · obtain ⟨e0, e1, e2, e3, e4, e5, e6, e7, e8, e9, e10, e11, e12, e13, e14, e15, e16, e17⟩ := hS
      go_simp
      with_reducible rfl
    refine wpAnyH_take (i := 14) (v := ?_) rfl (by kernel_rfl) (by kernel_rfl) (by kernel_rfl) (fun _ _ _ h => h) (.inl ⟨by kernel_rfl, fun v hS => ?_⟩) S1x.out ?_
    rotate_left
    · obtain ⟨e0, e1, e2, e3, e4, e5, e6, e7, e8, e9, e10, e11, e12, e13, e14, e15, e16, e17⟩ := hS
      go_simp
      with_reducible rfl
    refine wpAnyH_take (i := 15) (v := ?_) rfl (by kernel_rfl) (by kernel_rfl) (by kernel_rfl) (fun _ _ _ h => h) (.inl ⟨by kernel_rfl, fun v hS => ?_⟩) S1x.out ?_
    rotate_left
    · obtain ⟨e0, e1, e2, e3, e4, e5, e6, e7, e8, e9, e10, e11, e12, e13, e14, e15, e16, e17⟩ := hS
      go_simp
      with_reducible rfl
    refine wpAnyH_take (i := 16) (v := ?_) rfl (by kernel_rfl) (by kernel_rfl) (by kernel_rfl) (fun _ _ _ h => h) (.inl ⟨by kernel_rfl, fun v hS => ?_⟩) S1x.out ?_
    rotate_left
    · obtain ⟨e0, e1, e2, e3, e4, e5, e6, e7, e8, e9, e10, e11, e12, e13, e14, e15, e16, e17⟩ := hS
      go_simp
      with_reducible rfl
    refine wpAnyH_take (i := 17) (v := ?_) rfl (by kernel_rfl) (by kernel_rfl) (by kernel_rfl) (fun _ _ _ h => h) (.inl ⟨by kernel_rfl, fun v hS => ?_⟩) S1x.out ?_
    rotate_left
    · obtain ⟨e0, e1, e2, e3, e4, e5, e6, e7, e8, e9, e10, e11, e12, e13, e14, e15, e16, e17⟩ := hS
      go_simp
      with_reducible rfl
    refine wpAnyH_take (i := 19) (v := ?_) rfl (by kernel_rfl) (by kernel_rfl) (by kernel_rfl) (fun _ _ _ h => h) (.inl ⟨by kernel_rfl, fun v hS => ?_⟩) S1x.out ?_
    rotate_left
    · obtain ⟨e0, e1, e2, e3, e4, e5, e6, e7, e8, e9, e10, e11, e12, e13, e14, e15, e16, e17⟩ := hS
      go_simp
      with_reducible rfl
    refine wpAnyH_take (i := 20) (v := ?_) rfl (by kernel_rfl) (by kernel_rfl) (by kernel_rfl) (fun _ _ _ h => h) (.inl ⟨by kernel_rfl, fun v hS => ?_⟩) S1x.out ?_
    rotate_left
    · obtain ⟨e0, e1, e2, e3, e4, e5, e6, e7, e8, e9, e10, e11, e12, e13, e14, e15, e16, e17⟩ := hS
      go_simp
      with_reducible rfl
    refine wpAnyH_take (i := 23) (v := ?_) rfl (by kernel_rfl) (by kernel_rfl) (by kernel_rfl) (fun _ _ _ h => h) (.inl ⟨by kernel_rfl, fun v hS => ?_⟩) S1x.out ?_
    rotate_left
    · obtain ⟨e0, e1, e2, e3, e4, e5, e6, e7, e8, e9, e10, e11, e12, e13, e14, e15, e16, e17⟩ := hS
      go_simp
      with_reducible rfl
    refine wpAnyH_take (i := 24) (v := ?_) rfl (by kernel_rfl) (by kernel_rfl) (by kernel_rfl) (fun _ _ _ h => h) (.inl ⟨by kernel_rfl, fun v hS => ?_⟩) S1x.out ?_
    rotate_left
    · obtain ⟨e0, e1, e2, e3, e4, e5, e6, e7, e8, e9, e10, e11, e12, e13, e14, e15, e16, e17⟩ := hS
      go_simp
      with_reducible rfl
    refine wpAnyH_take (i := 25) (v := ?_) rfl (by kernel_rfl) (by kernel_rfl) (by kernel_rfl) (fun _ _ _ h => h) (.inl ⟨by kernel_rfl, fun v hS => ?_⟩) S1x.out ?_
    rotate_left
    · obtain ⟨e0, e1, e2, e3, e4, e5, e6, e7, e8, e9, e10, e11, e12, e13, e14, e15, e16, e17⟩ := hS
      go_simp
      with_reducible rfl
    refine wpAnyH_take (i := 26) (v := ?_) rfl (by kernel_rfl) (by kernel_rfl) (by kernel_rfl) (fun _ _ _ h => h) (.inl ⟨by kernel_rfl, fun v hS => ?_⟩) S1x.out ?_
    rotate_left
    · obtain ⟨e0, e1, e2, e3, e4, e5, e6, e7, e8, e9, e10, e11, e12, e13, e14, e15, e16, e17⟩ := hS
      go_simp
      with_reducible rfl
    refine wpAnyH_take (i := 27) (v := ?_) rfl (by kernel_rfl) (by kernel_rfl) (by kernel_rfl) (fun _ _ _ h => h) (.inl ⟨by kernel_rfl, fun v hS => ?_⟩) S1x.out ?_
    rotate_left
    · obtain ⟨e0, e1, e2, e3, e4, e5, e6, e7, e8, e9, e10, e11, e12, e13, e14, e15, e16, e17⟩ := hS
      go_simp
      with_reducible rfl
    refine wpAnyH_take (i := 28) (v := ?_) rfl (by kernel_rfl) (by kernel_rfl) (by kernel_rfl) (fun _ _ _ h => h) (.inl ⟨by kernel_rfl, fun v hS => ?_⟩) S1x.out ?_
    rotate_left
    · obtain ⟨e0, e1, e2, e3, e4, e5, e6, e7, e8, e9, e10, e11, e12, e13, e14, e15, e16, e17⟩ := hS
      go_simp
      with_reducible rfl
    refine wpAnyH_take (i := 29) (v := ?_) rfl (by kernel_rfl) (by kernel_rfl) (by kernel_rfl) (fun _ _ _ h => h) (.inl ⟨by kernel_rfl, fun v hS => ?_⟩) S1x.out ?_
    rotate_left
    · obtain ⟨e0, e1, e2, e3, e4, e5, e6, e7, e8, e9, e10, e11, e12, e13, e14, e15, e16, e17⟩ := hS
      go_simp
      with_reducible rfl
    refine wpAnyH_take (i := 30) (v := ?_) rfl (by kernel_rfl) (by kernel_rfl) (by kernel_rfl) (fun _ _ _ h => h) (.inl ⟨by kernel_rfl, fun v hS => ?_⟩) S1x.out ?_
    rotate_left
    · obtain ⟨e0, e1, e2, e3, e4, e5, e6, e7, e8, e9, e10, e11, e12, e13, e14, e15, e16, e17⟩ := hS
      go_simp
      with_reducible rfl
    refine wpAnyH_take (i := 31) (v := ?_) rfl (by kernel_rfl) (by kernel_rfl) (by kernel_rfl) (fun _ _ _ h => h) (.inl ⟨by kernel_rfl, fun v hS => ?_⟩) S1x.out ?_
    rotate_left
    · obtain ⟨e0, e1, e2, e3, e4, e5, e6, e7, e8, e9, e10, e11, e12, e13, e14, e15, e16, e17⟩ := hS
      go_simp
      with_reducible rfl
    refine one_ready 18 rfl (by kernel_rfl) (by kernel_rfl) ?_
    go_simp
    refine (size_any _ _ _ _ _ _ nn _ (by omega) _).mono ?_
    rintro e w16 ⟨rfl, hb16⟩
    have BGb := Lib.hid (BG.out.low (w := w15.drew) hb16)
    have BV15b := Lib.hid (BV15.out.low (w := w15.drew) hb16)
    have BX15b := Lib.hid (BX15.out.low (w := w15.drew) hb16)
    have BC15b := Lib.hid (BC15.out.low (w := w15.drew) hb16)
    have S2y := Lib.hid (show (fun v : World => v.cell? ⟨gb, 0, none⟩ = some (.int .i64 3) ∧ v.cell? ⟨gb, 1, none⟩ = some (.int .i64 r) ∧ v.cell? ⟨gb, 2, none⟩ = some (.string ⟨#[]⟩) ∧ v.cell? ⟨vb, 0, none⟩ = some (.int .i64 3) ∧ v.cell? ⟨vb, 1, none⟩ = some (.int .i64 r) ∧ v.cell? ⟨vb, 2, none⟩ = some (.string ⟨#[]⟩) ∧ v.cell? ⟨b, 1, none⟩ = some (.int .i64 cel.kind) ∧ v.cell? ⟨b, 2, none⟩ = some (.int .i64 cel.cls) ∧ v.cell? ⟨b, 3, none⟩ = some (.int .i64 cel.fn) ∧ v.cell? ⟨b, 4, none⟩ = some (.int .i64 cel.ten) ∧ v.cell? ⟨b, 5, none⟩ = some (.slice nA nn nc) ∧ v.cell? ⟨b, 6, none⟩ = some (.slice iA nn ic) ∧ v.cell? ⟨cb, 0, none⟩ = some (.int .i64 d.kind) ∧ v.cell? ⟨cb, 1, none⟩ = some (.int .i64 d.cls) ∧ v.cell? ⟨cb, 2, none⟩ = some (.int .i64 d.fn) ∧ v.cell? ⟨cb, 3, none⟩ = some (.int .i64 d.ten) ∧ v.cell? ⟨cb, 4, none⟩ = some (.slice D nn dc) ∧ v.cell? ⟨cb, 5, none⟩ = some (.slice E nn ec)) w16 from ⟨BGb.out.cell 0 _ rfl, BGb.out.cell 1 _ rfl, BGb.out.cell 2 _ rfl, BV15b.out.cell 0 _ rfl, BV15b.out.cell 1 _ rfl, BV15b.out.cell 2 _ rfl, BX15b.out.cell 1 _ rfl, BX15b.out.cell 2 _ rfl, BX15b.out.cell 3 _ rfl, BX15b.out.cell 4 _ rfl, BX15b.out.cell 5 _ rfl, BX15b.out.cell 6 _ rfl, BC15b.out.cell 0 _ rfl, BC15b.out.cell 1 _ rfl, BC15b.out.cell 2 _ rfl, BC15b.out.cell 3 _ rfl, BC15b.out.cell 4 _ rfl, BC15b.out.cell 5 _ rfl⟩)
    have F16 := Lib.hid hb16
    clear hb16
    refine ⟨S2y.out, ?_⟩
    refine one_ready 21 rfl (by kernel_rfl) (by kernel_rfl) ?_
    go_simp
    refine (size_any _ _ _ _ _ _ nn _ (by omega) _).mono ?_
    rintro e w17 ⟨rfl, hb17⟩
    have BGc := Lib.hid (BGb.out.low hb17)
    have BV15c := Lib.hid (BV15b.out.low hb17)
    have BX15c := Lib.hid (BX15b.out.low hb17)
    have BC15c := Lib.hid (BC15b.out.low hb17)
    have S3y := Lib.hid (show (fun v : World => v.cell? ⟨gb, 0, none⟩ = some (.int .i64 3) ∧ v.cell? ⟨gb, 1, none⟩ = some (.int .i64 r) ∧ v.cell? ⟨gb, 2, none⟩ = some (.string ⟨#[]⟩) ∧ v.cell? ⟨vb, 0, none⟩ = some (.int .i64 3) ∧ v.cell? ⟨vb, 1, none⟩ = some (.int .i64 r) ∧ v.cell? ⟨vb, 2, none⟩ = some (.string ⟨#[]⟩) ∧ v.cell? ⟨b, 1, none⟩ = some (.int .i64 cel.kind) ∧ v.cell? ⟨b, 2, none⟩ = some (.int .i64 cel.cls) ∧ v.cell? ⟨b, 3, none⟩ = some (.int .i64 cel.fn) ∧ v.cell? ⟨b, 4, none⟩ = some (.int .i64 cel.ten) ∧ v.cell? ⟨b, 5, none⟩ = some (.slice nA nn nc) ∧ v.cell? ⟨b, 6, none⟩ = some (.slice iA nn ic) ∧ v.cell? ⟨cb, 0, none⟩ = some (.int .i64 d.kind) ∧ v.cell? ⟨cb, 1, none⟩ = some (.int .i64 d.cls) ∧ v.cell? ⟨cb, 2, none⟩ = some (.int .i64 d.fn) ∧ v.cell? ⟨cb, 3, none⟩ = some (.int .i64 d.ten) ∧ v.cell? ⟨cb, 4, none⟩ = some (.slice D nn dc) ∧ v.cell? ⟨cb, 5, none⟩ = some (.slice E nn ec)) w17 from ⟨BGc.out.cell 0 _ rfl, BGc.out.cell 1 _ rfl, BGc.out.cell 2 _ rfl, BV15c.out.cell 0 _ rfl, BV15c.out.cell 1 _ rfl, BV15c.out.cell 2 _ rfl, BX15c.out.cell 1 _ rfl, BX15c.out.cell 2 _ rfl, BX15c.out.cell 3 _ rfl, BX15c.out.cell 4 _ rfl, BX15c.out.cell 5 _ rfl, BX15c.out.cell 6 _ rfl, BC15c.out.cell 0 _ rfl, BC15c.out.cell 1 _ rfl, BC15c.out.cell 2 _ rfl, BC15c.out.cell 3 _ rfl, BC15c.out.cell 4 _ rfl, BC15c.out.cell 5 _ rfl⟩)
    have F17 := Lib.hid (F16.out.trans (hb17.mono F16.out.size))
    clear hb17
    refine ⟨S3y.out, ?_⟩
    refine wpAnyH_take (i := 22) (v := ?_) rfl (by kernel_rfl) (by kernel_rfl) (by kernel_rfl) (fun _ _ _ h => h) (.inl ⟨by kernel_rfl, fun v hS => ?_⟩) S3y.out ?_
    rotate_left
    · obtain ⟨e0, e1, e2, e3, e4, e5, e6, e7, e8, e9, e10, e11, e12, e13, e14, e15, e16, e17⟩ := hS
      go_simp
      with_reducible rfl
    refine wpAnyH_take (i := 32) (v := ?_) rfl (by kernel_rfl) (by kernel_rfl) (by kernel_rfl) (fun _ _ _ h => h) (.inl ⟨by kernel_rfl, fun v hS => ?_⟩) S3y.out ?_
    rotate_left
    · obtain ⟨e0, e1, e2, e3, e4, e5, e6, e7, e8, e9, e10, e11, e12, e13, e14, e15, e16, e17⟩ := hS
      go_simp
      with_reducible rfl
    refine wpAnyH_take (i := 33) (v := ?_) rfl (by kernel_rfl) (by kernel_rfl) (by kernel_rfl) (fun _ _ _ h => h) (.inl ⟨by kernel_rfl, fun v hS => ?_⟩) S3y.out ?_
    rotate_left
    · obtain ⟨e0, e1, e2, e3, e4, e5, e6, e7, e8, e9, e10, e11, e12, e13, e14, e15, e16, e17⟩ := hS
      go_simp
      with_reducible rfl
    refine wpAnyH_take (i := 34) (v := ?_) rfl (by kernel_rfl) (by kernel_rfl) (by kernel_rfl) (fun _ _ _ h => h) (.inl ⟨by kernel_rfl, fun v hS => ?_⟩) S3y.out ?_
    rotate_left
    · obtain ⟨e0, e1, e2, e3, e4, e5, e6, e7, e8, e9, e10, e11, e12, e13, e14, e15, e16, e17⟩ := hS
      go_simp
      with_reducible rfl
    refine wpAnyH_take (i := 35) (v := ?_) rfl (by kernel_rfl) (by kernel_rfl) (by kernel_rfl) (fun _ _ _ h => h) (.inl ⟨by kernel_rfl, fun v hS => ?_⟩) S3y.out ?_
    rotate_left
    · obtain ⟨e0, e1, e2, e3, e4, e5, e6, e7, e8, e9, e10, e11, e12, e13, e14, e15, e16, e17⟩ := hS
      go_simp
      with_reducible rfl
    refine wpAnyH_take (i := 36) (v := ?_) rfl (by kernel_rfl) (by kernel_rfl) (by kernel_rfl) (fun _ _ _ h => h) (.inl ⟨by kernel_rfl, fun v hS => ?_⟩) S3y.out ?_
    rotate_left
    · obtain ⟨e0, e1, e2, e3, e4, e5, e6, e7, e8, e9, e10, e11, e12, e13, e14, e15, e16, e17⟩ := hS
      go_simp
      with_reducible rfl
    refine wpAnyH_take (i := 37) (v := undef) rfl (by kernel_rfl) (by kernel_rfl) (by kernel_rfl) (fun _ _ _ h => h) (.inr ⟨by kernel_rfl, rfl⟩) S3y.out ?_
    refine wpAnyH_take (i := 38) (v := undef) rfl (by kernel_rfl) (by kernel_rfl) (by kernel_rfl) (fun _ _ _ h => h) (.inr ⟨by kernel_rfl, rfl⟩) S3y.out ?_
    refine wpAnyH_take (i := 39) (v := undef) rfl (by kernel_rfl) (by kernel_rfl) (by kernel_rfl) (fun _ _ _ h => h) (.inr ⟨by kernel_rfl, rfl⟩) S3y.out ?_
    refine wpAnyH_take (i := 40) (v := undef) rfl (by kernel_rfl) (by kernel_rfl) (by kernel_rfl) (fun _ _ _ h => h) (.inr ⟨by kernel_rfl, rfl⟩) S3y.out ?_
    refine wpAnyH_take (i := 41) (v := undef) rfl (by kernel_rfl) (by kernel_rfl) (by kernel_rfl) (fun _ _ _ h => h) (.inr ⟨by kernel_rfl, rfl⟩) S3y.out ?_
    refine wpAnyH_take (i := 42) (v := undef) rfl (by kernel_rfl) (by kernel_rfl) (by kernel_rfl) (fun _ _ _ h => h) (.inr ⟨by kernel_rfl, rfl⟩) S3y.out ?_
    refine wpAnyH_take (i := 43) (v := undef) rfl (by kernel_rfl) (by kernel_rfl) (by kernel_rfl) (fun _ _ _ h => h) (.inr ⟨by kernel_rfl, rfl⟩) S3y.out ?_
    refine wpAnyH_take (i := 44) (v := undef) rfl (by kernel_rfl) (by kernel_rfl) (by kernel_rfl) (fun _ _ _ h => h) (.inr ⟨by kernel_rfl, rfl⟩) S3y.out ?_
    refine wpAnyH_take (i := 45) (v := undef) rfl (by kernel_rfl) (by kernel_rfl) (by kernel_rfl) (fun _ _ _ h => h) (.inr ⟨by kernel_rfl, rfl⟩) S3y.out ?_
    refine wpAnyH_take (i := 46) (v := undef) rfl (by kernel_rfl) (by kernel_rfl) (by kernel_rfl) (fun _ _ _ h => h) (.inr ⟨by kernel_rfl, rfl⟩) S3y.out ?_
    refine one_ready 47 rfl (by kernel_rfl) (by kernel_rfl) ?_
    go_simp
    refine ⟨S3y.out, ?_⟩
    refine one_ready 48 rfl (by kernel_rfl) (by kernel_rfl) ?_
    go_simp
    refine ⟨S3y.out, rfl, ?_⟩
    have xn := BX15c.out.cell 5 _ rfl
    have xi := BX15c.out.cell 6 _ rfl
    have cn := BC15c.out.cell 4 _ rfl
    have ci := BC15c.out.cell 5 _ rfl
    have BZ := Lib.hid (S15.out.below.drew.trans (F17.out.mono S15.out.below.size))
    have N17 := Lib.hid (SlS.low (w := w15.drew) (show SlS w15.drew _ nA cel.names from N15.out) P15.out F17.out)
    have V17 := Lib.hid (ValsAt.low (w := w15.drew) (show ValsAt w15.drew _ iA cel.items from V15.out) P15.out F17.out)
    have EC15 := Lib.hid (ownC_ent (id := 0) OC15.out (by have h1 := FL.out.nlen; have h2 := a6'.out; simp at h1; omega) (by have h1 := FL.out.ilen; have h2 := a6'.out; simp at h1; omega) (fun g => g < w15.heap.size) fun g _ h => h)
    have M17 := Lib.hid (SlS.low (w := w15.drew) (show SlS w15.drew (fun g => g < w15.heap.size) D d.names from EC15.out.nms) (fun g h => h) F17.out)
    have W17 := Lib.hid (ValsAt.low (w := w15.drew) (show ValsAt w15.drew (fun g => g < w15.heap.size) E d.items from EC15.out.its) (fun g h => h) F17.out)
    have A6 := Lib.hid a6'.out
    (try clear S1x)
    (try clear S2y)
    (try clear S3y)
    (try clear hq)
    (try clear GC)
    (try clear NMS)
    (try clear ITS)
    (try clear N9)
    (try clear V9)
    (try clear N10)
    (try clear V10)
    (try clear N11)
    (try clear V11)
    (try clear N13)
    (try clear V13)
    (try clear N14)
    (try clear V14)
    (try clear N15)
    (try clear V15)
    (try clear P9)
    (try clear P11)
    (try clear P13)
    (try clear P14)
    (try clear P15)
    (try clear BX8)
    (try clear BX9)
    (try clear BX10)
    (try clear BX11)
    (try clear BX13)
    (try clear BX14)
    (try clear BX15)
    (try clear BX15b)
    (try clear BX15c)
    (try clear BC11)
    (try clear BC13)
    (try clear BC14)
    (try clear BC15)
    (try clear BC15b)
    (try clear BC15c)
    (try clear BV8)
    (try clear BV9)
    (try clear BV10)
    (try clear BV11)
    (try clear BV13)
    (try clear BV14)
    (try clear BV15)
    (try clear BV15b)
    (try clear BV15c)
    (try clear BG)
    (try clear BGb)
    (try clear BGc)
    (try clear OC)
    (try clear OC11)
    (try clear OC13)
    (try clear OC14)
    (try clear OC15)
    (try clear EC)
    (try clear EC15)
    (try clear EQ)
    (try clear IX)
    (try clear MD)
    (try clear FR)
    (try clear SO)
    (try clear S1)
    (try clear S2x)
    (try clear S3x)
    (try clear S2)
    (try clear S3)
    (try clear S9)
    (try clear S10)
    (try clear S11)
    (try clear S13)
    (try clear S14)
    (try clear S15)
    (try clear B1)
    (try clear B2)
    (try clear B3)
    (try clear B23)
    (try clear BGE)
    (try clear b8)
    (try clear CW)
    (try clear BFin)
    (try clear PQ)
    (try clear K1)
    (try clear PI)
    (try clear NM)
    (try clear NMb)
    (try clear NMc)
    (try clear GN)
    (try clear F16)
    (try clear F17)
    (try clear HB)
    (try clear HA)
    (try clear HZ)
    (try clear Z0)
    (try clear Z1)
    (try clear HN)
    (try clear HE)
    (try clear FI)
    (try clear MX)
    (try clear I64e)
    (try clear FW)
    (try clear FD)
    (try clear x1)
    (try clear x2)
    (try clear x3)
    (try clear x4)
    (try clear x5)
    (try clear x6)
    (try clear sz1)
    (try clear sz2)
    (try clear sz3)
    (try clear sz9)
    (try clear sz10)
    (try clear cq)
    (try clear cq13)
    (try clear cq14)
    (try clear hne)
    (try clear e0)
    (try clear l8)
    (try clear ml)
    (try clear mi)
    (try clear hPg)
    go_wp2_with fail
    go_loopw [24, 25, 198] (fun _ _ i wr => ∃ k : Nat, k ≤ nn ∧ i = .int .i64 k ∧ Hid (∃ m, wr = w17.drewN m)) (fun _ _ i _ => nn - (intOf i).toNat)
    case atStart => exact ⟨0, by omega, rfl, Lib.hid ⟨0, rfl⟩⟩
    case round =>
      obtain ⟨k, hk, rfl, hm⟩ := hrel
      obtain ⟨m, hwr⟩ := hm.out
      subst hwr
      have cn : (w17.drewN m).cell? ⟨cb, 4, none⟩ = some (.slice D nn dc) := cn
      have ci : (w17.drewN m).cell? ⟨cb, 5, none⟩ = some (.slice E nn ec) := ci
      have xn : (w17.drewN m).cell? ⟨b, 5, none⟩ = some (.slice nA nn nc) := xn
      have xi : (w17.drewN m).cell? ⟨b, 6, none⟩ = some (.slice iA nn ic) := xi
      by_cases hlt : k < nn
      · have ki : (k : Int) < nn := by omega
        have kc : k < cel.names.length := by have := A6.out; omega
        have ho := List.getElem?_eq_getElem kc
        have hdn := (FL.out.nms k kc).trans ho
        have HO := Lib.hid ho
        obtain ⟨ga, oa, hA1, _, ca⟩ := N17.out k _ ho
        obtain ⟨gd, od, hD1, _, cd⟩ := M17.out k _ hdn
        have ca : (w17.drewN m).cell? ⟨ga, oa + k, none⟩ = _ := ca
        have cd : (w17.drewN m).cell? ⟨gd, od + k, none⟩ = _ := cd
        generalize cel.names[k] = o at *
        clear ho hdn kc
        subst hA1
        subst hD1
        by_cases hos : o = s
        · have hos := hos.symm
          subst hos
          go_wp2_with fail
          have S1z := Lib.hid (show (fun v : World => v.cell? ⟨cb, 5, none⟩ = some (.slice E nn ec)) (w17.drewN m).drew from ci)
          clear cn ci xn xi
          refine region_plain (fun v : World => v.cell? ⟨cb, 5, none⟩ = some (.slice E nn ec)) hmx ?_
          refine wpAnyH_take (i := 0) (v := ?_) rfl (by kernel_rfl) (by kernel_rfl) (by kernel_rfl) (fun _ _ _ h => h) (.inl ⟨by kernel_rfl, fun v hS => ?_⟩) S1z.out ?_
          rotate_left
          · have e0 := hS
            go_simp
            with_reducible rfl
          refine wpAnyH_take (i := 1) (v := ?_) rfl (by kernel_rfl) (by kernel_rfl) (by kernel_rfl) (fun _ _ _ h => h) (.inl ⟨by kernel_rfl, fun v hS => ?_⟩) S1z.out ?_
          rotate_left
          · have e0 := hS
            go_simp
            with_reducible rfl
          refine wpAnyH_take (i := 2) (v := ?_) rfl (by kernel_rfl) (by kernel_rfl) (by kernel_rfl) (fun _ _ _ h => h) (.inl ⟨by kernel_rfl, fun v hS => ?_⟩) S1z.out ?_
          rotate_left
          · have e0 := hS
            go_simp
            with_reducible rfl
          refine wpAnyH_take (i := 3) (v := ?_) rfl (by kernel_rfl) (by kernel_rfl) (by kernel_rfl) (fun _ _ _ h => h) (.inl ⟨by kernel_rfl, fun v hS => ?_⟩) S1z.out ?_
          rotate_left
          · have e0 := hS
            go_simp
            with_reducible rfl
          refine wpAnyH_take (i := 4) (v := undef) rfl (by kernel_rfl) (by kernel_rfl) (by kernel_rfl) (fun _ _ _ h => h) (.inr ⟨by kernel_rfl, rfl⟩) S1z.out ?_
          refine wpAnyH_take (i := 5) (v := undef) rfl (by kernel_rfl) (by kernel_rfl) (by kernel_rfl) (fun _ _ _ h => h) (.inr ⟨by kernel_rfl, rfl⟩) S1z.out ?_
          refine wpAnyH_take (i := 6) (v := undef) rfl (by kernel_rfl) (by kernel_rfl) (by kernel_rfl) (fun _ _ _ h => h) (.inr ⟨by kernel_rfl, rfl⟩) S1z.out ?_
          refine wpAnyH_take (i := 7) (v := undef) rfl (by kernel_rfl) (by kernel_rfl) (by kernel_rfl) (fun _ _ _ h => h) (.inr ⟨by kernel_rfl, rfl⟩) S1z.out ?_
          refine wpAnyH_take (i := 8) (v := undef) rfl (by kernel_rfl) (by kernel_rfl) (by kernel_rfl) (fun _ _ _ h => h) (.inr ⟨by kernel_rfl, rfl⟩) S1z.out ?_
          refine wpAnyH_take (i := 9) (v := undef) rfl (by kernel_rfl) (by kernel_rfl) (by kernel_rfl) (fun _ _ _ h => h) (.inr ⟨by kernel_rfl, rfl⟩) S1z.out ?_
          refine wpAnyH_take (i := 10) (v := undef) rfl (by kernel_rfl) (by kernel_rfl) (by kernel_rfl) (fun _ _ _ h => h) (.inr ⟨by kernel_rfl, rfl⟩) S1z.out ?_
          refine wpAnyH_take (i := 11) (v := undef) rfl (by kernel_rfl) (by kernel_rfl) (by kernel_rfl) (fun _ _ _ h => h) (.inr ⟨by kernel_rfl, rfl⟩) S1z.out ?_
          refine wpAnyH_take (i := 12) (v := undef) rfl (by kernel_rfl) (by kernel_rfl) (by kernel_rfl) (fun _ _ _ h => h) (.inr ⟨by kernel_rfl, rfl⟩) S1z.out ?_
          refine wpAnyH_take (i := 13) (v := undef) rfl (by kernel_rfl) (by kernel_rfl) (by kernel_rfl) (fun _ _ _ h => h) (.inr ⟨by kernel_rfl, rfl⟩) S1z.out ?_
          refine wpAnyH_take (i := 14) (v := undef) rfl (by kernel_rfl) (by kernel_rfl) (by kernel_rfl) (fun _ _ _ h => h) (.inr ⟨by kernel_rfl, rfl⟩) S1z.out ?_
          refine wpAnyH_take (i := 15) (v := undef) rfl (by kernel_rfl) (by kernel_rfl) (by kernel_rfl) (fun _ _ _ h => h) (.inr ⟨by kernel_rfl, rfl⟩) S1z.out ?_
          refine wpAnyH_take (i := 16) (v := undef) rfl (by kernel_rfl) (by kernel_rfl) (by kernel_rfl) (fun _ _ _ h => h) (.inr ⟨by kernel_rfl, rfl⟩) S1z.out ?_
          refine wpAnyH_take (i := 17) (v := undef) rfl (by kernel_rfl) (by kernel_rfl) (by kernel_rfl) (fun _ _ _ h => h) (.inr ⟨by kernel_rfl, rfl⟩) S1z.out ?_
          refine wpAnyH_take (i := 18) (v := undef) rfl (by kernel_rfl) (by kernel_rfl) (by kernel_rfl) (fun _ _ _ h => h) (.inr ⟨by kernel_rfl, rfl⟩) S1z.out ?_
          refine wpAnyH_take (i := 19) (v := undef) rfl (by kernel_rfl) (by kernel_rfl) (by kernel_rfl) (fun _ _ _ h => h) (.inr ⟨by kernel_rfl, rfl⟩) S1z.out ?_
          refine wpAnyH_take (i := 20) (v := undef) rfl (by kernel_rfl) (by kernel_rfl) (by kernel_rfl) (fun _ _ _ h => h) (.inr ⟨by kernel_rfl, rfl⟩) S1z.out ?_
          refine wpAnyH_take (i := 21) (v := undef) rfl (by kernel_rfl) (by kernel_rfl) (by kernel_rfl) (fun _ _ _ h => h) (.inr ⟨by kernel_rfl, rfl⟩) S1z.out ?_
          refine wpAnyH_take (i := 22) (v := undef) rfl (by kernel_rfl) (by kernel_rfl) (by kernel_rfl) (fun _ _ _ h => h) (.inr ⟨by kernel_rfl, rfl⟩) S1z.out ?_
          refine wpAnyH_take (i := 23) (v := undef) rfl (by kernel_rfl) (by kernel_rfl) (by kernel_rfl) (fun _ _ _ h => h) (.inr ⟨by kernel_rfl, rfl⟩) S1z.out ?_
          refine wpAnyH_take (i := 24) (v := undef) rfl (by kernel_rfl) (by kernel_rfl) (by kernel_rfl) (fun _ _ _ h => h) (.inr ⟨by kernel_rfl, rfl⟩) S1z.out ?_
          refine one_ready 25 rfl (by kernel_rfl) (by kernel_rfl) ?_
          go_simp
          first
            | refine ⟨S1z.out, rfl, ?_⟩
            | refine ⟨⟨S1z.out.1, S1z.out.2.1, S1z.out.2.2.1, S1z.out.2.2.2.1⟩, rfl, ?_⟩
            | refine ⟨⟨S1z.out.1, S1z.out.2.2.1, S1z.out.2.2.2.1⟩, rfl, ?_⟩
            | refine ⟨rfl, ?_⟩
          go_wp2_with fail
          go_roundw
          case rel => exact ⟨_, _, _, _, ⟨k + 1, by omega, by go_num, Lib.hid ⟨m + 1, rfl⟩⟩, rfl, rfl, rfl, rfl⟩
          case measure => simp [intOf]; omega
        · have hne2 := bytes_ne hos
          have kci : k < cel.items.length := by have := FL.out.same; have := A6.out; omega
          have hz := List.getElem?_eq_getElem kci
          have hdz := (FL.out.its k o HO.out hos).trans hz
          obtain ⟨gi, oi, hI1, _, i0, i1, i2⟩ := V17.out k _ hz
          obtain ⟨ge, oe, hE1, _, j0, j1, j2⟩ := W17.out k _ hdz
          generalize cel.items[k] = z at *
          obtain ⟨zk, zn, zs1⟩ := z
          simp only at i0 i1 i2 j0 j1 j2
          subst hI1
          subst hE1
          clear hz hdz hos kci
          have i0 : (w17.drewN m).cell? ⟨gi, oi + k * 3, none⟩ = _ := i0
          have i1 : (w17.drewN m).cell? ⟨gi, oi + k * 3 + 1, none⟩ = _ := i1
          have i2 : (w17.drewN m).cell? ⟨gi, oi + k * 3 + 2, none⟩ = _ := i2
          have j0 : (w17.drewN m).cell? ⟨ge, oe + k * 3, none⟩ = _ := j0
          have j1 : (w17.drewN m).cell? ⟨ge, oe + k * 3 + 1, none⟩ = _ := j1
          have j2 : (w17.drewN m).cell? ⟨ge, oe + k * 3 + 2, none⟩ = _ := j2
          have hq2 := fun w => run_veq zk zn zk zn zs1 zs1 w
          rw [decide_eq_true rfl] at hq2
          go_wp2_with fail
          have S1w := Lib.hid (show (fun v : World => v.cell? ⟨cb, 4, none⟩ = some (.slice (some ⟨gd, od, none⟩) nn dc) ∧ v.cell? ⟨cb, 5, none⟩ = some (.slice (some ⟨ge, oe, none⟩) nn ec) ∧ v.cell? ⟨b, 5, none⟩ = some (.slice (some ⟨ga, oa, none⟩) nn nc) ∧ v.cell? ⟨b, 6, none⟩ = some (.slice (some ⟨gi, oi, none⟩) nn ic) ∧ v.cell? ⟨gd, od + k, none⟩ = some (.string o) ∧ v.cell? ⟨gi, oi + k * 3, none⟩ = some (.int .i64 zk) ∧ v.cell? ⟨gi, oi + k * 3 + 1, none⟩ = some (.int .i64 zn) ∧ v.cell? ⟨gi, oi + k * 3 + 2, none⟩ = some (.string zs1) ∧ v.cell? ⟨ge, oe + k * 3, none⟩ = some (.int .i64 zk) ∧ v.cell? ⟨ge, oe + k * 3 + 1, none⟩ = some (.int .i64 zn) ∧ v.cell? ⟨ge, oe + k * 3 + 2, none⟩ = some (.string zs1)) (w17.drewN m).drew from ⟨cn, ci, xn, xi, cd, i0, i1, i2, j0, j1, j2⟩)
          clear cn ci xn xi cd i0 i1 i2 j0 j1 j2
          refine region_plain (fun v : World => v.cell? ⟨cb, 4, none⟩ = some (.slice (some ⟨gd, od, none⟩) nn dc) ∧ v.cell? ⟨cb, 5, none⟩ = some (.slice (some ⟨ge, oe, none⟩) nn ec) ∧ v.cell? ⟨b, 5, none⟩ = some (.slice (some ⟨ga, oa, none⟩) nn nc) ∧ v.cell? ⟨b, 6, none⟩ = some (.slice (some ⟨gi, oi, none⟩) nn ic) ∧ v.cell? ⟨gd, od + k, none⟩ = some (.string o) ∧ v.cell? ⟨gi, oi + k * 3, none⟩ = some (.int .i64 zk) ∧ v.cell? ⟨gi, oi + k * 3 + 1, none⟩ = some (.int .i64 zn) ∧ v.cell? ⟨gi, oi + k * 3 + 2, none⟩ = some (.string zs1) ∧ v.cell? ⟨ge, oe + k * 3, none⟩ = some (.int .i64 zk) ∧ v.cell? ⟨ge, oe + k * 3 + 1, none⟩ = some (.int .i64 zn) ∧ v.cell? ⟨ge, oe + k * 3 + 2, none⟩ = some (.string zs1)) hmx ?_
          refine wpAnyH_take (i := 0) (v := ?_) rfl (by kernel_rfl) (by kernel_rfl) (by kernel_rfl) (fun _ _ _ h => h) (.inl ⟨by kernel_rfl, fun v hS => ?_⟩) S1w.out ?_
          rotate_left
          · obtain ⟨e0, e1, e2, e3, e4, e5, e6, e7, e8, e9, e10⟩ := hS
            go_simp
            with_reducible rfl
          refine wpAnyH_take (i := 1) (v := ?_) rfl (by kernel_rfl) (by kernel_rfl) (by kernel_rfl) (fun _ _ _ h => h) (.inl ⟨by kernel_rfl, fun v hS => ?_⟩) S1w.out ?_
          rotate_left
          · obtain ⟨e0, e1, e2, e3, e4, e5, e6, e7, e8, e9, e10⟩ := hS
            go_simp
            with_reducible rfl
          refine wpAnyH_take (i := 2) (v := ?_) rfl (by kernel_rfl) (by kernel_rfl) (by kernel_rfl) (fun _ _ _ h => h) (.inl ⟨by kernel_rfl, fun v hS => ?_⟩) S1w.out ?_
          rotate_left
          · obtain ⟨e0, e1, e2, e3, e4, e5, e6, e7, e8, e9, e10⟩ := hS
            go_simp
            with_reducible rfl
          refine wpAnyH_take (i := 3) (v := ?_) rfl (by kernel_rfl) (by kernel_rfl) (by kernel_rfl) (fun _ _ _ h => h) (.inl ⟨by kernel_rfl, fun v hS => ?_⟩) S1w.out ?_
          rotate_left
          · obtain ⟨e0, e1, e2, e3, e4, e5, e6, e7, e8, e9, e10⟩ := hS
            go_simp
            with_reducible rfl
          refine wpAnyH_take (i := 4) (v := ?_) rfl (by kernel_rfl) (by kernel_rfl) (by kernel_rfl) (fun _ _ _ h => h) (.inl ⟨by kernel_rfl, fun v hS => ?_⟩) S1w.out ?_
          rotate_left
          · obtain ⟨e0, e1, e2, e3, e4, e5, e6, e7, e8, e9, e10⟩ := hS
            go_simp
            with_reducible rfl
          refine wpAnyH_take (i := 5) (v := ?_) rfl (by kernel_rfl) (by kernel_rfl) (by kernel_rfl) (fun _ _ _ h => h) (.inl ⟨by kernel_rfl, fun v hS => ?_⟩) S1w.out ?_
          rotate_left
          · obtain ⟨e0, e1, e2, e3, e4, e5, e6, e7, e8, e9, e10⟩ := hS
            go_simp
            with_reducible rfl
          refine wpAnyH_take (i := 6) (v := ?_) rfl (by kernel_rfl) (by kernel_rfl) (by kernel_rfl) (fun _ _ _ h => h) (.inl ⟨by kernel_rfl, fun v hS => ?_⟩) S1w.out ?_
          rotate_left
          · obtain ⟨e0, e1, e2, e3, e4, e5, e6, e7, e8, e9, e10⟩ := hS
            go_simp
            with_reducible rfl
          refine wpAnyH_take (i := 7) (v := ?_) rfl (by kernel_rfl) (by kernel_rfl) (by kernel_rfl) (fun _ _ _ h => h) (.inl ⟨by kernel_rfl, fun v hS => ?_⟩) S1w.out ?_
          rotate_left
          · obtain ⟨e0, e1, e2, e3, e4, e5, e6, e7, e8, e9, e10⟩ := hS
            go_simp
            with_reducible rfl
          refine wpAnyH_take (i := 8) (v := ?_) rfl (by kernel_rfl) (by kernel_rfl) (by kernel_rfl) (fun _ _ _ h => h) (.inl ⟨by kernel_rfl, fun v hS => ?_⟩) S1w.out ?_
          rotate_left
          · obtain ⟨e0, e1, e2, e3, e4, e5, e6, e7, e8, e9, e10⟩ := hS
            go_simp
            with_reducible rfl
          refine wpAnyH_take (i := 9) (v := ?_) rfl (by kernel_rfl) (by kernel_rfl) (by kernel_rfl) (fun _ _ _ h => h) (.inl ⟨by kernel_rfl, fun v hS => ?_⟩) S1w.out ?_
          rotate_left
          · obtain ⟨e0, e1, e2, e3, e4, e5, e6, e7, e8, e9, e10⟩ := hS
            go_simp
            with_reducible rfl
          refine wpAnyH_take (i := 10) (v := ?_) rfl (by kernel_rfl) (by kernel_rfl) (by kernel_rfl) (fun _ _ _ h => h) (.inl ⟨by kernel_rfl, fun v hS => ?_⟩) S1w.out ?_
          rotate_left
          · obtain ⟨e0, e1, e2, e3, e4, e5, e6, e7, e8, e9, e10⟩ := hS
            go_simp
            with_reducible rfl
          refine wpAnyH_take (i := 11) (v := ?_) rfl (by kernel_rfl) (by kernel_rfl) (by kernel_rfl) (fun _ _ _ h => h) (.inl ⟨by kernel_rfl, fun v hS => ?_⟩) S1w.out ?_
          rotate_left
          · obtain ⟨e0, e1, e2, e3, e4, e5, e6, e7, e8, e9, e10⟩ := hS
            go_simp
            with_reducible rfl
          refine wpAnyH_take (i := 12) (v := ?_) rfl (by kernel_rfl) (by kernel_rfl) (by kernel_rfl) (fun _ _ _ h => h) (.inl ⟨by kernel_rfl, fun v hS => ?_⟩) S1w.out ?_
          rotate_left
          · obtain ⟨e0, e1, e2, e3, e4, e5, e6, e7, e8, e9, e10⟩ := hS
            go_simp
            with_reducible rfl
          refine wpAnyH_take (i := 13) (v := ?_) rfl (by kernel_rfl) (by kernel_rfl) (by kernel_rfl) (fun _ _ _ h => h) (.inl ⟨by kernel_rfl, fun v hS => ?_⟩) S1w.out ?_
          rotate_left
          · obtain ⟨e0, e1, e2, e3, e4, e5, e6, e7, e8, e9, e10⟩ := hS
            go_simp
            with_reducible rfl
          refine wpAnyH_take (i := 14) (v := ?_) rfl (by kernel_rfl) (by kernel_rfl) (by kernel_rfl) (fun _ _ _ h => h) (.inl ⟨by kernel_rfl, fun v hS => ?_⟩) S1w.out ?_
          rotate_left
          · obtain ⟨e0, e1, e2, e3, e4, e5, e6, e7, e8, e9, e10⟩ := hS
            go_simp
            with_reducible rfl
          refine wpAnyH_take (i := 15) (v := ?_) rfl (by kernel_rfl) (by kernel_rfl) (by kernel_rfl) (fun _ _ _ h => h) (.inl ⟨by kernel_rfl, fun v hS => ?_⟩) S1w.out ?_
          rotate_left
          · obtain ⟨e0, e1, e2, e3, e4, e5, e6, e7, e8, e9, e10⟩ := hS
            go_simp
            with_reducible rfl
          refine wpAnyH_take (i := 16) (v := ?_) rfl (by kernel_rfl) (by kernel_rfl) (by kernel_rfl) (fun _ _ _ h => h) (.inl ⟨by kernel_rfl, fun v hS => ?_⟩) S1w.out ?_
          rotate_left
          · obtain ⟨e0, e1, e2, e3, e4, e5, e6, e7, e8, e9, e10⟩ := hS
            go_simp
            with_reducible rfl
          refine wpAnyH_take (i := 17) (v := ?_) rfl (by kernel_rfl) (by kernel_rfl) (by kernel_rfl) (fun _ _ _ h => h) (.inl ⟨by kernel_rfl, fun v hS => ?_⟩) S1w.out ?_
          rotate_left
          · obtain ⟨e0, e1, e2, e3, e4, e5, e6, e7, e8, e9, e10⟩ := hS
            go_simp
            with_reducible rfl
          refine wpAnyH_take (i := 18) (v := ?_) rfl (by kernel_rfl) (by kernel_rfl) (by kernel_rfl) (fun _ _ _ h => h) (.inl ⟨by kernel_rfl, fun v hS => ?_⟩) S1w.out ?_
          rotate_left
          · obtain ⟨e0, e1, e2, e3, e4, e5, e6, e7, e8, e9, e10⟩ := hS
            go_simp
            with_reducible rfl
          refine wpAnyH_take (i := 19) (v := ?_) rfl (by kernel_rfl) (by kernel_rfl) (by kernel_rfl) (fun _ _ _ h => h) (.inl ⟨by kernel_rfl, fun v hS => ?_⟩) S1w.out ?_
          rotate_left
          · obtain ⟨e0, e1, e2, e3, e4, e5, e6, e7, e8, e9, e10⟩ := hS
            go_simp
            with_reducible rfl
          refine wpAnyH_take (i := 20) (v := ?_) rfl (by kernel_rfl) (by kernel_rfl) (by kernel_rfl) (fun _ _ _ h => h) (.inl ⟨by kernel_rfl, fun v hS => ?_⟩) S1w.out ?_
          rotate_left
          · obtain ⟨e0, e1, e2, e3, e4, e5, e6, e7, e8, e9, e10⟩ := hS
            go_simp
            with_reducible rfl
          refine wpAnyH_take (i := 21) (v := ?_) rfl (by kernel_rfl) (by kernel_rfl) (by kernel_rfl) (fun _ _ _ h => h) (.inl ⟨by kernel_rfl, fun v hS => ?_⟩) S1w.out ?_
          rotate_left
          · obtain ⟨e0, e1, e2, e3, e4, e5, e6, e7, e8, e9, e10⟩ := hS
            go_simp
            with_reducible rfl
          refine wpAnyH_take (i := 22) (v := ?_) rfl (by kernel_rfl) (by kernel_rfl) (by kernel_rfl) (fun _ _ _ h => h) (.inl ⟨by kernel_rfl, fun v hS => ?_⟩) S1w.out ?_
          rotate_left
          · obtain ⟨e0, e1, e2, e3, e4, e5, e6, e7, e8, e9, e10⟩ := hS
            go_simp
            with_reducible rfl
          refine wpAnyH_take (i := 23) (v := ?_) rfl (by kernel_rfl) (by kernel_rfl) (by kernel_rfl) (fun _ _ _ h => h) (.inl ⟨by kernel_rfl, fun v hS => ?_⟩) S1w.out ?_
          rotate_left
          · obtain ⟨e0, e1, e2, e3, e4, e5, e6, e7, e8, e9, e10⟩ := hS
            go_simp
            with_reducible rfl
          refine one_ready 24 rfl (by kernel_rfl) (by kernel_rfl) ?_
          go_simp
          first
            | refine ⟨S1w.out, ?_⟩
            | refine ⟨⟨S1w.out.1, S1w.out.2.1, S1w.out.2.2.1, S1w.out.2.2.2.1⟩, ?_⟩
            | refine ⟨⟨S1w.out.1, S1w.out.2.2.1, S1w.out.2.2.2.1⟩, ?_⟩
          refine one_ready 25 rfl (by kernel_rfl) (by kernel_rfl) ?_
          go_simp
          first
            | refine ⟨S1w.out, rfl, ?_⟩
            | refine ⟨⟨S1w.out.1, S1w.out.2.1, S1w.out.2.2.1, S1w.out.2.2.2.1⟩, rfl, ?_⟩
            | refine ⟨⟨S1w.out.1, S1w.out.2.2.1, S1w.out.2.2.2.1⟩, rfl, ?_⟩
            | refine ⟨rfl, ?_⟩
          go_wp2_with fail
          go_roundw
          case rel => exact ⟨_, _, _, _, ⟨k + 1, by omega, by go_num, Lib.hid ⟨m + 1, rfl⟩⟩, rfl, rfl, rfl, rfl⟩
          case measure => simp [intOf]; omega
      · obtain rfl : k = nn := by omega
        go_wp2_with fail
        go_ret
        exact ⟨rfl, BZ.out.trans ⟨rfl, rfl, rfl, Nat.le_refl _, fun _ _ => rfl⟩⟩
    -- ITEM END
  · have hfl : Fld cel s r true d := by rw [hd]; exact fld_add k1 hni hp
    have PI := Lib.hid (show posI cel.names s = -1 by unfold posI; rw [hp])
    rw [PI.out] at IX
    clear hk1 hp hd k1 hni
    -- ADD BEGIN
    have e1 : nn + 1 = d.names.length := by have h := hfl.nlen; have := a6'.out; simp at h; omega
    have e2 : nn + 1 = d.items.length := by have h := hfl.ilen; have := a6'.out; simp at h; omega
    have e3 : nn = mm := by have := hfl.same; have := a6'.out; have := a7'.out; omega
    have FL := Lib.hid hfl
    subst e3
    have E1 := Lib.hid e1
    have E2 := Lib.hid e2
    have n3 : nn ≤ 3 := by have := FW.out.1; have := a6'.out; omega
    clear hfl
    generalize d.names.length = dn at *
    generalize d.items.length = di at *
    have e4 : dn = di := by omega
    subst e4
    have q1 : ¬ (dn : Int) < nn := by omega
    have q2 : ((dn : Int) == 0) = false := by simp; omega
    have q3 : (dn : Int) - nn = 1 := by omega
    have q4 : 16 + 8 * (dn : Int) - (16 + 8 * nn) = 8 := by omega
    have q5 : (dn : Int) - 1 = nn := by omega
    have q6 : IntKind.i64.wrap (nn : Int) = nn := IntWalk.i64_in _ (by omega)
    have q7 : (nn : Int) < dn := by omega
    have HD := Lib.hid e1
    have d3 : dn ≤ 4 := by omega
    clear e1 e2
    have CW := Lib.hid S11
    go_wp2_with fail
    refine IX.out.mono ?_
    rintro e w12 ⟨rfl, rfl⟩
    have y0 := BX11.out.cell 0 (.int .i64 eid) rfl
    go_wp2_with fail
    refine (lawRef_any _ _).mono ?_
    rintro e w13 ⟨rfl, hb13⟩
    dsimp only [valV]
    have S13 := Lib.hid (S11.out.down hb13)
    have BX13 := Lib.hid (BX11.out.low hb13)
    have BC13 := Lib.hid (BC11.out.low hb13)
    have BV13 := Lib.hid (BV11.out.low hb13)
    have OC13 := Lib.hid (show OwnC w13 b0 M d (.slice D _ dc) (.slice E _ ec) from ⟨OC11.out.1, own_keep OC11.out.2.1 fun g _ hg => hb13.block g hg, OC11.out.2.2.1, own_keep OC11.out.2.2.2 fun g _ hg => hb13.block g hg⟩)
    have N13 := Lib.hid (N11.out.low P11.out hb13)
    have V13 := Lib.hid (V11.out.low P11.out hb13)
    have P13 := Lib.hid (show ∀ g, (w2.heap.size ≤ g ∧ g < w3.heap.size) → g < w13.heap.size from fun g hg => Nat.lt_of_lt_of_le (P11.out g hg) hb13.size)
    have cq13 := Nat.lt_of_lt_of_le cq hb13.size
    clear hb13 y0
    obtain ⟨ja, hja, hjx⟩ := FL.out.at_
    have GC := Lib.hid (st_getf_item w w13 p l' next ⟨5, eid, ⟨#[]⟩⟩ ⟨3, r, ⟨#[]⟩⟩ s ja d S13.out I64e.out rfl MD.out FL.out.kind (by have h1 := FL.out.nlen; have h2 := a6'.out; split at h1 <;> omega) hja hjx)
    unfold valV at GC
    clear hja hjx
    go_wp2_with fail
    refine GC.out.mono ?_
    rintro e w14 ⟨rfl, hb14⟩
    have S14 := Lib.hid (S13.out.down hb14)
    have BX14 := Lib.hid (BX13.out.low hb14)
    have BC14 := Lib.hid (BC13.out.low hb14)
    have BV14 := Lib.hid (BV13.out.low hb14)
    have OC14 := Lib.hid (show OwnC w14 b0 M d (.slice D _ dc) (.slice E _ ec) from ⟨OC13.out.1, own_keep OC13.out.2.1 fun g _ hg => hb14.block g hg, OC13.out.2.2.1, own_keep OC13.out.2.2.2 fun g _ hg => hb14.block g hg⟩)
    have N14 := Lib.hid (N13.out.low P13.out hb14)
    have V14 := Lib.hid (V13.out.low P13.out hb14)
    have P14 := Lib.hid (show ∀ g, (w2.heap.size ≤ g ∧ g < w3.heap.size) → g < w14.heap.size from fun g hg => Nat.lt_of_lt_of_le (P13.out g hg) hb14.size)
    have cq14 := Nat.lt_of_lt_of_le cq13 hb14.size
    clear hb14
    have a15 := (Below.refl w14.heap.size w14).alloc (Nat.le_refl _) (.cells #[.int .i64 3, .int .i64 r, .string ⟨#[]⟩] 64)
    have BG := Lib.hid (Bk.new w14 (#[.int .i64 3, .int .i64 r, .string ⟨#[]⟩] : Array Value) 64)
    have BX15 := Lib.hid (BX14.out.low a15)
    have BC15 := Lib.hid (BC14.out.low a15)
    have BV15 := Lib.hid (BV14.out.low a15)
    have S15 := Lib.hid (S14.out.down a15)
    have OC15 := Lib.hid (show OwnC (w14.alloc (.cells #[.int .i64 3, .int .i64 r, .string ⟨#[]⟩] 64)) b0 M d (.slice D _ dc) (.slice E _ ec) from ⟨OC14.out.1, own_keep OC14.out.2.1 fun g _ hg => a15.block g hg, OC14.out.2.2.1, own_keep OC14.out.2.2.2 fun g _ hg => a15.block g hg⟩)
    have N15 := Lib.hid (N14.out.low P14.out a15)
    have V15 := Lib.hid (V14.out.low P14.out a15)
    have P15 := Lib.hid (show ∀ g, (w2.heap.size ≤ g ∧ g < w3.heap.size) → g < (w14.alloc (.cells #[.int .i64 3, .int .i64 r, .string ⟨#[]⟩] 64)).heap.size from fun g hg => Nat.lt_of_lt_of_le (P14.out g hg) a15.size)
    have cn := BC15.out.cell 4 _ rfl
    have ci := BC15.out.cell 5 _ rfl
    have xn := BX15.out.cell 5 _ rfl
    have xi := BX15.out.cell 6 _ rfl
    clear a15
    go_wp2_with fail
    generalize w14.alloc (.cells #[.int .i64 3, .int .i64 r, .string ⟨#[]⟩] 64) = w15 at *
    generalize hgb : w14.heap.size = gb at BG ⊢
    generalize hcb : w10.heap.size = cb at BC15 ⊢
    clear hgb hcb
    have EC15 := Lib.hid (ownC_ent (id := 0) OC15.out (by have h1 := FL.out.nlen; have h2 := a6'.out; have h3 := HD.out; simp at h1; omega) (by have h1 := FL.out.ilen; have h2 := a6'.out; have h3 := HD.out; simp at h1; omega) (fun g => g < w15.heap.size) fun g _ h => h)
    obtain ⟨gn, on, hgn, hgn1, hgn2⟩ := EC15.out.nms nn s (by have := FL.out.last rfl; rwa [a6'.out] at this)
    simp only at hgn
    subst hgn
    have NM := Lib.hid hgn2
    have GN := Lib.hid hgn1
    clear hgn1 hgn2
    have hq := fun w => run_veq 3 r 3 r ⟨#[]⟩ ⟨#[]⟩ w
    rw [decide_eq_true rfl] at hq
    have S1x := Lib.hid (show (fun v : World => v.cell? ⟨gb, 0, none⟩ = some (.int .i64 3) ∧ v.cell? ⟨gb, 1, none⟩ = some (.int .i64 r) ∧ v.cell? ⟨gb, 2, none⟩ = some (.string ⟨#[]⟩) ∧ v.cell? ⟨vb, 0, none⟩ = some (.int .i64 3) ∧ v.cell? ⟨vb, 1, none⟩ = some (.int .i64 r) ∧ v.cell? ⟨vb, 2, none⟩ = some (.string ⟨#[]⟩) ∧ v.cell? ⟨b, 1, none⟩ = some (.int .i64 cel.kind) ∧ v.cell? ⟨b, 2, none⟩ = some (.int .i64 cel.cls) ∧ v.cell? ⟨b, 3, none⟩ = some (.int .i64 cel.fn) ∧ v.cell? ⟨b, 4, none⟩ = some (.int .i64 cel.ten) ∧ v.cell? ⟨b, 5, none⟩ = some (.slice nA nn nc) ∧ v.cell? ⟨b, 6, none⟩ = some (.slice iA nn ic) ∧ v.cell? ⟨cb, 0, none⟩ = some (.int .i64 d.kind) ∧ v.cell? ⟨cb, 1, none⟩ = some (.int .i64 d.cls) ∧ v.cell? ⟨cb, 2, none⟩ = some (.int .i64 d.fn) ∧ v.cell? ⟨cb, 3, none⟩ = some (.int .i64 d.ten) ∧ v.cell? ⟨cb, 4, none⟩ = some (.slice (some ⟨gn, on, none⟩) dn dc) ∧ v.cell? ⟨cb, 5, none⟩ = some (.slice E dn ec) ∧ v.cell? ⟨gn, on + nn, none⟩ = some (.string s)) w15.drew from ⟨BG.out.cell 0 _ rfl, BG.out.cell 1 _ rfl, BG.out.cell 2 _ rfl, BV15.out.cell 0 _ rfl, BV15.out.cell 1 _ rfl, BV15.out.cell 2 _ rfl, BX15.out.cell 1 _ rfl, BX15.out.cell 2 _ rfl, BX15.out.cell 3 _ rfl, BX15.out.cell 4 _ rfl, BX15.out.cell 5 _ rfl, BX15.out.cell 6 _ rfl, BC15.out.cell 0 _ rfl, BC15.out.cell 1 _ rfl, BC15.out.cell 2 _ rfl, BC15.out.cell 3 _ rfl, BC15.out.cell 4 _ rfl, BC15.out.cell 5 _ rfl, NM.out⟩)
    refine region_plain (fun v : World => v.cell? ⟨gb, 0, none⟩ = some (.int .i64 3) ∧ v.cell? ⟨gb, 1, none⟩ = some (.int .i64 r) ∧ v.cell? ⟨gb, 2, none⟩ = some (.string ⟨#[]⟩) ∧ v.cell? ⟨vb, 0, none⟩ = some (.int .i64 3) ∧ v.cell? ⟨vb, 1, none⟩ = some (.int .i64 r) ∧ v.cell? ⟨vb, 2, none⟩ = some (.string ⟨#[]⟩) ∧ v.cell? ⟨b, 1, none⟩ = some (.int .i64 cel.kind) ∧ v.cell? ⟨b, 2, none⟩ = some (.int .i64 cel.cls) ∧ v.cell? ⟨b, 3, none⟩ = some (.int .i64 cel.fn) ∧ v.cell? ⟨b, 4, none⟩ = some (.int .i64 cel.ten) ∧ v.cell? ⟨b, 5, none⟩ = some (.slice nA nn nc) ∧ v.cell? ⟨b, 6, none⟩ = some (.slice iA nn ic) ∧ v.cell? ⟨cb, 0, none⟩ = some (.int .i64 d.kind) ∧ v.cell? ⟨cb, 1, none⟩ = some (.int .i64 d.cls) ∧ v.cell? ⟨cb, 2, none⟩ = some (.int .i64 d.fn) ∧ v.cell? ⟨cb, 3, none⟩ = some (.int .i64 d.ten) ∧ v.cell? ⟨cb, 4, none⟩ = some (.slice (some ⟨gn, on, none⟩) dn dc) ∧ v.cell? ⟨cb, 5, none⟩ = some (.slice E dn ec) ∧ v.cell? ⟨gn, on + nn, none⟩ = some (.string s)) hmx ?_
    refine wpAnyH_take (i := 0) (v := ?_) rfl (by kernel_rfl) (by kernel_rfl) (by kernel_rfl) (fun _ _ _ h => h) (.inl ⟨by kernel_rfl, fun v hS => ?_⟩) S1x.out ?_
    rotate_left
    · obtain ⟨e0, e1, e2, e3, e4, e5, e6, e7, e8, e9, e10, e11, e12, e13, e14, e15, e16, e17, e18⟩ := hS
      go_simp
      with_reducible rfl
    refine wpAnyH_take (i := 1) (v := ?_) rfl (by kernel_rfl) (by kernel_rfl) (by kernel_rfl) (fun _ _ _ h => h) (.inl ⟨by kernel_rfl, fun v hS => ?_⟩) S1x.out ?_
    rotate_left
    · obtain ⟨e0, e1, e2, e3, e4, e5, e6, e7, e8, e9, e10, e11, e12, e13, e14, e15, e16, e17, e18⟩ := hS
      go_simp
      with_reducible rfl
    refine wpAnyH_take (i := 2) (v := ?_) rfl (by kernel_rfl) (by kernel_rfl) (by kernel_rfl) (fun _ _ _ h => h) (.inl ⟨by kernel_rfl, fun v hS => ?_⟩) S1x.out ?_
    rotate_left
    · obtain ⟨e0, e1, e2, e3, e4, e5, e6, e7, e8, e9, e10, e11, e12, e13, e14, e15, e16, e17, e18⟩ := hS
      go_simp
      with_reducible rfl
    refine wpAnyH_take (i := 3) (v := ?_) rfl (by kernel_rfl) (by kernel_rfl) (by kernel_rfl) (fun _ _ _ h => h) (.inl ⟨by kernel_rfl, fun v hS => ?_⟩) S1x.out ?_
    rotate_left
    · obtain ⟨e0, e1, e2, e3, e4, e5, e6, e7, e8, e9, e10, e11, e12, e13, e14, e15, e16, e17, e18⟩ := hS
      go_simp
      with_reducible rfl
    refine wpAnyH_take (i := 4) (v := ?_) rfl (by kernel_rfl) (by kernel_rfl) (by kernel_rfl) (fun _ _ _ h => h) (.inl ⟨by kernel_rfl, fun v hS => ?_⟩) S1x.out ?_
    rotate_left
    · obtain ⟨e0, e1, e2, e3, e4, e5, e6, e7, e8, e9, e10, e11, e12, e13, e14, e15, e16, e17, e18⟩ := hS
      go_simp
      with_reducible rfl
    refine wpAnyH_take (i := 5) (v := ?_) rfl (by kernel_rfl) (by kernel_rfl) (by kernel_rfl) (fun _ _ _ h => h) (.inl ⟨by kernel_rfl, fun v hS => ?_⟩) S1x.out ?_
    rotate_left
    · obtain ⟨e0, e1, e2, e3, e4, e5, e6, e7, e8, e9, e10, e11, e12, e13, e14, e15, e16, e17, e18⟩ := hS
      go_simp
      with_reducible rfl
    refine wpAnyH_take (i := 6) (v := ?_) rfl (by kernel_rfl) (by kernel_rfl) (by kernel_rfl) (fun _ _ _ h => h) (.inl ⟨by kernel_rfl, fun v hS => ?_⟩) S1x.out ?_
    rotate_left
    · obtain ⟨e0, e1, e2, e3, e4, e5, e6, e7, e8, e9, e10, e11, e12, e13, e14, e15, e16, e17, e18⟩ := hS
      go_simp
      with_reducible rfl
    refine wpAnyH_take (i := 7) (v := ?_) rfl (by kernel_rfl) (by kernel_rfl) (by kernel_rfl) (fun _ _ _ h => h) (.inl ⟨by kernel_rfl, fun v hS => ?_⟩) S1x.out ?_
    rotate_left
    · obtain ⟨e0, e1, e2, e3, e4, e5, e6, e7, e8, e9, e10, e11, e12, e13, e14, e15, e16, e17, e18⟩ := hS
      go_simp
      with_reducible rfl
    refine wpAnyH_take (i := 8) (v := ?_) rfl (by kernel_rfl) (by kernel_rfl) (by kernel_rfl) (fun _ _ _ h => h) (.inl ⟨by kernel_rfl, fun v hS => ?_⟩) S1x.out ?_
    rotate_left
    · obtain ⟨e0, e1, e2, e3, e4, e5, e6, e7, e8, e9, e10, e11, e12, e13, e14, e15, e16, e17, e18⟩ := hS
      go_simp
      with_reducible rfl
    refine wpAnyH_take (i := 9) (v := ?_) rfl (by kernel_rfl) (by kernel_rfl) (by kernel_rfl) (fun _ _ _ h => h) (.inl ⟨by kernel_rfl, fun v hS => ?_⟩) S1x.out ?_
    rotate_left
    · obtain ⟨e0, e1, e2, e3, e4, e5, e6, e7, e8, e9, e10, e11, e12, e13, e14, e15, e16, e17, e18⟩ := hS
      go_simp
      with_reducible rfl
    refine wpAnyH_take (i := 10) (v := ?_) rfl (by kernel_rfl) (by kernel_rfl) (by kernel_rfl) (fun _ _ _ h => h) (.inl ⟨by kernel_rfl, fun v hS => ?_⟩) S1x.out ?_
    rotate_left
    · obtain ⟨e0, e1, e2, e3, e4, e5, e6, e7, e8, e9, e10, e11, e12, e13, e14, e15, e16, e17, e18⟩ := hS
      go_simp
      with_reducible rfl
    refine wpAnyH_take (i := 11) (v := ?_) rfl (by kernel_rfl) (by kernel_rfl) (by kernel_rfl) (fun _ _ _ h => h) (.inl ⟨by kernel_rfl, fun v hS => ?_⟩) S1x.out ?_
    rotate_left
    · obtain ⟨e0, e1, e2, e3, e4, e5, e6, e7, e8, e9, e10, e11, e12, e13, e14, e15, e16, e17, e18⟩ := hS
      go_simp
      with_reducible rfl
    refine wpAnyH_take (i := 12) (v := ?_) rfl (by kernel_rfl) (by kernel_rfl) (by kernel_rfl) (fun _ _ _ h => h) (.inl ⟨by kernel_rfl, fun v hS => ?_⟩) S1x.out ?_
    rotate_left
    · obtain ⟨e0, e1, e2, e3, e4, e5, e6, e7, e8, e9, e10, e11, e12, e13, e14, e15, e16, e17, e18⟩ := hS
      go_simp
      with_reducible rfl
    refine wpAnyH_take (i := 13) (v := ?_) rfl (by kernel_rfl) (by kernel_rfl) (by kernel_rfl) (fun _ _ _ h => h) (.inl ⟨by kernel_rfl, fun v hS => ?_⟩) S1x.out ?_
    rotate_left
    · obtain ⟨e0, e1, e2, e3, e4, e5, e6, e7, e8, e9, e10, e11, e12, e13, e14, e15, e16, e17, e18⟩ := hS
      go_simp
      with_reducible rfl
    refine wpAnyH_take (i := 14) (v := ?_) rfl (by kernel_rfl) (by kernel_rfl) (by kernel_rfl) (fun _ _ _ h => h) (.inl ⟨by kernel_rfl, fun v hS => ?_⟩) S1x.out ?_
    rotate_left
    · obtain ⟨e0, e1, e2, e3, e4, e5, e6, e7, e8, e9, e10, e11, e12, e13, e14, e15, e16, e17, e18⟩ := hS
      go_simp
      with_reducible rfl
    refine wpAnyH_take (i := 15) (v := ?_) rfl (by kernel_rfl) (by kernel_rfl) (by kernel_rfl) (fun _ _ _ h => h) (.inl ⟨by kernel_rfl, fun v hS => ?_⟩) S1x.out ?_
    rotate_left
    · obtain ⟨e0, e1, e2, e3, e4, e5, e6, e7, e8, e9, e10, e11, e12, e13, e14, e15, e16, e17, e18⟩ := hS
      go_simp
      with_reducible rfl
    refine wpAnyH_take (i := 16) (v := ?_) rfl (by kernel_rfl) (by kernel_rfl) (by kernel_rfl) (fun _ _ _ h => h) (.inl ⟨by kernel_rfl, fun v hS => ?_⟩) S1x.out ?_
    rotate_left
    · obtain ⟨e0, e1, e2, e3, e4, e5, e6, e7, e8, e9, e10, e11, e12, e13, e14, e15, e16, e17, e18⟩ := hS
      go_simp
      with_reducible rfl
    refine wpAnyH_take (i := 17) (v := ?_) rfl (by kernel_rfl) (by kernel_rfl) (by kernel_rfl) (fun _ _ _ h => h) (.inl ⟨by kernel_rfl, fun v hS => ?_⟩) S1x.out ?_
    rotate_left
    · obtain ⟨e0, e1, e2, e3, e4, e5, e6, e7, e8, e9, e10, e11, e12, e13, e14, e15, e16, e17, e18⟩ := hS
      go_simp
      with_reducible rfl
    refine wpAnyH_take (i := 19) (v := ?_) rfl (by kernel_rfl) (by kernel_rfl) (by kernel_rfl) (fun _ _ _ h => h) (.inl ⟨by kernel_rfl, fun v hS => ?_⟩) S1x.out ?_
    rotate_left
    · obtain ⟨e0, e1, e2, e3, e4, e5, e6, e7, e8, e9, e10, e11, e12, e13, e14, e15, e16, e17, e18⟩ := hS
      go_simp
      with_reducible rfl
    refine wpAnyH_take (i := 20) (v := ?_) rfl (by kernel_rfl) (by kernel_rfl) (by kernel_rfl) (fun _ _ _ h => h) (.inl ⟨by kernel_rfl, fun v hS => ?_⟩) S1x.out ?_
    rotate_left
    · obtain ⟨e0, e1, e2, e3, e4, e5, e6, e7, e8, e9, e10, e11, e12, e13, e14, e15, e16, e17, e18⟩ := hS
      go_simp
      with_reducible rfl
    refine wpAnyH_take (i := 23) (v := ?_) rfl (by kernel_rfl) (by kernel_rfl) (by kernel_rfl) (fun _ _ _ h => h) (.inl ⟨by kernel_rfl, fun v hS => ?_⟩) S1x.out ?_
    rotate_left
    · obtain ⟨e0, e1, e2, e3, e4, e5, e6, e7, e8, e9, e10, e11, e12, e13, e14, e15, e16, e17, e18⟩ := hS
      go_simp
      with_reducible rfl
    refine wpAnyH_take (i := 24) (v := ?_) rfl (by kernel_rfl) (by kernel_rfl) (by kernel_rfl) (fun _ _ _ h => h) (.inl ⟨by kernel_rfl, fun v hS => ?_⟩) S1x.out ?_
    rotate_left
    · obtain ⟨e0, e1, e2, e3, e4, e5, e6, e7, e8, e9, e10, e11, e12, e13, e14, e15, e16, e17, e18⟩ := hS
      go_simp
      with_reducible rfl
    refine wpAnyH_take (i := 25) (v := ?_) rfl (by kernel_rfl) (by kernel_rfl) (by kernel_rfl) (fun _ _ _ h => h) (.inl ⟨by kernel_rfl, fun v hS => ?_⟩) S1x.out ?_
    rotate_left
    · obtain ⟨e0, e1, e2, e3, e4, e5, e6, e7, e8, e9, e10, e11, e12, e13, e14, e15, e16, e17, e18⟩ := hS
      go_simp
      with_reducible rfl
    refine wpAnyH_take (i := 26) (v := ?_) rfl (by kernel_rfl) (by kernel_rfl) (by kernel_rfl) (fun _ _ _ h => h) (.inl ⟨by kernel_rfl, fun v hS => ?_⟩) S1x.out ?_
    rotate_left
    · obtain ⟨e0, e1, e2, e3, e4, e5, e6, e7, e8, e9, e10, e11, e12, e13, e14, e15, e16, e17, e18⟩ := hS
      go_simp
      with_reducible rfl
    refine wpAnyH_take (i := 27) (v := ?_) rfl (by kernel_rfl) (by kernel_rfl) (by kernel_rfl) (fun _ _ _ h => h) (.inl ⟨by kernel_rfl, fun v hS => ?_⟩) S1x.out ?_
    rotate_left
    · obtain ⟨e0, e1, e2, e3, e4, e5, e6, e7, e8, e9, e10, e11, e12, e13, e14, e15, e16, e17, e18⟩ := hS
      go_simp
      with_reducible rfl
    refine wpAnyH_take (i := 28) (v := ?_) rfl (by kernel_rfl) (by kernel_rfl) (by kernel_rfl) (fun _ _ _ h => h) (.inl ⟨by kernel_rfl, fun v hS => ?_⟩) S1x.out ?_
    rotate_left
    · obtain ⟨e0, e1, e2, e3, e4, e5, e6, e7, e8, e9, e10, e11, e12, e13, e14, e15, e16, e17, e18⟩ := hS
      go_simp
      with_reducible rfl
    refine wpAnyH_take (i := 29) (v := ?_) rfl (by kernel_rfl) (by kernel_rfl) (by kernel_rfl) (fun _ _ _ h => h) (.inl ⟨by kernel_rfl, fun v hS => ?_⟩) S1x.out ?_
    rotate_left
    · obtain ⟨e0, e1, e2, e3, e4, e5, e6, e7, e8, e9, e10, e11, e12, e13, e14, e15, e16, e17, e18⟩ := hS
      go_simp
      with_reducible rfl
    refine wpAnyH_take (i := 30) (v := ?_) rfl (by kernel_rfl) (by kernel_rfl) (by kernel_rfl) (fun _ _ _ h => h) (.inl ⟨by kernel_rfl, fun v hS => ?_⟩) S1x.out ?_
    rotate_left
    · obtain ⟨e0, e1, e2, e3, e4, e5, e6, e7, e8, e9, e10, e11, e12, e13, e14, e15, e16, e17, e18⟩ := hS
      go_simp
      with_reducible rfl
    refine wpAnyH_take (i := 31) (v := ?_) rfl (by kernel_rfl) (by kernel_rfl) (by kernel_rfl) (fun _ _ _ h => h) (.inl ⟨by kernel_rfl, fun v hS => ?_⟩) S1x.out ?_
    rotate_left
    · obtain ⟨e0, e1, e2, e3, e4, e5, e6, e7, e8, e9, e10, e11, e12, e13, e14, e15, e16, e17, e18⟩ := hS
      go_simp
      with_reducible rfl
    refine one_ready 18 rfl (by kernel_rfl) (by kernel_rfl) ?_
    go_simp
    refine (size_any _ _ _ _ _ _ dn _ (by omega) _).mono ?_
    rintro e w16 ⟨rfl, hb16⟩
    have BGb := Lib.hid (BG.out.low (w := w15.drew) hb16)
    have BV15b := Lib.hid (BV15.out.low (w := w15.drew) hb16)
    have BX15b := Lib.hid (BX15.out.low (w := w15.drew) hb16)
    have BC15b := Lib.hid (BC15.out.low (w := w15.drew) hb16)
    have NMb := Lib.hid ((hb16.cell (p := ⟨gn, on + nn, none⟩) GN.out).trans NM.out)
    have S2y := Lib.hid (show (fun v : World => v.cell? ⟨gb, 0, none⟩ = some (.int .i64 3) ∧ v.cell? ⟨gb, 1, none⟩ = some (.int .i64 r) ∧ v.cell? ⟨gb, 2, none⟩ = some (.string ⟨#[]⟩) ∧ v.cell? ⟨vb, 0, none⟩ = some (.int .i64 3) ∧ v.cell? ⟨vb, 1, none⟩ = some (.int .i64 r) ∧ v.cell? ⟨vb, 2, none⟩ = some (.string ⟨#[]⟩) ∧ v.cell? ⟨b, 1, none⟩ = some (.int .i64 cel.kind) ∧ v.cell? ⟨b, 2, none⟩ = some (.int .i64 cel.cls) ∧ v.cell? ⟨b, 3, none⟩ = some (.int .i64 cel.fn) ∧ v.cell? ⟨b, 4, none⟩ = some (.int .i64 cel.ten) ∧ v.cell? ⟨b, 5, none⟩ = some (.slice nA nn nc) ∧ v.cell? ⟨b, 6, none⟩ = some (.slice iA nn ic) ∧ v.cell? ⟨cb, 0, none⟩ = some (.int .i64 d.kind) ∧ v.cell? ⟨cb, 1, none⟩ = some (.int .i64 d.cls) ∧ v.cell? ⟨cb, 2, none⟩ = some (.int .i64 d.fn) ∧ v.cell? ⟨cb, 3, none⟩ = some (.int .i64 d.ten) ∧ v.cell? ⟨cb, 4, none⟩ = some (.slice (some ⟨gn, on, none⟩) dn dc) ∧ v.cell? ⟨cb, 5, none⟩ = some (.slice E dn ec) ∧ v.cell? ⟨gn, on + nn, none⟩ = some (.string s)) w16 from ⟨BGb.out.cell 0 _ rfl, BGb.out.cell 1 _ rfl, BGb.out.cell 2 _ rfl, BV15b.out.cell 0 _ rfl, BV15b.out.cell 1 _ rfl, BV15b.out.cell 2 _ rfl, BX15b.out.cell 1 _ rfl, BX15b.out.cell 2 _ rfl, BX15b.out.cell 3 _ rfl, BX15b.out.cell 4 _ rfl, BX15b.out.cell 5 _ rfl, BX15b.out.cell 6 _ rfl, BC15b.out.cell 0 _ rfl, BC15b.out.cell 1 _ rfl, BC15b.out.cell 2 _ rfl, BC15b.out.cell 3 _ rfl, BC15b.out.cell 4 _ rfl, BC15b.out.cell 5 _ rfl, NMb.out⟩)
    have F16 := Lib.hid hb16
    clear hb16
    refine ⟨S2y.out, ?_⟩
    refine one_ready 21 rfl (by kernel_rfl) (by kernel_rfl) ?_
    go_simp
    refine (size_any _ _ _ _ _ _ nn _ (by omega) _).mono ?_
    rintro e w17 ⟨rfl, hb17⟩
    have BGc := Lib.hid (BGb.out.low hb17)
    have BV15c := Lib.hid (BV15b.out.low hb17)
    have BX15c := Lib.hid (BX15b.out.low hb17)
    have BC15c := Lib.hid (BC15b.out.low hb17)
    have NMc := Lib.hid ((hb17.cell (p := ⟨gn, on + nn, none⟩) (Nat.lt_of_lt_of_le GN.out F16.out.size)).trans NMb.out)
    have S3y := Lib.hid (show (fun v : World => v.cell? ⟨gb, 0, none⟩ = some (.int .i64 3) ∧ v.cell? ⟨gb, 1, none⟩ = some (.int .i64 r) ∧ v.cell? ⟨gb, 2, none⟩ = some (.string ⟨#[]⟩) ∧ v.cell? ⟨vb, 0, none⟩ = some (.int .i64 3) ∧ v.cell? ⟨vb, 1, none⟩ = some (.int .i64 r) ∧ v.cell? ⟨vb, 2, none⟩ = some (.string ⟨#[]⟩) ∧ v.cell? ⟨b, 1, none⟩ = some (.int .i64 cel.kind) ∧ v.cell? ⟨b, 2, none⟩ = some (.int .i64 cel.cls) ∧ v.cell? ⟨b, 3, none⟩ = some (.int .i64 cel.fn) ∧ v.cell? ⟨b, 4, none⟩ = some (.int .i64 cel.ten) ∧ v.cell? ⟨b, 5, none⟩ = some (.slice nA nn nc) ∧ v.cell? ⟨b, 6, none⟩ = some (.slice iA nn ic) ∧ v.cell? ⟨cb, 0, none⟩ = some (.int .i64 d.kind) ∧ v.cell? ⟨cb, 1, none⟩ = some (.int .i64 d.cls) ∧ v.cell? ⟨cb, 2, none⟩ = some (.int .i64 d.fn) ∧ v.cell? ⟨cb, 3, none⟩ = some (.int .i64 d.ten) ∧ v.cell? ⟨cb, 4, none⟩ = some (.slice (some ⟨gn, on, none⟩) dn dc) ∧ v.cell? ⟨cb, 5, none⟩ = some (.slice E dn ec) ∧ v.cell? ⟨gn, on + nn, none⟩ = some (.string s)) w17 from ⟨BGc.out.cell 0 _ rfl, BGc.out.cell 1 _ rfl, BGc.out.cell 2 _ rfl, BV15c.out.cell 0 _ rfl, BV15c.out.cell 1 _ rfl, BV15c.out.cell 2 _ rfl, BX15c.out.cell 1 _ rfl, BX15c.out.cell 2 _ rfl, BX15c.out.cell 3 _ rfl, BX15c.out.cell 4 _ rfl, BX15c.out.cell 5 _ rfl, BX15c.out.cell 6 _ rfl, BC15c.out.cell 0 _ rfl, BC15c.out.cell 1 _ rfl, BC15c.out.cell 2 _ rfl, BC15c.out.cell 3 _ rfl, BC15c.out.cell 4 _ rfl, BC15c.out.cell 5 _ rfl, NMc.out⟩)
    have F17 := Lib.hid (F16.out.trans (hb17.mono F16.out.size))
    clear hb17
    refine ⟨S3y.out, ?_⟩
    refine wpAnyH_take (i := 22) (v := ?_) rfl (by kernel_rfl) (by kernel_rfl) (by kernel_rfl) (fun _ _ _ h => h) (.inl ⟨by kernel_rfl, fun v hS => ?_⟩) S3y.out ?_
    rotate_left
    · obtain ⟨e0, e1, e2, e3, e4, e5, e6, e7, e8, e9, e10, e11, e12, e13, e14, e15, e16, e17, e18⟩ := hS
      go_simp
      with_reducible rfl
    refine wpAnyH_take (i := 32) (v := ?_) rfl (by kernel_rfl) (by kernel_rfl) (by kernel_rfl) (fun _ _ _ h => h) (.inl ⟨by kernel_rfl, fun v hS => ?_⟩) S3y.out ?_
    rotate_left
    · obtain ⟨e0, e1, e2, e3, e4, e5, e6, e7, e8, e9, e10, e11, e12, e13, e14, e15, e16, e17, e18⟩ := hS
      go_simp
      with_reducible rfl
    refine wpAnyH_take (i := 33) (v := ?_) rfl (by kernel_rfl) (by kernel_rfl) (by kernel_rfl) (fun _ _ _ h => h) (.inl ⟨by kernel_rfl, fun v hS => ?_⟩) S3y.out ?_
    rotate_left
    · obtain ⟨e0, e1, e2, e3, e4, e5, e6, e7, e8, e9, e10, e11, e12, e13, e14, e15, e16, e17, e18⟩ := hS
      go_simp
      with_reducible rfl
    refine wpAnyH_take (i := 34) (v := ?_) rfl (by kernel_rfl) (by kernel_rfl) (by kernel_rfl) (fun _ _ _ h => h) (.inl ⟨by kernel_rfl, fun v hS => ?_⟩) S3y.out ?_
    rotate_left
    · obtain ⟨e0, e1, e2, e3, e4, e5, e6, e7, e8, e9, e10, e11, e12, e13, e14, e15, e16, e17, e18⟩ := hS
      go_simp
      with_reducible rfl
    refine wpAnyH_take (i := 35) (v := ?_) rfl (by kernel_rfl) (by kernel_rfl) (by kernel_rfl) (fun _ _ _ h => h) (.inl ⟨by kernel_rfl, fun v hS => ?_⟩) S3y.out ?_
    rotate_left
    · obtain ⟨e0, e1, e2, e3, e4, e5, e6, e7, e8, e9, e10, e11, e12, e13, e14, e15, e16, e17, e18⟩ := hS
      go_simp
      with_reducible rfl
    refine wpAnyH_take (i := 36) (v := ?_) rfl (by kernel_rfl) (by kernel_rfl) (by kernel_rfl) (fun _ _ _ h => h) (.inl ⟨by kernel_rfl, fun v hS => ?_⟩) S3y.out ?_
    rotate_left
    · obtain ⟨e0, e1, e2, e3, e4, e5, e6, e7, e8, e9, e10, e11, e12, e13, e14, e15, e16, e17, e18⟩ := hS
      go_simp
      with_reducible rfl
    refine wpAnyH_take (i := 37) (v := ?_) rfl (by kernel_rfl) (by kernel_rfl) (by kernel_rfl) (fun _ _ _ h => h) (.inl ⟨by kernel_rfl, fun v hS => ?_⟩) S3y.out ?_
    rotate_left
    · obtain ⟨e0, e1, e2, e3, e4, e5, e6, e7, e8, e9, e10, e11, e12, e13, e14, e15, e16, e17, e18⟩ := hS
      go_simp
      with_reducible rfl
    refine wpAnyH_take (i := 38) (v := ?_) rfl (by kernel_rfl) (by kernel_rfl) (by kernel_rfl) (fun _ _ _ h => h) (.inl ⟨by kernel_rfl, fun v hS => ?_⟩) S3y.out ?_
    rotate_left
    · obtain ⟨e0, e1, e2, e3, e4, e5, e6, e7, e8, e9, e10, e11, e12, e13, e14, e15, e16, e17, e18⟩ := hS
      go_simp
      with_reducible rfl
    refine wpAnyH_take (i := 39) (v := ?_) rfl (by kernel_rfl) (by kernel_rfl) (by kernel_rfl) (fun _ _ _ h => h) (.inl ⟨by kernel_rfl, fun v hS => ?_⟩) S3y.out ?_
    rotate_left
    · obtain ⟨e0, e1, e2, e3, e4, e5, e6, e7, e8, e9, e10, e11, e12, e13, e14, e15, e16, e17, e18⟩ := hS
      go_simp
      with_reducible rfl
    refine wpAnyH_take (i := 40) (v := ?_) rfl (by kernel_rfl) (by kernel_rfl) (by kernel_rfl) (fun _ _ _ h => h) (.inl ⟨by kernel_rfl, fun v hS => ?_⟩) S3y.out ?_
    rotate_left
    · obtain ⟨e0, e1, e2, e3, e4, e5, e6, e7, e8, e9, e10, e11, e12, e13, e14, e15, e16, e17, e18⟩ := hS
      go_simp
      with_reducible rfl
    refine wpAnyH_take (i := 41) (v := ?_) rfl (by kernel_rfl) (by kernel_rfl) (by kernel_rfl) (fun _ _ _ h => h) (.inl ⟨by kernel_rfl, fun v hS => ?_⟩) S3y.out ?_
    rotate_left
    · obtain ⟨e0, e1, e2, e3, e4, e5, e6, e7, e8, e9, e10, e11, e12, e13, e14, e15, e16, e17, e18⟩ := hS
      go_simp
      with_reducible rfl
    refine wpAnyH_take (i := 42) (v := ?_) rfl (by kernel_rfl) (by kernel_rfl) (by kernel_rfl) (fun _ _ _ h => h) (.inl ⟨by kernel_rfl, fun v hS => ?_⟩) S3y.out ?_
    rotate_left
    · obtain ⟨e0, e1, e2, e3, e4, e5, e6, e7, e8, e9, e10, e11, e12, e13, e14, e15, e16, e17, e18⟩ := hS
      go_simp
      with_reducible rfl
    refine wpAnyH_take (i := 43) (v := ?_) rfl (by kernel_rfl) (by kernel_rfl) (by kernel_rfl) (fun _ _ _ h => h) (.inl ⟨by kernel_rfl, fun v hS => ?_⟩) S3y.out ?_
    rotate_left
    · obtain ⟨e0, e1, e2, e3, e4, e5, e6, e7, e8, e9, e10, e11, e12, e13, e14, e15, e16, e17, e18⟩ := hS
      go_simp
      with_reducible rfl
    refine wpAnyH_take (i := 44) (v := ?_) rfl (by kernel_rfl) (by kernel_rfl) (by kernel_rfl) (fun _ _ _ h => h) (.inl ⟨by kernel_rfl, fun v hS => ?_⟩) S3y.out ?_
    rotate_left
    · obtain ⟨e0, e1, e2, e3, e4, e5, e6, e7, e8, e9, e10, e11, e12, e13, e14, e15, e16, e17, e18⟩ := hS
      go_simp
      with_reducible rfl
    refine wpAnyH_take (i := 45) (v := ?_) rfl (by kernel_rfl) (by kernel_rfl) (by kernel_rfl) (fun _ _ _ h => h) (.inl ⟨by kernel_rfl, fun v hS => ?_⟩) S3y.out ?_
    rotate_left
    · obtain ⟨e0, e1, e2, e3, e4, e5, e6, e7, e8, e9, e10, e11, e12, e13, e14, e15, e16, e17, e18⟩ := hS
      go_simp
      with_reducible rfl
    refine wpAnyH_take (i := 46) (v := ?_) rfl (by kernel_rfl) (by kernel_rfl) (by kernel_rfl) (fun _ _ _ h => h) (.inl ⟨by kernel_rfl, fun v hS => ?_⟩) S3y.out ?_
    rotate_left
    · obtain ⟨e0, e1, e2, e3, e4, e5, e6, e7, e8, e9, e10, e11, e12, e13, e14, e15, e16, e17, e18⟩ := hS
      go_simp
      with_reducible rfl
    refine one_ready 47 rfl (by kernel_rfl) (by kernel_rfl) ?_
    go_simp
    refine ⟨S3y.out, ?_⟩
    refine one_ready 48 rfl (by kernel_rfl) (by kernel_rfl) ?_
    go_simp
    refine ⟨S3y.out, rfl, ?_⟩
    have xn := BX15c.out.cell 5 _ rfl
    have xi := BX15c.out.cell 6 _ rfl
    have cn := BC15c.out.cell 4 _ rfl
    have ci := BC15c.out.cell 5 _ rfl
    have BZ := Lib.hid (S15.out.below.drew.trans (F17.out.mono S15.out.below.size))
    have N17 := Lib.hid (SlS.low (w := w15.drew) (show SlS w15.drew _ nA cel.names from N15.out) P15.out F17.out)
    have V17 := Lib.hid (ValsAt.low (w := w15.drew) (show ValsAt w15.drew _ iA cel.items from V15.out) P15.out F17.out)
    have M17 := Lib.hid (SlS.low (w := w15.drew) (show SlS w15.drew (fun g => g < w15.heap.size) (some ⟨gn, on, none⟩) d.names from EC15.out.nms) (fun g h => h) F17.out)
    have W17 := Lib.hid (ValsAt.low (w := w15.drew) (show ValsAt w15.drew (fun g => g < w15.heap.size) E d.items from EC15.out.its) (fun g h => h) F17.out)
    have A6 := Lib.hid a6'.out
    (try clear S1x)
    (try clear S2y)
    (try clear S3y)
    (try clear hq)
    (try clear GC)
    (try clear NMS)
    (try clear ITS)
    (try clear N9)
    (try clear V9)
    (try clear N10)
    (try clear V10)
    (try clear N11)
    (try clear V11)
    (try clear N13)
    (try clear V13)
    (try clear N14)
    (try clear V14)
    (try clear N15)
    (try clear V15)
    (try clear P9)
    (try clear P11)
    (try clear P13)
    (try clear P14)
    (try clear P15)
    (try clear BX8)
    (try clear BX9)
    (try clear BX10)
    (try clear BX11)
    (try clear BX13)
    (try clear BX14)
    (try clear BX15)
    (try clear BX15b)
    (try clear BX15c)
    (try clear BC11)
    (try clear BC13)
    (try clear BC14)
    (try clear BC15)
    (try clear BC15b)
    (try clear BC15c)
    (try clear BV8)
    (try clear BV9)
    (try clear BV10)
    (try clear BV11)
    (try clear BV13)
    (try clear BV14)
    (try clear BV15)
    (try clear BV15b)
    (try clear BV15c)
    (try clear BG)
    (try clear BGb)
    (try clear BGc)
    (try clear OC)
    (try clear OC11)
    (try clear OC13)
    (try clear OC14)
    (try clear OC15)
    (try clear EC)
    (try clear EC15)
    (try clear EQ)
    (try clear IX)
    (try clear MD)
    (try clear FR)
    (try clear SO)
    (try clear S1)
    (try clear S2x)
    (try clear S3x)
    (try clear S2)
    (try clear S3)
    (try clear S9)
    (try clear S10)
    (try clear S11)
    (try clear S13)
    (try clear S14)
    (try clear S15)
    (try clear B1)
    (try clear B2)
    (try clear B3)
    (try clear B23)
    (try clear BGE)
    (try clear b8)
    (try clear CW)
    (try clear BFin)
    (try clear PQ)
    (try clear K1)
    (try clear PI)
    (try clear NM)
    (try clear NMb)
    (try clear NMc)
    (try clear GN)
    (try clear F16)
    (try clear F17)
    (try clear HB)
    (try clear HA)
    (try clear HZ)
    (try clear Z0)
    (try clear Z1)
    (try clear HN)
    (try clear HE)
    (try clear FI)
    (try clear MX)
    (try clear I64e)
    (try clear FW)
    (try clear FD)
    (try clear x1)
    (try clear x2)
    (try clear x3)
    (try clear x4)
    (try clear x5)
    (try clear x6)
    (try clear sz1)
    (try clear sz2)
    (try clear sz3)
    (try clear sz9)
    (try clear sz10)
    (try clear cq)
    (try clear cq13)
    (try clear cq14)
    (try clear hne)
    (try clear e0)
    (try clear l8)
    (try clear ml)
    (try clear mi)
    (try clear hPg)
    go_wp2_with fail
    go_loopw [24, 25, 198] (fun _ _ i wr => ∃ k : Nat, k ≤ nn ∧ i = .int .i64 k ∧ Hid (∃ m, wr = w17.drewN m)) (fun _ _ i _ => nn - (intOf i).toNat)
    case atStart => exact ⟨0, by omega, rfl, Lib.hid ⟨0, rfl⟩⟩
    case round =>
      obtain ⟨k, hk, rfl, hm⟩ := hrel
      obtain ⟨m, hwr⟩ := hm.out
      subst hwr
      have cn : (w17.drewN m).cell? ⟨cb, 4, none⟩ = some (.slice (some ⟨gn, on, none⟩) dn dc) := cn
      have ci : (w17.drewN m).cell? ⟨cb, 5, none⟩ = some (.slice E dn ec) := ci
      have xn : (w17.drewN m).cell? ⟨b, 5, none⟩ = some (.slice nA nn nc) := xn
      have xi : (w17.drewN m).cell? ⟨b, 6, none⟩ = some (.slice iA nn ic) := xi
      by_cases hlt : k < nn
      · have ki : (k : Int) < nn := by omega
        have kd : (k : Int) < dn := by omega
        have kc : k < cel.names.length := by have := A6.out; omega
        have ho := List.getElem?_eq_getElem kc
        have hdn := (FL.out.nms k kc).trans ho
        have HO := Lib.hid ho
        obtain ⟨ga, oa, hA1, _, ca⟩ := N17.out k _ ho
        obtain ⟨gd, od, hD1, _, cd⟩ := M17.out k _ hdn
        have ca : (w17.drewN m).cell? ⟨ga, oa + k, none⟩ = _ := ca
        have cd : (w17.drewN m).cell? ⟨gd, od + k, none⟩ = _ := cd
        generalize cel.names[k] = o at *
        clear ho hdn kc
        subst hA1
        injection hD1 with hD1
        injection hD1 with hD1 hD2
        subst hD1 hD2
        by_cases hos : o = s
        · have hos := hos.symm
          subst hos
          go_wp2_with fail
          have S1z := Lib.hid (show (fun v : World => v.cell? ⟨cb, 5, none⟩ = some (.slice E dn ec)) (w17.drewN m).drew from ci)
          clear cn ci xn xi
          refine region_plain (fun v : World => v.cell? ⟨cb, 5, none⟩ = some (.slice E dn ec)) hmx ?_
          refine wpAnyH_take (i := 0) (v := ?_) rfl (by kernel_rfl) (by kernel_rfl) (by kernel_rfl) (fun _ _ _ h => h) (.inl ⟨by kernel_rfl, fun v hS => ?_⟩) S1z.out ?_
          rotate_left
          · have e0 := hS
            go_simp
            with_reducible rfl
          refine wpAnyH_take (i := 1) (v := ?_) rfl (by kernel_rfl) (by kernel_rfl) (by kernel_rfl) (fun _ _ _ h => h) (.inl ⟨by kernel_rfl, fun v hS => ?_⟩) S1z.out ?_
          rotate_left
          · have e0 := hS
            go_simp
            with_reducible rfl
          refine wpAnyH_take (i := 2) (v := ?_) rfl (by kernel_rfl) (by kernel_rfl) (by kernel_rfl) (fun _ _ _ h => h) (.inl ⟨by kernel_rfl, fun v hS => ?_⟩) S1z.out ?_
          rotate_left
          · have e0 := hS
            go_simp
            with_reducible rfl
          refine wpAnyH_take (i := 3) (v := ?_) rfl (by kernel_rfl) (by kernel_rfl) (by kernel_rfl) (fun _ _ _ h => h) (.inl ⟨by kernel_rfl, fun v hS => ?_⟩) S1z.out ?_
          rotate_left
          · have e0 := hS
            go_simp
            with_reducible rfl
          refine wpAnyH_take (i := 4) (v := undef) rfl (by kernel_rfl) (by kernel_rfl) (by kernel_rfl) (fun _ _ _ h => h) (.inr ⟨by kernel_rfl, rfl⟩) S1z.out ?_
          refine wpAnyH_take (i := 5) (v := undef) rfl (by kernel_rfl) (by kernel_rfl) (by kernel_rfl) (fun _ _ _ h => h) (.inr ⟨by kernel_rfl, rfl⟩) S1z.out ?_
          refine wpAnyH_take (i := 6) (v := undef) rfl (by kernel_rfl) (by kernel_rfl) (by kernel_rfl) (fun _ _ _ h => h) (.inr ⟨by kernel_rfl, rfl⟩) S1z.out ?_
          refine wpAnyH_take (i := 7) (v := undef) rfl (by kernel_rfl) (by kernel_rfl) (by kernel_rfl) (fun _ _ _ h => h) (.inr ⟨by kernel_rfl, rfl⟩) S1z.out ?_
          refine wpAnyH_take (i := 8) (v := undef) rfl (by kernel_rfl) (by kernel_rfl) (by kernel_rfl) (fun _ _ _ h => h) (.inr ⟨by kernel_rfl, rfl⟩) S1z.out ?_
          refine wpAnyH_take (i := 9) (v := undef) rfl (by kernel_rfl) (by kernel_rfl) (by kernel_rfl) (fun _ _ _ h => h) (.inr ⟨by kernel_rfl, rfl⟩) S1z.out ?_
          refine wpAnyH_take (i := 10) (v := undef) rfl (by kernel_rfl) (by kernel_rfl) (by kernel_rfl) (fun _ _ _ h => h) (.inr ⟨by kernel_rfl, rfl⟩) S1z.out ?_
          refine wpAnyH_take (i := 11) (v := undef) rfl (by kernel_rfl) (by kernel_rfl) (by kernel_rfl) (fun _ _ _ h => h) (.inr ⟨by kernel_rfl, rfl⟩) S1z.out ?_
          refine wpAnyH_take (i := 12) (v := undef) rfl (by kernel_rfl) (by kernel_rfl) (by kernel_rfl) (fun _ _ _ h => h) (.inr ⟨by kernel_rfl, rfl⟩) S1z.out ?_
          refine wpAnyH_take (i := 13) (v := undef) rfl (by kernel_rfl) (by kernel_rfl) (by kernel_rfl) (fun _ _ _ h => h) (.inr ⟨by kernel_rfl, rfl⟩) S1z.out ?_
          refine wpAnyH_take (i := 14) (v := undef) rfl (by kernel_rfl) (by kernel_rfl) (by kernel_rfl) (fun _ _ _ h => h) (.inr ⟨by kernel_rfl, rfl⟩) S1z.out ?_
          refine wpAnyH_take (i := 15) (v := undef) rfl (by kernel_rfl) (by kernel_rfl) (by kernel_rfl) (fun _ _ _ h => h) (.inr ⟨by kernel_rfl, rfl⟩) S1z.out ?_
          refine wpAnyH_take (i := 16) (v := undef) rfl (by kernel_rfl) (by kernel_rfl) (by kernel_rfl) (fun _ _ _ h => h) (.inr ⟨by kernel_rfl, rfl⟩) S1z.out ?_
          refine wpAnyH_take (i := 17) (v := undef) rfl (by kernel_rfl) (by kernel_rfl) (by kernel_rfl) (fun _ _ _ h => h) (.inr ⟨by kernel_rfl, rfl⟩) S1z.out ?_
          refine wpAnyH_take (i := 18) (v := undef) rfl (by kernel_rfl) (by kernel_rfl) (by kernel_rfl) (fun _ _ _ h => h) (.inr ⟨by kernel_rfl, rfl⟩) S1z.out ?_
          refine wpAnyH_take (i := 19) (v := undef) rfl (by kernel_rfl) (by kernel_rfl) (by kernel_rfl) (fun _ _ _ h => h) (.inr ⟨by kernel_rfl, rfl⟩) S1z.out ?_
          refine wpAnyH_take (i := 20) (v := undef) rfl (by kernel_rfl) (by kernel_rfl) (by kernel_rfl) (fun _ _ _ h => h) (.inr ⟨by kernel_rfl, rfl⟩) S1z.out ?_
          refine wpAnyH_take (i := 21) (v := undef) rfl (by kernel_rfl) (by kernel_rfl) (by kernel_rfl) (fun _ _ _ h => h) (.inr ⟨by kernel_rfl, rfl⟩) S1z.out ?_
          refine wpAnyH_take (i := 22) (v := undef) rfl (by kernel_rfl) (by kernel_rfl) (by kernel_rfl) (fun _ _ _ h => h) (.inr ⟨by kernel_rfl, rfl⟩) S1z.out ?_
          refine wpAnyH_take (i := 23) (v := undef) rfl (by kernel_rfl) (by kernel_rfl) (by kernel_rfl) (fun _ _ _ h => h) (.inr ⟨by kernel_rfl, rfl⟩) S1z.out ?_
          refine wpAnyH_take (i := 24) (v := undef) rfl (by kernel_rfl) (by kernel_rfl) (by kernel_rfl) (fun _ _ _ h => h) (.inr ⟨by kernel_rfl, rfl⟩) S1z.out ?_
          refine one_ready 25 rfl (by kernel_rfl) (by kernel_rfl) ?_
          go_simp
          first
            | refine ⟨S1z.out, rfl, ?_⟩
            | refine ⟨⟨S1z.out.1, S1z.out.2.1, S1z.out.2.2.1, S1z.out.2.2.2.1⟩, rfl, ?_⟩
            | refine ⟨⟨S1z.out.1, S1z.out.2.2.1, S1z.out.2.2.2.1⟩, rfl, ?_⟩
            | refine ⟨rfl, ?_⟩
          go_wp2_with fail
          go_roundw
          case rel => exact ⟨_, _, _, _, ⟨k + 1, by omega, by go_num, Lib.hid ⟨m + 1, rfl⟩⟩, rfl, rfl, rfl, rfl⟩
          case measure => simp [intOf]; omega
        · have hne2 := bytes_ne hos
          have kci : k < cel.items.length := by have := FL.out.same; have := A6.out; omega
          have hz := List.getElem?_eq_getElem kci
          have hdz := (FL.out.its k o HO.out hos).trans hz
          obtain ⟨gi, oi, hI1, _, i0, i1, i2⟩ := V17.out k _ hz
          obtain ⟨ge, oe, hE1, _, j0, j1, j2⟩ := W17.out k _ hdz
          generalize cel.items[k] = z at *
          obtain ⟨zk, zn, zs1⟩ := z
          simp only at i0 i1 i2 j0 j1 j2
          subst hI1
          subst hE1
          clear hz hdz hos kci
          have i0 : (w17.drewN m).cell? ⟨gi, oi + k * 3, none⟩ = _ := i0
          have i1 : (w17.drewN m).cell? ⟨gi, oi + k * 3 + 1, none⟩ = _ := i1
          have i2 : (w17.drewN m).cell? ⟨gi, oi + k * 3 + 2, none⟩ = _ := i2
          have j0 : (w17.drewN m).cell? ⟨ge, oe + k * 3, none⟩ = _ := j0
          have j1 : (w17.drewN m).cell? ⟨ge, oe + k * 3 + 1, none⟩ = _ := j1
          have j2 : (w17.drewN m).cell? ⟨ge, oe + k * 3 + 2, none⟩ = _ := j2
          have hq2 := fun w => run_veq zk zn zk zn zs1 zs1 w
          rw [decide_eq_true rfl] at hq2
          go_wp2_with fail
          have S1w := Lib.hid (show (fun v : World => v.cell? ⟨cb, 4, none⟩ = some (.slice (some ⟨gn, on, none⟩) dn dc) ∧ v.cell? ⟨cb, 5, none⟩ = some (.slice (some ⟨ge, oe, none⟩) dn ec) ∧ v.cell? ⟨b, 5, none⟩ = some (.slice (some ⟨ga, oa, none⟩) nn nc) ∧ v.cell? ⟨b, 6, none⟩ = some (.slice (some ⟨gi, oi, none⟩) nn ic) ∧ v.cell? ⟨gn, on + k, none⟩ = some (.string o) ∧ v.cell? ⟨gi, oi + k * 3, none⟩ = some (.int .i64 zk) ∧ v.cell? ⟨gi, oi + k * 3 + 1, none⟩ = some (.int .i64 zn) ∧ v.cell? ⟨gi, oi + k * 3 + 2, none⟩ = some (.string zs1) ∧ v.cell? ⟨ge, oe + k * 3, none⟩ = some (.int .i64 zk) ∧ v.cell? ⟨ge, oe + k * 3 + 1, none⟩ = some (.int .i64 zn) ∧ v.cell? ⟨ge, oe + k * 3 + 2, none⟩ = some (.string zs1)) (w17.drewN m).drew from ⟨cn, ci, xn, xi, cd, i0, i1, i2, j0, j1, j2⟩)
          clear cn ci xn xi cd i0 i1 i2 j0 j1 j2
          refine region_plain (fun v : World => v.cell? ⟨cb, 4, none⟩ = some (.slice (some ⟨gn, on, none⟩) dn dc) ∧ v.cell? ⟨cb, 5, none⟩ = some (.slice (some ⟨ge, oe, none⟩) dn ec) ∧ v.cell? ⟨b, 5, none⟩ = some (.slice (some ⟨ga, oa, none⟩) nn nc) ∧ v.cell? ⟨b, 6, none⟩ = some (.slice (some ⟨gi, oi, none⟩) nn ic) ∧ v.cell? ⟨gn, on + k, none⟩ = some (.string o) ∧ v.cell? ⟨gi, oi + k * 3, none⟩ = some (.int .i64 zk) ∧ v.cell? ⟨gi, oi + k * 3 + 1, none⟩ = some (.int .i64 zn) ∧ v.cell? ⟨gi, oi + k * 3 + 2, none⟩ = some (.string zs1) ∧ v.cell? ⟨ge, oe + k * 3, none⟩ = some (.int .i64 zk) ∧ v.cell? ⟨ge, oe + k * 3 + 1, none⟩ = some (.int .i64 zn) ∧ v.cell? ⟨ge, oe + k * 3 + 2, none⟩ = some (.string zs1)) hmx ?_
          refine wpAnyH_take (i := 0) (v := ?_) rfl (by kernel_rfl) (by kernel_rfl) (by kernel_rfl) (fun _ _ _ h => h) (.inl ⟨by kernel_rfl, fun v hS => ?_⟩) S1w.out ?_
          rotate_left
          · obtain ⟨e0, e1, e2, e3, e4, e5, e6, e7, e8, e9, e10⟩ := hS
            go_simp
            with_reducible rfl
          refine wpAnyH_take (i := 1) (v := ?_) rfl (by kernel_rfl) (by kernel_rfl) (by kernel_rfl) (fun _ _ _ h => h) (.inl ⟨by kernel_rfl, fun v hS => ?_⟩) S1w.out ?_
          rotate_left
          · obtain ⟨e0, e1, e2, e3, e4, e5, e6, e7, e8, e9, e10⟩ := hS
            go_simp
            with_reducible rfl
          refine wpAnyH_take (i := 2) (v := ?_) rfl (by kernel_rfl) (by kernel_rfl) (by kernel_rfl) (fun _ _ _ h => h) (.inl ⟨by kernel_rfl, fun v hS => ?_⟩) S1w.out ?_
          rotate_left
          · obtain ⟨e0, e1, e2, e3, e4, e5, e6, e7, e8, e9, e10⟩ := hS
            go_simp
            with_reducible rfl
          refine wpAnyH_take (i := 3) (v := ?_) rfl (by kernel_rfl) (by kernel_rfl) (by kernel_rfl) (fun _ _ _ h => h) (.inl ⟨by kernel_rfl, fun v hS => ?_⟩) S1w.out ?_
          rotate_left
          · obtain ⟨e0, e1, e2, e3, e4, e5, e6, e7, e8, e9, e10⟩ := hS
            go_simp
            with_reducible rfl
          refine wpAnyH_take (i := 4) (v := ?_) rfl (by kernel_rfl) (by kernel_rfl) (by kernel_rfl) (fun _ _ _ h => h) (.inl ⟨by kernel_rfl, fun v hS => ?_⟩) S1w.out ?_
          rotate_left
          · obtain ⟨e0, e1, e2, e3, e4, e5, e6, e7, e8, e9, e10⟩ := hS
            go_simp
            with_reducible rfl
          refine wpAnyH_take (i := 5) (v := ?_) rfl (by kernel_rfl) (by kernel_rfl) (by kernel_rfl) (fun _ _ _ h => h) (.inl ⟨by kernel_rfl, fun v hS => ?_⟩) S1w.out ?_
          rotate_left
          · obtain ⟨e0, e1, e2, e3, e4, e5, e6, e7, e8, e9, e10⟩ := hS
            go_simp
            with_reducible rfl
          refine wpAnyH_take (i := 6) (v := ?_) rfl (by kernel_rfl) (by kernel_rfl) (by kernel_rfl) (fun _ _ _ h => h) (.inl ⟨by kernel_rfl, fun v hS => ?_⟩) S1w.out ?_
          rotate_left
          · obtain ⟨e0, e1, e2, e3, e4, e5, e6, e7, e8, e9, e10⟩ := hS
            go_simp
            with_reducible rfl
          refine wpAnyH_take (i := 7) (v := ?_) rfl (by kernel_rfl) (by kernel_rfl) (by kernel_rfl) (fun _ _ _ h => h) (.inl ⟨by kernel_rfl, fun v hS => ?_⟩) S1w.out ?_
          rotate_left
          · obtain ⟨e0, e1, e2, e3, e4, e5, e6, e7, e8, e9, e10⟩ := hS
            go_simp
            with_reducible rfl
          refine wpAnyH_take (i := 8) (v := ?_) rfl (by kernel_rfl) (by kernel_rfl) (by kernel_rfl) (fun _ _ _ h => h) (.inl ⟨by kernel_rfl, fun v hS => ?_⟩) S1w.out ?_
          rotate_left
          · obtain ⟨e0, e1, e2, e3, e4, e5, e6, e7, e8, e9, e10⟩ := hS
            go_simp
            with_reducible rfl
          refine wpAnyH_take (i := 9) (v := ?_) rfl (by kernel_rfl) (by kernel_rfl) (by kernel_rfl) (fun _ _ _ h => h) (.inl ⟨by kernel_rfl, fun v hS => ?_⟩) S1w.out ?_
          rotate_left
          · obtain ⟨e0, e1, e2, e3, e4, e5, e6, e7, e8, e9, e10⟩ := hS
            go_simp
            with_reducible rfl
          refine wpAnyH_take (i := 10) (v := ?_) rfl (by kernel_rfl) (by kernel_rfl) (by kernel_rfl) (fun _ _ _ h => h) (.inl ⟨by kernel_rfl, fun v hS => ?_⟩) S1w.out ?_
          rotate_left
          · obtain ⟨e0, e1, e2, e3, e4, e5, e6, e7, e8, e9, e10⟩ := hS
            go_simp
            with_reducible rfl
          refine wpAnyH_take (i := 11) (v := ?_) rfl (by kernel_rfl) (by kernel_rfl) (by kernel_rfl) (fun _ _ _ h => h) (.inl ⟨by kernel_rfl, fun v hS => ?_⟩) S1w.out ?_
          rotate_left
          · obtain ⟨e0, e1, e2, e3, e4, e5, e6, e7, e8, e9, e10⟩ := hS
            go_simp
            with_reducible rfl
          refine wpAnyH_take (i := 12) (v := ?_) rfl (by kernel_rfl) (by kernel_rfl) (by kernel_rfl) (fun _ _ _ h => h) (.inl ⟨by kernel_rfl, fun v hS => ?_⟩) S1w.out ?_
          rotate_left
          · obtain ⟨e0, e1, e2, e3, e4, e5, e6, e7, e8, e9, e10⟩ := hS
            go_simp
            with_reducible rfl
          refine wpAnyH_take (i := 13) (v := ?_) rfl (by kernel_rfl) (by kernel_rfl) (by kernel_rfl) (fun _ _ _ h => h) (.inl ⟨by kernel_rfl, fun v hS => ?_⟩) S1w.out ?_
          rotate_left
          · obtain ⟨e0, e1, e2, e3, e4, e5, e6, e7, e8, e9, e10⟩ := hS
            go_simp
            with_reducible rfl
          refine wpAnyH_take (i := 14) (v := ?_) rfl (by kernel_rfl) (by kernel_rfl) (by kernel_rfl) (fun _ _ _ h => h) (.inl ⟨by kernel_rfl, fun v hS => ?_⟩) S1w.out ?_
          rotate_left
          · obtain ⟨e0, e1, e2, e3, e4, e5, e6, e7, e8, e9, e10⟩ := hS
            go_simp
            with_reducible rfl
          refine wpAnyH_take (i := 15) (v := ?_) rfl (by kernel_rfl) (by kernel_rfl) (by kernel_rfl) (fun _ _ _ h => h) (.inl ⟨by kernel_rfl, fun v hS => ?_⟩) S1w.out ?_
          rotate_left
          · obtain ⟨e0, e1, e2, e3, e4, e5, e6, e7, e8, e9, e10⟩ := hS
            go_simp
            with_reducible rfl
          refine wpAnyH_take (i := 16) (v := ?_) rfl (by kernel_rfl) (by kernel_rfl) (by kernel_rfl) (fun _ _ _ h => h) (.inl ⟨by kernel_rfl, fun v hS => ?_⟩) S1w.out ?_
          rotate_left
          · obtain ⟨e0, e1, e2, e3, e4, e5, e6, e7, e8, e9, e10⟩ := hS
            go_simp
            with_reducible rfl
          refine wpAnyH_take (i := 17) (v := ?_) rfl (by kernel_rfl) (by kernel_rfl) (by kernel_rfl) (fun _ _ _ h => h) (.inl ⟨by kernel_rfl, fun v hS => ?_⟩) S1w.out ?_
          rotate_left
          · obtain ⟨e0, e1, e2, e3, e4, e5, e6, e7, e8, e9, e10⟩ := hS
            go_simp
            with_reducible rfl
          refine wpAnyH_take (i := 18) (v := ?_) rfl (by kernel_rfl) (by kernel_rfl) (by kernel_rfl) (fun _ _ _ h => h) (.inl ⟨by kernel_rfl, fun v hS => ?_⟩) S1w.out ?_
          rotate_left
          · obtain ⟨e0, e1, e2, e3, e4, e5, e6, e7, e8, e9, e10⟩ := hS
            go_simp
            with_reducible rfl
          refine wpAnyH_take (i := 19) (v := ?_) rfl (by kernel_rfl) (by kernel_rfl) (by kernel_rfl) (fun _ _ _ h => h) (.inl ⟨by kernel_rfl, fun v hS => ?_⟩) S1w.out ?_
          rotate_left
          · obtain ⟨e0, e1, e2, e3, e4, e5, e6, e7, e8, e9, e10⟩ := hS
            go_simp
            with_reducible rfl
          refine wpAnyH_take (i := 20) (v := ?_) rfl (by kernel_rfl) (by kernel_rfl) (by kernel_rfl) (fun _ _ _ h => h) (.inl ⟨by kernel_rfl, fun v hS => ?_⟩) S1w.out ?_
          rotate_left
          · obtain ⟨e0, e1, e2, e3, e4, e5, e6, e7, e8, e9, e10⟩ := hS
            go_simp
            with_reducible rfl
          refine wpAnyH_take (i := 21) (v := ?_) rfl (by kernel_rfl) (by kernel_rfl) (by kernel_rfl) (fun _ _ _ h => h) (.inl ⟨by kernel_rfl, fun v hS => ?_⟩) S1w.out ?_
          rotate_left
          · obtain ⟨e0, e1, e2, e3, e4, e5, e6, e7, e8, e9, e10⟩ := hS
            go_simp
            with_reducible rfl
          refine wpAnyH_take (i := 22) (v := ?_) rfl (by kernel_rfl) (by kernel_rfl) (by kernel_rfl) (fun _ _ _ h => h) (.inl ⟨by kernel_rfl, fun v hS => ?_⟩) S1w.out ?_
          rotate_left
          · obtain ⟨e0, e1, e2, e3, e4, e5, e6, e7, e8, e9, e10⟩ := hS
            go_simp
            with_reducible rfl
          refine wpAnyH_take (i := 23) (v := ?_) rfl (by kernel_rfl) (by kernel_rfl) (by kernel_rfl) (fun _ _ _ h => h) (.inl ⟨by kernel_rfl, fun v hS => ?_⟩) S1w.out ?_
          rotate_left
          · obtain ⟨e0, e1, e2, e3, e4, e5, e6, e7, e8, e9, e10⟩ := hS
            go_simp
            with_reducible rfl
          refine one_ready 24 rfl (by kernel_rfl) (by kernel_rfl) ?_
          go_simp
          first
            | refine ⟨S1w.out, ?_⟩
            | refine ⟨⟨S1w.out.1, S1w.out.2.1, S1w.out.2.2.1, S1w.out.2.2.2.1⟩, ?_⟩
            | refine ⟨⟨S1w.out.1, S1w.out.2.2.1, S1w.out.2.2.2.1⟩, ?_⟩
          refine one_ready 25 rfl (by kernel_rfl) (by kernel_rfl) ?_
          go_simp
          first
            | refine ⟨S1w.out, rfl, ?_⟩
            | refine ⟨⟨S1w.out.1, S1w.out.2.1, S1w.out.2.2.1, S1w.out.2.2.2.1⟩, rfl, ?_⟩
            | refine ⟨⟨S1w.out.1, S1w.out.2.2.1, S1w.out.2.2.2.1⟩, rfl, ?_⟩
            | refine ⟨rfl, ?_⟩
          go_wp2_with fail
          go_roundw
          case rel => exact ⟨_, _, _, _, ⟨k + 1, by omega, by go_num, Lib.hid ⟨m + 1, rfl⟩⟩, rfl, rfl, rfl, rfl⟩
          case measure => simp [intOf]; omega
      · obtain rfl : k = nn := by omega
        go_wp2_with fail
        go_ret
        exact ⟨rfl, BZ.out.trans ⟨rfl, rfl, rfl, Nat.le_refl _, fun _ _ => rfl⟩⟩
    -- ADD END
end Go.Proofs.YthgjkpfnfdnkjaaGreatDoor.Hp
