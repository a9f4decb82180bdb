/-
  The walk of HeapReach.
-/
import Derived.Test.YtkdpcnikgdbmaaaGreatDoorPh
namespace Go.Proofs.YtkdpcnikgdbmaaaGreatDoor.Hp
open Go Go.RowKit Go.Maps Va

theorem bnds_lowR {w w' : World} (hB : Bnds w) (hb : Below w.heap.size w w') : Bnds w' := fun i hi => (hb.cell (p := ⟨_, _, none⟩) hB.size).trans (hB i hi)
theorem rea_none {l : List Ent} {wk : Bool} {i : Int} (h : Rea l wk [] i) : False := by
  induction h with
  | root hv _ => cases hv
  | step _ _ _ _ ih => exact ih
set_option maxRecDepth 100000 in
set_option maxHeartbeats 4000000 in
theorem reach_walk (w : World) (hB : Bnds w) (A : Option Addr) (zs : List Int) (c : Nat) (wh : Int) (A' : Option Addr) (ys : List Int) (c' : Nat) (hA : Ac.Sl w w.heap.size A zs) (hz : ∀ z ∈ zs, I64 z) (hl : zs.length ≤ 17592186044404) (hA' : Ac.Sl w w.heap.size A' ys) (hy : ∀ z ∈ ys, I64 z) (hl' : ys.length ≤ 17592186044404) :
    Calls Tryz.prog 5 #[.slice A zs.length c, .agg #[.int .i64 wh, .slice A' ys.length c']] w fun e w' => e = .returned (.bool true) ∧ Below w.heap.size w w' := by
  have HB := Lib.hid hB
  have HA := Lib.hid hA
  have HZ := Lib.hid hz
  have HA' := Lib.hid hA'
  have HY := Lib.hid hy
  clear hB hA hz hA' hy
  go_enter Tryz.func5, Tryz.ntmps5
  go_wp2_with fail
  have hW1 := (Below.refl w.heap.size w).alloc (Nat.le_refl _) (.cells #[.int .i64 wh, .slice A' ys.length c'] 31)
  have BA1 := Lib.hid (Bk.new w #[.int .i64 wh, .slice A' ys.length c'] 31)
  refine (sanity_any _ (bnds_lowR HB.out hW1)).mono ?_
  rintro e w1 ⟨rfl, hb⟩
  have B1 := Lib.hid (hW1.trans (hb.mono hW1.size))
  have BA2 := Lib.hid (BA1.out.low hb)
  have sz1 := B1.out.size
  generalize hab : w.heap.size = ab at BA2 ⊢
  clear hW1 hb BA1
  go_wp2_with fail
  refine (begin_any A zs c w1 (Ac.Sl.up (HA.out.below B1.out (Nat.le_refl _)) sz1) HZ.out hl (bnds_lowR HB.out B1.out)).mono ?_
  rintro e w2 ⟨p, q, v, es, l, next, rfl, hh⟩
  have FI := Lib.hid hh.out.2.2.2.2
  have S2 := Lib.hid (hh.out.1.since B1.out HB.out).st
  have L2 := Lib.hid hh.out.2.1
  have B2 := Lib.hid (B1.out.trans (hh.out.2.2.2.1.mono sz1))
  have BA3 := Lib.hid (BA2.out.low hh.out.2.2.2.1)
  have sz2 := B2.out.size
  clear hh BA2
  have a0 := BA3.out.cell 0 (.int .i64 wh) rfl
  have a1 := BA3.out.cell 1 (.slice A' ys.length c') rfl
  go_wp2_with fail
  refine (roots_any wh A' ys c' 6 w2 (Ac.Sl.up (HA'.out.below B2.out (Nat.le_refl _)) sz2) HY.out hl' (by decide)).mono ?_
  rintro e w3 ⟨vs, VA, vc, rfl, hvl, hh⟩
  obtain ⟨h1, h2, h3, h4, h5⟩ := hh.out
  have S3 := Lib.hid (S2.out.down h4)
  have L3 := Lib.hid (L2.out.below h4 (Nat.le_refl _))
  have B3 := Lib.hid (B2.out.trans (h4.mono sz2))
  have V3 := Lib.hid h3
  have VI := Lib.hid h2
  have NV := Lib.hid (show VA = none → (6 : Nat) = 0 ∧ vc = 0 from fun e => by
    obtain ⟨g, cap, e', _, _⟩ := World.ownsRow.form h5 (by decide)
    rw [e] at e'
    simp at e')
  have OK := Lib.hid FI.out.okay
  have z23 := h4.size
  clear hh h1 h2 h3 h4 h5 S2 L2 a0 a1 BA3
  go_wp2_with fail
  refine (st_reach w w3 _ p l next vs VA 6 vc S3.out OK.out hvl.out (by decide) VI.out V3.out (fun b hb => hb.2)).mono ?_
  rintro e w4 ⟨v4, r, rfl, hh⟩
  obtain ⟨h1, h2, h3, h4⟩ := hh.out
  obtain ⟨A4, c4, rfl, h5⟩ := ids_own h3
  have S4 := Lib.hid (S3.out.down h4)
  have L4 := Lib.hid (L3.out.below h4 (Nat.le_refl _))
  have B4 := Lib.hid (B3.out.trans (h4.mono B3.out.size))
  have V4 := Lib.hid (V3.out.keep (w' := w4) (Q := fun g => g < w3.heap.size) fun g hg => ⟨hg.2, h4.block g hg.2⟩)
  have I4 := Lib.hid h5
  have RR := Lib.hid (And.intro h1 h2)
  have z34 := h4.size
  have r8 : r.length ≤ 8 := Nat.le_trans (sub_len (h1.imp fun h => Int.ne_of_lt h) fun i hi => rea_ids ((h2 i).1 hi)) (by rw [ids_len]; exact FI.out.len)
  clear hh h1 h2 h3 h4 h5 S3 L3 V3
  go_wp2_with fail
  refine (refReach_any _ q v es l next vs VA 6 vc w4 L4.out FI.out hvl.out (by decide) NV.out VI.out V4.out (fun b hb => by omega)).mono ?_
  rintro e w5 ⟨v5, r', rfl, hh⟩
  obtain ⟨h1, h2, h3, h4⟩ := hh.out
  obtain rfl : r = r' := sorted_ext RR.out.1 h1 fun i => (RR.out.2 i).trans (h2 i).symm
  obtain ⟨A5, c5, rfl, h5⟩ := ids_own h3
  have S5 := Lib.hid (S4.out.down h4)
  have L5 := Lib.hid (L4.out.below h4 (Nat.le_refl _))
  have B5 := Lib.hid (B4.out.trans (h4.mono B4.out.size))
  have V5 := Lib.hid (V4.out.keep (w' := w5) (Q := fun g => g < w3.heap.size) fun g hg => ⟨hg, h4.block g (by omega)⟩)
  have IN5 := Lib.hid (ints_any (fun g => g < w4.heap.size) (fun g => w4.heap.size ≤ g ∧ g < w5.heap.size) A4 A5 r r r.length c4 r.length c5 w5 rfl rfl (I4.out.keep fun g hg => ⟨hg.2, h4.block g hg.2⟩) h5 (by omega) (by omega))
  have z45 := h4.size
  clear hh h1 h2 h3 h4 h5 S4 L4 V4 I4 RR
  rw [decide_eq_true rfl] at IN5
  go_wp2_with fail
  refine IN5.out.mono ?_
  rintro e w6 ⟨rfl, hb6⟩
  have S6 := Lib.hid (S5.out.down hb6)
  have L6 := Lib.hid (L5.out.below hb6 (Nat.le_refl _))
  have B6 := Lib.hid (B5.out.trans (hb6.mono B5.out.size))
  have V6 := Lib.hid (V5.out.keep (w' := w6) (Q := fun g => g < w3.heap.size) fun g hg => ⟨hg, hb6.block g (by omega)⟩)
  have z56 := hb6.size
  clear hb6 S5 L5 V5 IN5
  go_wp2_with fail
  refine (st_visible w w6 _ p l next vs VA 6 vc S6.out OK.out hvl.out (by decide) VI.out V6.out (fun b hb => by omega)).mono ?_
  rintro e w7 ⟨v7, s, rfl, hh⟩
  obtain ⟨h1, h2, h3, h4⟩ := hh.out
  obtain ⟨A7, c7, rfl, h5⟩ := ids_own h3
  have S7 := Lib.hid (S6.out.down h4)
  have L7 := Lib.hid (L6.out.below h4 (Nat.le_refl _))
  have B7 := Lib.hid (B6.out.trans (h4.mono B6.out.size))
  have V7 := Lib.hid (V6.out.keep (w' := w7) (Q := fun g => g < w3.heap.size) fun g hg => ⟨hg, h4.block g (by omega)⟩)
  have I7 := Lib.hid h5
  have RS := Lib.hid (And.intro h1 h2)
  have z67 := h4.size
  have s8 : s.length ≤ 8 := Nat.le_trans (sub_len (h1.imp fun h => Int.ne_of_lt h) fun i hi => rea_ids ((h2 i).1 hi)) (by rw [ids_len]; exact FI.out.len)
  clear hh h1 h2 h3 h4 h5 S6 L6 V6
  go_wp2_with fail
  refine (refVisible_any _ q v es l next vs VA 6 vc w7 L7.out FI.out hvl.out (by decide) NV.out VI.out V7.out (fun b hb => by omega)).mono ?_
  rintro e w8 ⟨v8, s', rfl, hh⟩
  obtain ⟨h1, h2, h3, h4⟩ := hh.out
  obtain rfl : s = s' := sorted_ext RS.out.1 h1 fun i => (RS.out.2 i).trans (h2 i).symm
  obtain ⟨A8, c8, rfl, h5⟩ := ids_own h3
  have S8 := Lib.hid (S7.out.down h4)
  have B8 := Lib.hid (B7.out.trans (h4.mono B7.out.size))
  have IN8 := Lib.hid (ints_any (fun g => g < w7.heap.size) (fun g => w7.heap.size ≤ g ∧ g < w8.heap.size) A7 A8 s s s.length c7 s.length c8 w8 rfl rfl (I7.out.keep fun g hg => ⟨hg.2, h4.block g hg.2⟩) h5 (by omega) (by omega))
  clear hh h1 h2 h3 h4 h5 S7 L7 V7 I7 RS
  rw [decide_eq_true rfl] at IN8
  go_wp2_with fail
  refine IN8.out.mono ?_
  rintro e w9 ⟨rfl, hb9⟩
  have S9 := Lib.hid (S8.out.down hb9)
  have B9 := Lib.hid (B8.out.trans (hb9.mono B8.out.size))
  clear hb9 S8 IN8
  go_wp2_with fail
  refine (st_reach w w9 (fun _ => False) p l next [] none 0 0 S9.out OK.out rfl (by decide) (fun v h => by cases h) (fun j v h => by simp at h) (fun b hb => hb.elim)).mono ?_
  rintro e wa ⟨va, r0, rfl, hh⟩
  obtain ⟨h1, h2, h3, h4⟩ := hh.out
  obtain rfl : r0 = [] := List.eq_nil_iff_forall_not_mem.2 fun i hi => rea_none ((h2 i).1 hi)
  obtain ⟨Aa, ca, rfl, -⟩ := ids_own h3
  have Sa := Lib.hid (S9.out.down h4)
  have Ba := Lib.hid (B9.out.trans (h4.mono B9.out.size))
  clear hh h1 h2 h3 h4 S9
  rw [show (([] : List Int).length) = 0 from rfl]
  go_wp2_with fail
  refine (st_visible w wa (fun _ => False) p l next [] none 0 0 Sa.out OK.out rfl (by decide) (fun v h => by cases h) (fun j v h => by simp at h) (fun b hb => hb.elim)).mono ?_
  rintro e wb ⟨vb, r1, rfl, hh⟩
  obtain ⟨h1, h2, h3, h4⟩ := hh.out
  obtain rfl : r1 = [] := List.eq_nil_iff_forall_not_mem.2 fun i hi => rea_none ((h2 i).1 hi)
  obtain ⟨Ab, cb, rfl, -⟩ := ids_own h3
  have Bb := Lib.hid (Ba.out.trans (h4.mono Ba.out.size))
  clear hh h1 h2 h3 h4 Sa
  rw [show (([] : List Int).length) = 0 from rfl]
  go_wp2_with fail
  go_ret
  exact ⟨rfl, Bb.out⟩
end Go.Proofs.YtkdpcnikgdbmaaaGreatDoor.Hp
