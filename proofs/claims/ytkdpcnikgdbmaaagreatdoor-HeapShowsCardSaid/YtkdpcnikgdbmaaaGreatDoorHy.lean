/-
  At and Put.
-/
import Derived.Test.YtkdpcnikgdbmaaaGreatDoorHv
import Derived.BigRegion
namespace Go.Proofs.YtkdpcnikgdbmaaaGreatDoor.Hp
open Go Go.RowKit Go.Maps Va

theorem Frm.below {F : Nat → Prop} {w w' : World} (h : Frm F w w') (hF : ∀ g, ¬ F g) : Below w.heap.size w w' := ⟨h.os, h.tape, h.output, h.size, fun k hk => h.block k hk (hF k)⟩
theorem nilBlk (g : Nat) : ¬ (Value.slice none 0 0).ownBlock = some g := fun h => by cases h
theorem Bk.new4 (w : World) (o o' o2 : Obj) (c : Array Value) (T : TypeId) : Bk ((((w.alloc o).alloc o').alloc o2).alloc (.cells c T)) (w.heap.size + 1 + 1 + 1) c T := by
  have := Bk.new (((w.alloc o).alloc o').alloc o2) c T
  rwa [World.size_alloc, World.size_alloc, World.size_alloc] at this
theorem below4 (w : World) (a b c d : Obj) : Below w.heap.size w ((((w.alloc a).alloc b).alloc c).alloc d) :=
  (below3 w a b c).alloc (by simp; omega) d
set_option maxHeartbeats 1000000 in
theorem at_of_fault (p : Nat) (v i : Val) (flt : ByteArray) (w : World) (hte : flt.toList.isEmpty = false)
    (EL : ∀ w', Below w.heap.size w w' → Calls Tryz.prog 82 #[.pointer (some ⟨p, 0, none⟩), valV v, valV i, .slice none 0 0] w' fun e w'' => e = .returned (.tuple #[.pointer none, .string flt]) ∧ Hid (Frm (fun g => (Value.slice none 0 0).ownBlock = some g) w' w'')) :
    Calls Tryz.prog 38 #[.pointer (some ⟨p, 0, none⟩), valV v, valV i] w fun e w' => e = .returned (.tuple #[valV ⟨0, 0, ⟨#[]⟩⟩, .string flt]) ∧ Below w.heap.size w w' := by
  have OP := Lib.hid EL
  clear EL
  unfold valV at *
  go_enter Tryz.func38, Tryz.ntmps38
  go_wp2_with fail
  refine (OP.out _ (below3 _ _ _ _)).mono ?_
  rintro e w2 ⟨rfl, hh⟩
  have hb := hh.out.below nilBlk
  have K2 := Lib.hid (Bk.below (Bk.new3 w _ _ _ _) hb (by simp))
  have HB := Lib.hid ((below3 w _ _ _).trans (hb.mono (by simp; omega)))
  clear hb OP hh
  have r0 := K2.out.cell 0 (.int .i64 0) rfl
  have r1 := K2.out.cell 1 (.int .i64 0) rfl
  have r2 := K2.out.cell 2 (.string ⟨#[]⟩) rfl
  have g0 := K2.out.frozen 0
  have g1 := K2.out.frozen 1
  have g2 := K2.out.frozen 2
  go_wp2_with fail
  (try simp only [Exit.inBlock, Exit.then])
  refine bodyPost_ret (v := .tuple #[.agg #[.int .i64 0, .int .i64 0, .string ⟨#[]⟩], .string flt]) ?_ rfl ?_
  · rw [results_cell_tmp rfl]
    go_simp
  · exact ⟨rfl, by (repeat' (first | exact HB.out | refine Below.setCell ?_ (by simp; omega) _))⟩
set_option maxHeartbeats 1000000 in
theorem at_of_item (p ib k : Nat) (v i x : Val) (w : World) (hl : ib < w.heap.size)
    (x0 : w.cell? ⟨ib, k * 3, none⟩ = some (.int .i64 x.k)) (x1 : w.cell? ⟨ib, k * 3 + 1, none⟩ = some (.int .i64 x.n)) (x2 : w.cell? ⟨ib, k * 3 + 2, none⟩ = some (.string x.s))
    (EL : ∀ w', Below w.heap.size w w' → Calls Tryz.prog 82 #[.pointer (some ⟨p, 0, none⟩), valV v, valV i, .slice none 0 0] w' fun e w'' => e = .returned (.tuple #[.pointer (some ⟨ib, k * 3, none⟩), .string ⟨#[]⟩]) ∧ Hid (Frm (fun g => (Value.slice none 0 0).ownBlock = some g) w' w'')) :
    Calls Tryz.prog 38 #[.pointer (some ⟨p, 0, none⟩), valV v, valV i] w fun e w' => e = .returned (.tuple #[valV x, .string ⟨#[]⟩]) ∧ Below w.heap.size w w' := by
  have OP := Lib.hid EL
  clear EL
  unfold valV at *
  go_enter Tryz.func38, Tryz.ntmps38
  go_wp2_with fail
  refine (OP.out _ (below3 _ _ _ _)).mono ?_
  rintro e w2 ⟨rfl, hh⟩
  have hb := hh.out.below nilBlk
  have K2 := Lib.hid (Bk.below (Bk.new3 w _ _ _ _) hb (by simp))
  have HB := Lib.hid ((below3 w _ _ _).trans (hb.mono (by simp; omega)))
  clear hb OP hh
  have r0 := K2.out.cell 0 (.int .i64 0) rfl
  have r1 := K2.out.cell 1 (.int .i64 0) rfl
  have r2 := K2.out.cell 2 (.string ⟨#[]⟩) rfl
  have g0 := K2.out.frozen 0
  have g1 := K2.out.frozen 1
  have g2 := K2.out.frozen 2
  have y0 := (HB.out.cell (p := ⟨ib, k * 3, none⟩) hl).trans x0
  have y1 := (HB.out.cell (p := ⟨ib, k * 3 + 1, none⟩) hl).trans x1
  have y2 := (HB.out.cell (p := ⟨ib, k * 3 + 2, none⟩) hl).trans x2
  clear x0 x1 x2
  go_wp2_with fail
  (try simp only [Exit.inBlock, Exit.then])
  refine bodyPost_ret (v := .tuple #[.agg #[.int .i64 x.k, .int .i64 x.n, .string x.s], .string ⟨#[]⟩]) ?_ rfl ?_
  · rw [results_cell_tmp rfl]
    go_simp
  · exact ⟨rfl, by (repeat' (first | exact HB.out | refine Below.setCell ?_ (by simp; omega) _))⟩
theorem Frm.below_of {F : Nat → Prop} {w w1 w' : World} (hB : Below w.heap.size w w1) (h : Frm F w1 w') (hF : ∀ g, F g → w.heap.size ≤ g) : Below w.heap.size w w' :=
  ⟨h.os.trans hB.os, h.tape.trans hB.tape, h.output.trans hB.output, Nat.le_trans hB.size h.size, fun k hk => (h.block k (Nat.lt_of_lt_of_le hk hB.size) fun h' => by have := hF k h'; omega).trans (hB.block k hk)⟩
theorem own_eq {b o n c g : Nat} (h : (Value.slice (some ⟨b, o, none⟩) n c).ownBlock = some g) : b = g := by simpa [Value.ownBlock] using h
set_option maxHeartbeats 1000000 in
theorem put_of_fault (p : Nat) (v i x : Val) (flt : ByteArray) (w : World) (hte : flt.toList.isEmpty = false)
    (EL : ∀ w' b, Below w.heap.size w w' → w.heap.size ≤ b → Bk w' b #[.int .i64 x.k, .int .i64 x.n, .string x.s] 64 → Calls Tryz.prog 82 #[.pointer (some ⟨p, 0, none⟩), valV v, valV i, .slice (some ⟨b, 0, none⟩) 1 1] w' fun e w'' => e = .returned (.tuple #[.pointer none, .string flt]) ∧ Hid (Frm (fun g => (Value.slice (some ⟨b, 0, none⟩) 1 1).ownBlock = some g) w' w'')) :
    Calls Tryz.prog 48 #[.pointer (some ⟨p, 0, none⟩), valV v, valV i, valV x] w fun e w' => e = .returned (.string flt) ∧ Below w.heap.size w w' := by
  have OP := Lib.hid EL
  clear EL
  unfold valV at *
  go_enter Tryz.func48, Tryz.ntmps48
  go_wp2_with fail
  refine (OP.out _ _ (below4 _ _ _ _ _) (by omega) (Bk.new4 _ _ _ _ _ _)).mono ?_
  rintro e w2 ⟨rfl, hh⟩
  have HB := Lib.hid (Frm.below_of (below4 w _ _ _ _) hh.out (fun g hg => by have := own_eq hg; omega))
  clear OP hh
  go_wp2_with fail
  go_ret
  exact ⟨rfl, HB.out⟩
set_option maxHeartbeats 1000000 in
theorem put_of_item (F : Nat → Prop) (p ib k n jc : Nat) (mb : Option Nat) (f : Int → Hd) (l : List Ent) (next : Int) (c0 : Cel) (v i x : Val) (w : World) (H : HeapA w F p mb f l next) (hF : ∀ g, F g → g < w.heap.size) (hm : (v.n, c0) ∈ l) (hI : (f v.n).I = .slice (some ⟨ib, 0, none⟩) n jc) (hn : c0.items.length = n) (hk : k < n)
    (EL : ∀ w' b, Below w.heap.size w w' → w.heap.size ≤ b → Bk w' b #[.int .i64 x.k, .int .i64 x.n, .string x.s] 64 → Calls Tryz.prog 82 #[.pointer (some ⟨p, 0, none⟩), valV v, valV i, .slice (some ⟨b, 0, none⟩) 1 1] w' fun e w'' => e = .returned (.tuple #[.pointer (some ⟨ib, k * 3, none⟩), .string ⟨#[]⟩]) ∧ Hid (Frm (fun g => (Value.slice (some ⟨b, 0, none⟩) 1 1).ownBlock = some g) w' w'')) :
    Calls Tryz.prog 48 #[.pointer (some ⟨p, 0, none⟩), valV v, valV i, valV x] w fun e w' => e = .returned (.string ⟨#[]⟩) ∧ Hid (HeapA w' F p mb f (setC l v.n (c0.put k x)) next ∧ Frm F w w') := by
  have OP := Lib.hid EL
  have RES := Lib.hid (fun (w' : World) (hb : Below w.heap.size w w') => put_result H hF hb hm hI hn k x)
  have CA := (H.of hm).2
  have hits := CA.its
  rw [hI] at hits
  have il : ib < w.heap.size := Hd.lt_of CA (.inr (.inr (by rw [hI]; rfl)))
  have hx := List.getElem?_eq_getElem (show k < c0.items.length by omega)
  obtain ⟨f0, f1, f2⟩ := flatV_at c0.items k _ hx
  rw [hn] at hits
  have x0 := (World.ownsRow.cellAt hits (k * 3) (by omega)).trans f0
  have x1 := (World.ownsRow.cellAt hits (k * 3 + 1) (by omega)).trans f1
  have x2 := (World.ownsRow.cellAt hits (k * 3 + 2) (by omega)).trans f2
  have z0 := World.ownsRow.frozenAt hits (k * 3)
  have z1 := World.ownsRow.frozenAt hits (k * 3 + 1)
  have z2 := World.ownsRow.frozenAt hits (k * 3 + 2)
  clear EL H hF hm hI CA hits f0 f1 f2 hx
  generalize c0.items[k] = xo at *
  unfold valV at *
  go_enter Tryz.func48, Tryz.ntmps48
  go_wp2_with fail
  refine (OP.out _ _ (below4 _ _ _ _ _) (by omega) (Bk.new4 _ _ _ _ _ _)).mono ?_
  rintro e w2 ⟨rfl, hh⟩
  have HB := Lib.hid (Frm.below_of (below4 w _ _ _ _) hh.out (fun g hg => by have := own_eq hg; omega))
  have K2 := Lib.hid (show Bk w2 (w.heap.size + 1 + 1) #[.int .i64 x.k, .int .i64 x.n, .string x.s] 64 from (hh.out.block _ (by simp) (fun e => by have := own_eq e; omega)).trans ((Bk.new3 w _ _ _ _).alloc _))
  clear OP hh
  have y0 := (HB.out.cell (p := ⟨ib, k * 3, none⟩) il).trans x0
  have y1 := (HB.out.cell (p := ⟨ib, k * 3 + 1, none⟩) il).trans x1
  have y2 := (HB.out.cell (p := ⟨ib, k * 3 + 2, none⟩) il).trans x2
  have fz : ∀ i, w2.frozen? ⟨ib, i, none⟩ = w.frozen? ⟨ib, i, none⟩ := fun i => by simp only [World.frozen?, HB.out.block ib il]
  have g0 := (fz _).trans z0
  have g1 := (fz _).trans z1
  have g2 := (fz _).trans z2
  have r0 := K2.out.cell 0 (.int .i64 x.k) rfl
  have r1 := K2.out.cell 1 (.int .i64 x.n) rfl
  have r2 := K2.out.cell 2 (.string x.s) rfl
  clear x0 x1 x2 z0 z1 z2 fz
  go_wp2_with fail
  go_ret
  exact ⟨rfl, Lib.hid (RES.out _ HB.out)⟩
end Go.Proofs.YtkdpcnikgdbmaaaGreatDoor.Hp
