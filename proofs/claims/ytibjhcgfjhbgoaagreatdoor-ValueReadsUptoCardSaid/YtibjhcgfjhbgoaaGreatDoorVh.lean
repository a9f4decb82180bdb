/-
  Contract of Binary: the walks, over what binaries hands back.
-/
import Derived.Test.YtibjhcgfjhbgoaaGreatDoorVg
namespace Go.Proofs.YtibjhcgfjhbgoaaGreatDoor.Va
open Go Go.RowKit Mp

set_option maxRecDepth 3000 in
theorem binary_unset (op ka na kb nb : Int) (sa sb : ByteArray) (w : World) (h : (ka == 0) = true ∨ (ka == 0) = false ∧ (kb == 0) = true) :
    Calls Tryz.prog 16 #[.int .i64 op, vv ka na sa, vv kb nb sb] w fun e w' => e = .returned (.tuple #[zv, .string unsetS]) ∧ Below w.heap.size w w' := by
  unfold vv
  rcases h with h | ⟨h, h'⟩
  all_goals
    go_enter Tryz.func16, Tryz.ntmps16
    go_wp2_with fail
    exact bodyPost_ret (v := .tuple #[zv, .string unsetS]) (by simp [results, Tryz.results16, go_sem, vv, es, zv, unsetS]) rfl ⟨rfl, below3 _ _ _ _⟩
theorem three_owns {w w1 : World} {x0 x1 x2 y0 y1 y2 z0 z1 z2 : Value} {T : TypeId}
    (hb : Below (((w.alloc (.cells #[x0, x1, x2] T)).alloc (.cells #[y0, y1, y2] T)).alloc (.cells #[z0, z1, z2] T)).heap.size (((w.alloc (.cells #[x0, x1, x2] T)).alloc (.cells #[y0, y1, y2] T)).alloc (.cells #[z0, z1, z2] T)) w1) :
    Own w1 w.heap.size #[x0, x1, x2] T ∧ Own w1 (w.heap.size + 1) #[y0, y1, y2] T ∧ Own w1 (w.heap.size + 1 + 1) #[z0, z1, z2] T ∧ Below w.heap.size w w1 := by
  refine ⟨(((Own.new _ _ _).alloc _).alloc _).below hb (by simp only [World.size_alloc]; omega), ?_, ?_, (below3 _ _ _ _).trans (hb.mono (by simp only [World.size_alloc]; omega))⟩
  · have h := ((Own.new (w.alloc (.cells #[x0, x1, x2] T)) #[y0, y1, y2] T).alloc (.cells #[z0, z1, z2] T)).below hb (by simp only [World.size_alloc]; omega)
    simpa only [World.size_alloc] using h
  · have h := (Own.new ((w.alloc (.cells #[x0, x1, x2] T)).alloc (.cells #[y0, y1, y2] T)) #[z0, z1, z2] T).below hb (by simp only [World.size_alloc]; omega)
    simpa only [World.size_alloc] using h
set_option maxRecDepth 3000 in
theorem binary_nil (op ka na kb nb : Int) (sa sb : ByteArray) (w : World) (hB : Bnds w) (ha : (ka == 0) = false) (hb : (kb == 0) = false)
    (hbin : ∀ w, Bnds w → Calls Tryz.prog 36 #[vv ka na sa, vv kb nb sb] w fun e w' => e = .returned (.map none) ∧ Below w.heap.size w w') :
    Calls Tryz.prog 16 #[.int .i64 op, vv ka na sa, vv kb nb sb] w fun e w' => e = .returned (.tuple #[zv, .string typeS]) ∧ Below w.heap.size w w' := by
  have hl := fun (w : World) (k : Int) => run_look_nil (P := Tryz.prog) Tryz.underlying62 Tryz.underlying3 w (z := .nilFunc) (by kernel_rfl) k
  have HB := Lib.hid hB
  have C := Lib.hid hbin
  clear hB hbin
  unfold vv
  go_enter Tryz.func16, Tryz.ntmps16
  go_wp2_with fail
  refine (C.out _ (HB.out.below (below3 _ _ _ _) HB.out.size)).mono ?_
  rintro e w1 ⟨rfl, hb1⟩
  obtain ⟨o1, o2, o3, g1⟩ := three_owns hb1
  obtain ⟨k0, k1, k2, _, y1⟩ := o1.facts
  obtain ⟨l0, l1, l2, _, y2⟩ := o2.facts
  obtain ⟨m0, m1, m2, mf, y3⟩ := o3.facts
  have G1 := Lib.hid g1
  clear hb1 o1 o2 o3 g1
  go_wp2_with fail
  exact bodyPost_ret (v := .tuple #[zv, .string typeS]) (by simp [results, Tryz.results16, go_sem, vv, es, zv, typeS, m0, m1, m2]) rfl ⟨rfl, ((G1.out.setCell (by simp; omega) _).setCell (by simp; omega) _).setCell (by simp; omega) _⟩
set_option maxRecDepth 3000 in
theorem binary_miss (P : World → Nat → Prop) (op ka na kb nb : Int) (sa sb : ByteArray) (w : World) (hB : Bnds w) (ha : (ka == 0) = false) (hb : (kb == 0) = false)
    (hbin : ∀ w, Bnds w → Calls Tryz.prog 36 #[vv ka na sa, vv kb nb sb] w (Someplace P w))
    (hlook : ∀ w B, P w B → (Instr.lookup 62 (.map (some B)) (.int .i64 op) true).run Tryz.prog w = .ok (.tuple #[.nilFunc, .bool false]) w) :
    Calls Tryz.prog 16 #[.int .i64 op, vv ka na sa, vv kb nb sb] w fun e w' => e = .returned (.tuple #[zv, .string typeS]) ∧ Below w.heap.size w w' := by
  have HB := Lib.hid hB
  have C := Lib.hid hbin
  have HL := Lib.hid hlook
  clear hB hbin hlook
  unfold vv
  go_enter Tryz.func16, Tryz.ntmps16
  go_wp2_with fail
  refine (C.out _ (HB.out.below (below3 _ _ _ _) HB.out.size)).mono ?_
  rintro e w1 ⟨B, rfl, _, hP, hb1⟩
  have hl := HL.out w1 B hP
  obtain ⟨o1, o2, o3, g1⟩ := three_owns hb1
  obtain ⟨k0, k1, k2, _, y1⟩ := o1.facts
  obtain ⟨l0, l1, l2, _, y2⟩ := o2.facts
  obtain ⟨m0, m1, m2, mf, y3⟩ := o3.facts
  have G1 := Lib.hid g1
  clear hb1 o1 o2 o3 g1 hP
  go_wp2_with fail
  exact bodyPost_ret (v := .tuple #[zv, .string typeS]) (by simp [results, Tryz.results16, go_sem, vv, es, zv, typeS, m0, m1, m2]) rfl ⟨rfl, ((G1.out.setCell (by simp; omega) _).setCell (by simp; omega) _).setCell (by simp; omega) _⟩
set_option maxRecDepth 3000 in
theorem binary_equal (P : World → Nat → Prop) (op ka na kb nb : Int) (sa sb : ByteArray) (w : World) (hB : Bnds w) (ha : (ka == 0) = false) (hb : (kb == 0) = false) (rk rn : Int) (rs fs : ByteArray)
    (hbin : ∀ w, Bnds w → Calls Tryz.prog 36 #[vv ka na sa, vv kb nb sb] w (Someplace P w))
    (hlook : ∀ w B, P w B → (Instr.lookup 62 (.map (some B)) (.int .i64 op) true).run Tryz.prog w = .ok (.tuple #[fn 54, .bool true]) w)
    (hcall : ∀ w B, Bnds w → P w B → Calls Tryz.prog 54 #[vv ka na sa, vv kb nb sb] w fun e w' => e = .returned (.tuple #[vv rk rn rs, .string fs]) ∧ Below w.heap.size w w') :
    Calls Tryz.prog 16 #[.int .i64 op, vv ka na sa, vv kb nb sb] w fun e w' => e = .returned (.tuple #[vv rk rn rs, .string fs]) ∧ Below w.heap.size w w' := by
  have HB := Lib.hid hB
  have C := Lib.hid hbin
  have HL := Lib.hid hlook
  have HC := Lib.hid hcall
  clear hB hbin hlook hcall
  unfold vv
  go_enter Tryz.func16, Tryz.ntmps16
  go_wp2_with fail
  refine (C.out _ (HB.out.below (below3 _ _ _ _) HB.out.size)).mono ?_
  rintro e w1 ⟨B, rfl, _, hP, hb1⟩
  have hl := HL.out w1 B hP
  unfold fn at hl
  obtain ⟨o1, o2, o3, g1⟩ := three_owns hb1
  obtain ⟨k0, k1, k2, _, y1⟩ := o1.facts
  obtain ⟨l0, l1, l2, _, y2⟩ := o2.facts
  obtain ⟨m0, m1, m2, mf, y3⟩ := o3.facts
  have H1 := Lib.hid hP
  have O3 := Lib.hid o3
  have G0 := Lib.hid g1
  clear hb1 o1 o2 o3 g1 hP m0 m1 m2 mf
  go_wp2_with fail
  refine (HC.out _ B (HB.out.below G0.out HB.out.size) H1.out).mono ?_
  rintro e w2 ⟨rfl, hb2⟩
  obtain ⟨m0, m1, m2, mf, y4⟩ := (O3.out.below hb2 y3).facts
  have g1 := G0.out.trans (hb2.mono (by omega))
  have G1 := Lib.hid g1
  clear hb2 g1 G0 O3 H1 HB C HL HC hl k0 k1 k2 l0 l1 l2
  unfold vv
  go_wp2_with fail
  exact bodyPost_ret (v := .tuple #[vv rk rn rs, .string fs]) (by simp [results, Tryz.results16, go_sem, vv, m0, m1, m2]) rfl ⟨rfl, ((G1.out.setCell (by simp; omega) _).setCell (by simp; omega) _).setCell (by simp; omega) _⟩
set_option maxRecDepth 3000 in
theorem binary_join (P : World → Nat → Prop) (op ka na kb nb : Int) (sa sb : ByteArray) (w : World) (hB : Bnds w) (ha : (ka == 0) = false) (hb : (kb == 0) = false) (rk rn : Int) (rs fs : ByteArray)
    (hbin : ∀ w, Bnds w → Calls Tryz.prog 36 #[vv ka na sa, vv kb nb sb] w (Someplace P w))
    (hlook : ∀ w B, P w B → (Instr.lookup 62 (.map (some B)) (.int .i64 op) true).run Tryz.prog w = .ok (.tuple #[fn 84, .bool true]) w)
    (hcall : ∀ w B, Bnds w → P w B → Calls Tryz.prog 84 #[vv ka na sa, vv kb nb sb] w fun e w' => e = .returned (.tuple #[vv rk rn rs, .string fs]) ∧ Below w.heap.size w w') :
    Calls Tryz.prog 16 #[.int .i64 op, vv ka na sa, vv kb nb sb] w fun e w' => e = .returned (.tuple #[vv rk rn rs, .string fs]) ∧ Below w.heap.size w w' := by
  have HB := Lib.hid hB
  have C := Lib.hid hbin
  have HL := Lib.hid hlook
  have HC := Lib.hid hcall
  clear hB hbin hlook hcall
  unfold vv
  go_enter Tryz.func16, Tryz.ntmps16
  go_wp2_with fail
  refine (C.out _ (HB.out.below (below3 _ _ _ _) HB.out.size)).mono ?_
  rintro e w1 ⟨B, rfl, _, hP, hb1⟩
  have hl := HL.out w1 B hP
  unfold fn at hl
  obtain ⟨o1, o2, o3, g1⟩ := three_owns hb1
  obtain ⟨k0, k1, k2, _, y1⟩ := o1.facts
  obtain ⟨l0, l1, l2, _, y2⟩ := o2.facts
  obtain ⟨m0, m1, m2, mf, y3⟩ := o3.facts
  have H1 := Lib.hid hP
  have O3 := Lib.hid o3
  have G0 := Lib.hid g1
  clear hb1 o1 o2 o3 g1 hP m0 m1 m2 mf
  go_wp2_with fail
  refine (HC.out _ B (HB.out.below G0.out HB.out.size) H1.out).mono ?_
  rintro e w2 ⟨rfl, hb2⟩
  obtain ⟨m0, m1, m2, mf, y4⟩ := (O3.out.below hb2 y3).facts
  have g1 := G0.out.trans (hb2.mono (by omega))
  have G1 := Lib.hid g1
  clear hb2 g1 G0 O3 H1 HB C HL HC hl k0 k1 k2 l0 l1 l2
  unfold vv
  go_wp2_with fail
  exact bodyPost_ret (v := .tuple #[vv rk rn rs, .string fs]) (by simp [results, Tryz.results16, go_sem, vv, m0, m1, m2]) rfl ⟨rfl, ((G1.out.setCell (by simp; omega) _).setCell (by simp; omega) _).setCell (by simp; omega) _⟩
set_option maxRecDepth 3000 in
theorem binary_rel (P : World → Nat → Prop) (op ka na kb nb : Int) (sa sb : ByteArray) (w : World) (hB : Bnds w) (ha : (ka == 0) = false) (hb : (kb == 0) = false) (rk rn : Int) (rs fs : ByteArray) (i : Nat)
    (hbin : ∀ w, Bnds w → Calls Tryz.prog 36 #[vv ka na sa, vv kb nb sb] w (Someplace P w))
    (hlook : ∀ w B, P w B → (Instr.lookup 62 (.map (some B)) (.int .i64 op) true).run Tryz.prog w = .ok (.tuple #[clo 98 (B + i), .bool true]) w)
    (hcall : ∀ w B, Bnds w → P w B → Calls Tryz.prog 98 #[vv ka na sa, vv kb nb sb, .pointer (some ⟨B + i, 0, none⟩)] w fun e w' => e = .returned (.tuple #[vv rk rn rs, .string fs]) ∧ Below w.heap.size w w') :
    Calls Tryz.prog 16 #[.int .i64 op, vv ka na sa, vv kb nb sb] w fun e w' => e = .returned (.tuple #[vv rk rn rs, .string fs]) ∧ Below w.heap.size w w' := by
  have HB := Lib.hid hB
  have C := Lib.hid hbin
  have HL := Lib.hid hlook
  have HC := Lib.hid hcall
  clear hB hbin hlook hcall
  unfold vv
  go_enter Tryz.func16, Tryz.ntmps16
  go_wp2_with fail
  refine (C.out _ (HB.out.below (below3 _ _ _ _) HB.out.size)).mono ?_
  rintro e w1 ⟨B, rfl, _, hP, hb1⟩
  have hl := HL.out w1 B hP
  unfold clo at hl
  obtain ⟨o1, o2, o3, g1⟩ := three_owns hb1
  obtain ⟨k0, k1, k2, _, y1⟩ := o1.facts
  obtain ⟨l0, l1, l2, _, y2⟩ := o2.facts
  obtain ⟨m0, m1, m2, mf, y3⟩ := o3.facts
  have H1 := Lib.hid hP
  have O3 := Lib.hid o3
  have G0 := Lib.hid g1
  clear hb1 o1 o2 o3 g1 hP m0 m1 m2 mf
  go_wp2_with fail
  refine (HC.out _ B (HB.out.below G0.out HB.out.size) H1.out).mono ?_
  rintro e w2 ⟨rfl, hb2⟩
  obtain ⟨m0, m1, m2, mf, y4⟩ := (O3.out.below hb2 y3).facts
  have g1 := G0.out.trans (hb2.mono (by omega))
  have G1 := Lib.hid g1
  clear hb2 g1 G0 O3 H1 HB C HL HC hl k0 k1 k2 l0 l1 l2
  unfold vv
  go_wp2_with fail
  exact bodyPost_ret (v := .tuple #[vv rk rn rs, .string fs]) (by simp [results, Tryz.results16, go_sem, vv, m0, m1, m2]) rfl ⟨rfl, ((G1.out.setCell (by simp; omega) _).setCell (by simp; omega) _).setCell (by simp; omega) _⟩
set_option maxRecDepth 3000 in
theorem binary_op (P : World → Nat → Prop) (op ka na kb nb : Int) (sa sb : ByteArray) (w : World) (hB : Bnds w) (ha : (ka == 0) = false) (hb : (kb == 0) = false) (rk rn : Int) (rs fs : ByteArray) (i : Nat)
    (hbin : ∀ w, Bnds w → Calls Tryz.prog 36 #[vv ka na sa, vv kb nb sb] w (Someplace P w))
    (hlook : ∀ w B, P w B → (Instr.lookup 62 (.map (some B)) (.int .i64 op) true).run Tryz.prog w = .ok (.tuple #[clo 99 (B + i), .bool true]) w)
    (hcall : ∀ w B, Bnds w → P w B → Calls Tryz.prog 99 #[vv ka na sa, vv kb nb sb, .pointer (some ⟨B + i, 0, none⟩)] w fun e w' => e = .returned (.tuple #[vv rk rn rs, .string fs]) ∧ Below w.heap.size w w') :
    Calls Tryz.prog 16 #[.int .i64 op, vv ka na sa, vv kb nb sb] w fun e w' => e = .returned (.tuple #[vv rk rn rs, .string fs]) ∧ Below w.heap.size w w' := by
  have HB := Lib.hid hB
  have C := Lib.hid hbin
  have HL := Lib.hid hlook
  have HC := Lib.hid hcall
  clear hB hbin hlook hcall
  unfold vv
  go_enter Tryz.func16, Tryz.ntmps16
  go_wp2_with fail
  refine (C.out _ (HB.out.below (below3 _ _ _ _) HB.out.size)).mono ?_
  rintro e w1 ⟨B, rfl, _, hP, hb1⟩
  have hl := HL.out w1 B hP
  unfold clo at hl
  obtain ⟨o1, o2, o3, g1⟩ := three_owns hb1
  obtain ⟨k0, k1, k2, _, y1⟩ := o1.facts
  obtain ⟨l0, l1, l2, _, y2⟩ := o2.facts
  obtain ⟨m0, m1, m2, mf, y3⟩ := o3.facts
  have H1 := Lib.hid hP
  have O3 := Lib.hid o3
  have G0 := Lib.hid g1
  clear hb1 o1 o2 o3 g1 hP m0 m1 m2 mf
  go_wp2_with fail
  refine (HC.out _ B (HB.out.below G0.out HB.out.size) H1.out).mono ?_
  rintro e w2 ⟨rfl, hb2⟩
  obtain ⟨m0, m1, m2, mf, y4⟩ := (O3.out.below hb2 y3).facts
  have g1 := G0.out.trans (hb2.mono (by omega))
  have G1 := Lib.hid g1
  clear hb2 g1 G0 O3 H1 HB C HL HC hl k0 k1 k2 l0 l1 l2
  unfold vv
  go_wp2_with fail
  exact bodyPost_ret (v := .tuple #[vv rk rn rs, .string fs]) (by simp [results, Tryz.results16, go_sem, vv, m0, m1, m2]) rfl ⟨rfl, ((G1.out.setCell (by simp; omega) _).setCell (by simp; omega) _).setCell (by simp; omega) _⟩
end Go.Proofs.YtibjhcgfjhbgoaaGreatDoor.Va
