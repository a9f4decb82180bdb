/-
  Contract of binaries.
-/
import Derived.Test.YtibjhcgfjhbgoaaGreatDoorVf
namespace Go.Proofs.YtibjhcgfjhbgoaaGreatDoor.Va
open Go Go.RowKit Mp

theorem right_at (k n : Int) (s : ByteArray) (b : Bool) (h : rightB k n s = b) (hm : s.size ≤ maxLen) (w : World) (hB : Bnds w) :
    Calls Tryz.prog 10 #[vv k n s] w fun e w' => e = .returned (.bool b) ∧ Below w.heap.size w w' :=
  (right_any k n s w hm hB).mono fun e w' ⟨he, hb⟩ => ⟨by rw [he, h], hb⟩
structure eqAt (w : World) (B : Nat) : Prop where
  map : w.heap[B]? = some (.map #[ent 11 (fn 54) 0] 1)
theorem eqAt.below {w w' : World} {B C : Nat} (h : eqAt w B) (hb : Below C w w') (hC : B + 1 ≤ C) : eqAt w' B := ⟨(hb.block _ (by omega)).trans h.map⟩
theorem below2 (w : World) (o1 o2 : Obj) : Below w.heap.size w ((w.alloc o1).alloc o2) :=
  ((Below.refl w.heap.size w).alloc (Nat.le_refl _) o1).alloc (by simp) o2
def Someplace (P : World → Nat → Prop) (w : World) (e : Ending) (w' : World) : Prop := ∃ B, e = .returned (.map (some B)) ∧ w.heap.size ≤ B ∧ P w' B ∧ Below w.heap.size w w'
theorem Below.szle {w w1 : World} {o1 o2 : Obj} (hb : Below ((w.alloc o1).alloc o2).heap.size ((w.alloc o1).alloc o2) w1) : w.heap.size + 1 + 1 ≤ w1.heap.size := by
  have := hb.size; simpa only [World.size_alloc] using this
theorem two_owns {w w1 : World} {x0 x1 x2 y0 y1 y2 : Value} {T : TypeId} (hb : Below ((w.alloc (.cells #[x0, x1, x2] T)).alloc (.cells #[y0, y1, y2] T)).heap.size ((w.alloc (.cells #[x0, x1, x2] T)).alloc (.cells #[y0, y1, y2] T)) w1) :
    Own w1 w.heap.size #[x0, x1, x2] T ∧ Own w1 (w.heap.size + 1) #[y0, y1, y2] T ∧ Below w.heap.size w w1 := by
  refine ⟨((Own.new _ _ _).alloc _).below hb (by simp only [World.size_alloc]; omega), ?_, (below2 _ _ _).trans (hb.mono (by simp only [World.size_alloc]; omega))⟩
  have h := (Own.new (w.alloc (.cells #[x0, x1, x2] T)) #[y0, y1, y2] T).below hb (by simp only [World.size_alloc]; omega)
  simpa only [World.size_alloc] using h
set_option maxRecDepth 3000 in
theorem binaries_a (ka : Int) (kb : Int) (na nb : Int) (sa sb : ByteArray) (w : World) (hB : Bnds w) (hma : sa.size ≤ maxLen) (_hmb : sb.size ≤ maxLen) (ha : rightB ka na sa = false) :
    Calls Tryz.prog 36 #[vv ka na sa, vv kb nb sb] w fun e w' => e = .returned (.map none) ∧ Below w.heap.size w w' := by
  have CA := Lib.hid (fun w hB => right_at _ na sa false ha hma w hB)
  clear ha
  have HB := Lib.hid hB
  clear hB hma
  unfold vv
  go_enter Tryz.func36, Tryz.ntmps36
  go_wp2_with fail
  refine (CA.out _ (HB.out.below (below2 _ _ _) HB.out.size)).mono ?_
  rintro e w1 ⟨rfl, hb1⟩
  obtain ⟨o1, o2, g1⟩ := two_owns hb1
  have z1 := Below.szle hb1
  obtain ⟨k0, k1, k2, _, y1⟩ := o1.facts
  obtain ⟨l0, l1, l2, _, y2⟩ := o2.facts
  have O1 := Lib.hid o1
  have O2 := Lib.hid o2
  have G1 := Lib.hid g1
  clear hb1 o1 o2 g1
  go_wp2_with fail
  go_ret
  exact ⟨rfl, G1.out⟩
set_option maxRecDepth 3000 in
theorem binaries_b (ka : Int) (kb : Int) (na nb : Int) (sa sb : ByteArray) (w : World) (hB : Bnds w) (hma : sa.size ≤ maxLen) (hmb : sb.size ≤ maxLen) (ha : rightB ka na sa = true) (hb : rightB kb nb sb = false) :
    Calls Tryz.prog 36 #[vv ka na sa, vv kb nb sb] w fun e w' => e = .returned (.map none) ∧ Below w.heap.size w w' := by
  have CA := Lib.hid (fun w hB => right_at _ na sa true ha hma w hB)
  have CB := Lib.hid (fun w hB => right_at _ nb sb false hb hmb w hB)
  clear hb
  clear ha
  have HB := Lib.hid hB
  clear hB hma hmb
  unfold vv
  go_enter Tryz.func36, Tryz.ntmps36
  go_wp2_with fail
  refine (CA.out _ (HB.out.below (below2 _ _ _) HB.out.size)).mono ?_
  rintro e w1 ⟨rfl, hb1⟩
  obtain ⟨o1, o2, g1⟩ := two_owns hb1
  have z1 := Below.szle hb1
  obtain ⟨k0, k1, k2, _, y1⟩ := o1.facts
  obtain ⟨l0, l1, l2, _, y2⟩ := o2.facts
  have O1 := Lib.hid o1
  have O2 := Lib.hid o2
  have G1 := Lib.hid g1
  clear hb1 o1 o2 g1
  go_wp2_with fail
  refine (CB.out _ (HB.out.below G1.out HB.out.size)).mono ?_
  rintro e w2 ⟨rfl, hb2⟩
  obtain ⟨k0, k1, k2, _, y1⟩ := (O1.out.below hb2 y1).facts
  obtain ⟨l0, l1, l2, _, y2⟩ := (O2.out.below hb2 y2).facts
  have g2 := G1.out.trans (hb2.mono (by omega))
  have G2 := Lib.hid g2
  have z2 := g2.size
  clear hb2 G1 O1 O2 CA CB HB g2
  go_wp2_with fail
  go_ret
  exact ⟨rfl, G2.out⟩
set_option maxRecDepth 3000 in
theorem binaries_bools (na nb : Int) (sa sb : ByteArray) (w : World) (hB : Bnds w) (hma : sa.size ≤ maxLen) (hmb : sb.size ≤ maxLen) (ha : rightB 2 na sa = true) (hb : rightB 2 nb sb = true) :
    Calls Tryz.prog 36 #[vv 2 na sa, vv 2 nb sb] w (Someplace boolsAt w) := by
  have CA := Lib.hid (fun w hB => right_at _ na sa true ha hma w hB)
  have CB := Lib.hid (fun w hB => right_at _ nb sb true hb hmb w hB)
  clear hb
  clear ha
  have HB := Lib.hid hB
  clear hB hma hmb
  unfold vv
  go_enter Tryz.func36, Tryz.ntmps36
  go_wp2_with fail
  refine (CA.out _ (HB.out.below (below2 _ _ _) HB.out.size)).mono ?_
  rintro e w1 ⟨rfl, hb1⟩
  obtain ⟨o1, o2, g1⟩ := two_owns hb1
  have z1 := Below.szle hb1
  obtain ⟨k0, k1, k2, _, y1⟩ := o1.facts
  obtain ⟨l0, l1, l2, _, y2⟩ := o2.facts
  have O1 := Lib.hid o1
  have O2 := Lib.hid o2
  have G1 := Lib.hid g1
  clear hb1 o1 o2 g1
  go_wp2_with fail
  refine (CB.out _ (HB.out.below G1.out HB.out.size)).mono ?_
  rintro e w2 ⟨rfl, hb2⟩
  obtain ⟨k0, k1, k2, _, y1⟩ := (O1.out.below hb2 y1).facts
  obtain ⟨l0, l1, l2, _, y2⟩ := (O2.out.below hb2 y2).facts
  have g2 := G1.out.trans (hb2.mono (by omega))
  have G2 := Lib.hid g2
  have z2 := g2.size
  clear hb2 G1 O1 O2 CA CB HB g2
  go_wp2_with fail
  refine (bools_any _).mono ?_
  rintro e w3 ⟨rfl, h3, hb3⟩
  have H3 := Lib.hid h3
  have B3 := Lib.hid hb3
  clear h3 hb3
  go_wp2_with fail
  go_ret
  exact ⟨_, rfl, z2, H3.out, G2.out.trans (B3.out.mono z2)⟩
set_option maxRecDepth 3000 in
theorem binaries_ints (na nb : Int) (sa sb : ByteArray) (w : World) (hB : Bnds w) (hma : sa.size ≤ maxLen) (hmb : sb.size ≤ maxLen) (ha : rightB 3 na sa = true) (hb : rightB 3 nb sb = true) :
    Calls Tryz.prog 36 #[vv 3 na sa, vv 3 nb sb] w (Someplace intsAt w) := by
  have CA := Lib.hid (fun w hB => right_at _ na sa true ha hma w hB)
  have CB := Lib.hid (fun w hB => right_at _ nb sb true hb hmb w hB)
  clear hb
  clear ha
  have HB := Lib.hid hB
  clear hB hma hmb
  unfold vv
  go_enter Tryz.func36, Tryz.ntmps36
  go_wp2_with fail
  refine (CA.out _ (HB.out.below (below2 _ _ _) HB.out.size)).mono ?_
  rintro e w1 ⟨rfl, hb1⟩
  obtain ⟨o1, o2, g1⟩ := two_owns hb1
  have z1 := Below.szle hb1
  obtain ⟨k0, k1, k2, _, y1⟩ := o1.facts
  obtain ⟨l0, l1, l2, _, y2⟩ := o2.facts
  have O1 := Lib.hid o1
  have O2 := Lib.hid o2
  have G1 := Lib.hid g1
  clear hb1 o1 o2 g1
  go_wp2_with fail
  refine (CB.out _ (HB.out.below G1.out HB.out.size)).mono ?_
  rintro e w2 ⟨rfl, hb2⟩
  obtain ⟨k0, k1, k2, _, y1⟩ := (O1.out.below hb2 y1).facts
  obtain ⟨l0, l1, l2, _, y2⟩ := (O2.out.below hb2 y2).facts
  have g2 := G1.out.trans (hb2.mono (by omega))
  have G2 := Lib.hid g2
  have z2 := g2.size
  clear hb2 G1 O1 O2 CA CB HB g2
  go_wp2_with fail
  refine (ints_any _).mono ?_
  rintro e w3 ⟨rfl, h3, hb3⟩
  have H3 := Lib.hid h3
  have B3 := Lib.hid hb3
  clear h3 hb3
  go_wp2_with fail
  go_ret
  exact ⟨_, rfl, z2, H3.out, G2.out.trans (B3.out.mono z2)⟩
set_option maxRecDepth 3000 in
theorem binaries_strs (na nb : Int) (sa sb : ByteArray) (w : World) (hB : Bnds w) (hma : sa.size ≤ maxLen) (hmb : sb.size ≤ maxLen) (ha : rightB 4 na sa = true) (hb : rightB 4 nb sb = true) :
    Calls Tryz.prog 36 #[vv 4 na sa, vv 4 nb sb] w (Someplace strsAt w) := by
  have CA := Lib.hid (fun w hB => right_at _ na sa true ha hma w hB)
  have CB := Lib.hid (fun w hB => right_at _ nb sb true hb hmb w hB)
  clear hb
  clear ha
  have HB := Lib.hid hB
  clear hB hma hmb
  unfold vv
  go_enter Tryz.func36, Tryz.ntmps36
  go_wp2_with fail
  refine (CA.out _ (HB.out.below (below2 _ _ _) HB.out.size)).mono ?_
  rintro e w1 ⟨rfl, hb1⟩
  obtain ⟨o1, o2, g1⟩ := two_owns hb1
  have z1 := Below.szle hb1
  obtain ⟨k0, k1, k2, _, y1⟩ := o1.facts
  obtain ⟨l0, l1, l2, _, y2⟩ := o2.facts
  have O1 := Lib.hid o1
  have O2 := Lib.hid o2
  have G1 := Lib.hid g1
  clear hb1 o1 o2 g1
  go_wp2_with fail
  refine (CB.out _ (HB.out.below G1.out HB.out.size)).mono ?_
  rintro e w2 ⟨rfl, hb2⟩
  obtain ⟨k0, k1, k2, _, y1⟩ := (O1.out.below hb2 y1).facts
  obtain ⟨l0, l1, l2, _, y2⟩ := (O2.out.below hb2 y2).facts
  have g2 := G1.out.trans (hb2.mono (by omega))
  have G2 := Lib.hid g2
  have z2 := g2.size
  clear hb2 G1 O1 O2 CA CB HB g2
  go_wp2_with fail
  refine (strs_any _).mono ?_
  rintro e w3 ⟨rfl, h3, hb3⟩
  have H3 := Lib.hid h3
  have B3 := Lib.hid hb3
  clear h3 hb3
  go_wp2_with fail
  go_ret
  exact ⟨_, rfl, z2, H3.out, G2.out.trans (B3.out.mono z2)⟩
set_option maxRecDepth 3000 in
theorem binaries_apart (ka : Int) (kb : Int) (na nb : Int) (sa sb : ByteArray) (w : World) (hB : Bnds w) (hma : sa.size ≤ maxLen) (hmb : sb.size ≤ maxLen) (ha : rightB ka na sa = true) (hb : rightB kb nb sb = true) (hk : (ka == kb) = false) :
    Calls Tryz.prog 36 #[vv ka na sa, vv kb nb sb] w (Someplace eqAt w) := by
  have CA := Lib.hid (fun w hB => right_at _ na sa true ha hma w hB)
  have CB := Lib.hid (fun w hB => right_at _ nb sb true hb hmb w hB)
  clear hb
  clear ha
  have hmm := @run_makeMap Tryz.prog
  have ri := fun (w : World) (b : Nat) (k : Int) (v : Value) => run_ins_if (P := Tryz.prog) Tryz.underlying62 Tryz.underlying3 w b k v
  have HB := Lib.hid hB
  clear hB hma hmb
  unfold vv
  go_enter Tryz.func36, Tryz.ntmps36
  go_wp2_with fail
  refine (CA.out _ (HB.out.below (below2 _ _ _) HB.out.size)).mono ?_
  rintro e w1 ⟨rfl, hb1⟩
  obtain ⟨o1, o2, g1⟩ := two_owns hb1
  have z1 := Below.szle hb1
  obtain ⟨k0, k1, k2, _, y1⟩ := o1.facts
  obtain ⟨l0, l1, l2, _, y2⟩ := o2.facts
  have O1 := Lib.hid o1
  have O2 := Lib.hid o2
  have G1 := Lib.hid g1
  clear hb1 o1 o2 g1
  go_wp2_with fail
  refine (CB.out _ (HB.out.below G1.out HB.out.size)).mono ?_
  rintro e w2 ⟨rfl, hb2⟩
  obtain ⟨k0, k1, k2, _, y1⟩ := (O1.out.below hb2 y1).facts
  obtain ⟨l0, l1, l2, _, y2⟩ := (O2.out.below hb2 y2).facts
  have g2 := G1.out.trans (hb2.mono (by omega))
  have G2 := Lib.hid g2
  have z2 := g2.size
  clear hb2 G1 O1 O2 CA CB HB g2
  go_wp2_with fail
  go_ret
  exact ⟨_, rfl, z2, ⟨by rw [heap_at _ _ _ rfl]; rfl⟩, G2.out.alloc z2 _⟩
set_option maxRecDepth 3000 in
theorem binaries_other (ka : Int) (na nb : Int) (sa sb : ByteArray) (w : World) (hB : Bnds w) (hma : sa.size ≤ maxLen) (hmb : sb.size ≤ maxLen) (ha : rightB ka na sa = true) (hb : rightB ka nb sb = true) (h2 : (ka == 2) = false) (h3 : (ka == 3) = false) (h4 : (ka == 4) = false) :
    Calls Tryz.prog 36 #[vv ka na sa, vv ka nb sb] w (Someplace eqAt w) := by
  have CA := Lib.hid (fun w hB => right_at _ na sa true ha hma w hB)
  have CB := Lib.hid (fun w hB => right_at _ nb sb true hb hmb w hB)
  clear hb
  clear ha
  have hmm := @run_makeMap Tryz.prog
  have ri := fun (w : World) (b : Nat) (k : Int) (v : Value) => run_ins_if (P := Tryz.prog) Tryz.underlying62 Tryz.underlying3 w b k v
  have HB := Lib.hid hB
  clear hB hma hmb
  unfold vv
  go_enter Tryz.func36, Tryz.ntmps36
  go_wp2_with fail
  refine (CA.out _ (HB.out.below (below2 _ _ _) HB.out.size)).mono ?_
  rintro e w1 ⟨rfl, hb1⟩
  obtain ⟨o1, o2, g1⟩ := two_owns hb1
  have z1 := Below.szle hb1
  obtain ⟨k0, k1, k2, _, y1⟩ := o1.facts
  obtain ⟨l0, l1, l2, _, y2⟩ := o2.facts
  have O1 := Lib.hid o1
  have O2 := Lib.hid o2
  have G1 := Lib.hid g1
  clear hb1 o1 o2 g1
  go_wp2_with fail
  refine (CB.out _ (HB.out.below G1.out HB.out.size)).mono ?_
  rintro e w2 ⟨rfl, hb2⟩
  obtain ⟨k0, k1, k2, _, y1⟩ := (O1.out.below hb2 y1).facts
  obtain ⟨l0, l1, l2, _, y2⟩ := (O2.out.below hb2 y2).facts
  have g2 := G1.out.trans (hb2.mono (by omega))
  have G2 := Lib.hid g2
  have z2 := g2.size
  clear hb2 G1 O1 O2 CA CB HB g2
  go_wp2_with fail
  go_ret
  exact ⟨_, rfl, z2, ⟨by rw [heap_at _ _ _ rfl]; rfl⟩, G2.out.alloc z2 _⟩
end Go.Proofs.YtibjhcgfjhbgoaaGreatDoor.Va
