/-
  Contracts of unaries, Unary, Truth.
-/
import Derived.Test.YtfgdloliconbaaaGreatDoorVp
namespace Go.Proofs.YtfgdloliconbaaaGreatDoor.Va
open Go Go.RowKit Mp

set_option maxRecDepth 3000 in
theorem clo_not (k n : Int) (s : ByteArray) (w : World) :
    Calls Tryz.prog 57 #[vv k n s] w fun e w' => e = .returned (vv 2 (bi (n == 0)) es) ∧ Below w.heap.size w w' := by
  have h1 : True := trivial
  unfold vv
  go_enter Tryz.func57, Tryz.ntmps57
  go_wp2_with fail
  refine (truth_any _ _).mono ?_
  rintro e w1 ⟨rfl, hb1⟩
  have o1 := ((Own.new _ _ _).below hb1 (by simp only [World.size_alloc]; omega))
  simp only [World.size_alloc] at o1
  obtain ⟨k0, k1, k2, kf, kz⟩ := o1.facts
  have g1 := Lib.hid ((below2 _ _ _).trans (hb1.mono (by simp only [World.size_alloc]; omega)))
  clear hb1 o1
  unfold tv vv es
  go_wp2_with fail
  exact bodyPost_ret (v := vv 2 (bi (n == 0)) es) (by simp [results, Tryz.results57, go_sem, vv, es, k0, k1, k2]) rfl ⟨rfl, ((g1.out.setCell (by simp) _).setCell (by simp) _).setCell (by simp) _⟩
set_option maxRecDepth 3000 in
theorem clo_neg (k n : Int) (s : ByteArray) (w : World) (h : -1000000000000000 ≤ n ∧ n ≤ 1000000000000000) :
    Calls Tryz.prog 58 #[vv k n s] w fun e w' => e = .returned (vv 3 (-n) es) ∧ Below w.heap.size w w' := by
  obtain ⟨h1, h2⟩ := h
  unfold vv
  go_enter Tryz.func58, Tryz.ntmps58
  go_wp2_with fail
  refine (number_any _ _).mono ?_
  rintro e w1 ⟨rfl, hb1⟩
  have o1 := ((Own.new _ _ _).below hb1 (by simp only [World.size_alloc]; omega))
  simp only [World.size_alloc] at o1
  obtain ⟨k0, k1, k2, kf, kz⟩ := o1.facts
  have g1 := Lib.hid ((below2 _ _ _).trans (hb1.mono (by simp only [World.size_alloc]; omega)))
  clear hb1 o1
  unfold vv es
  go_wp2_with fail
  exact bodyPost_ret (v := vv 3 (-n) es) (by simp [results, Tryz.results58, go_sem, vv, es, k0, k1, k2]) rfl ⟨rfl, ((g1.out.setCell (by simp) _).setCell (by simp) _).setCell (by simp) _⟩
structure notAt (w : World) (B : Nat) : Prop where
  map : w.heap[B]? = some (.map #[ent 3 (fn 57) 0] 1)
structure negAt (w : World) (B : Nat) : Prop where
  map : w.heap[B]? = some (.map #[ent 4 (fn 58) 0] 1)
set_option maxRecDepth 3000 in
theorem unaries_wrong (k : Int) (n : Int) (s : ByteArray) (w : World) (hB : Bnds w) (hm : s.size ≤ maxLen) (hr : rightB k n s = false) :
    Calls Tryz.prog 41 #[vv k n s] w fun e w' => e = .returned (.map none) ∧ Below w.heap.size w w' := by
  have C := Lib.hid (fun w hB => right_at _ n s false hr hm w hB)
  have HB := Lib.hid hB
  have hmm := @run_makeMap Tryz.prog
  have ri := fun (w : World) (b : Nat) (k : Int) (v : Value) => run_ins_if (P := Tryz.prog) Tryz.underlying65 Tryz.underlying3 w b k v
  clear hB hm hr
  unfold vv
  go_enter Tryz.func41, Tryz.ntmps41
  go_wp2_with fail
  refine (C.out _ (HB.out.below ((Below.refl _ _).alloc (Nat.le_refl _) _) HB.out.size)).mono ?_
  rintro e w1 ⟨rfl, hb1⟩
  obtain ⟨k0, k1, k2, _, kz⟩ := ((Own.new _ _ _).below hb1 (by simp only [World.size_alloc]; omega)).facts
  have g1 := ((Below.refl w.heap.size w).alloc (Nat.le_refl _) _).trans (hb1.mono (by simp only [World.size_alloc]; omega))
  have G1 := Lib.hid g1
  have z1 := g1.size
  clear hb1 g1
  go_wp2_with fail
  go_ret
  exact ⟨rfl, G1.out⟩
set_option maxRecDepth 3000 in
theorem unaries_not (n : Int) (s : ByteArray) (w : World) (hB : Bnds w) (hm : s.size ≤ maxLen) (hr : rightB 2 n s = true) :
    Calls Tryz.prog 41 #[vv 2 n s] w (Someplace notAt w) := by
  have C := Lib.hid (fun w hB => right_at _ n s true hr hm w hB)
  have HB := Lib.hid hB
  have hmm := @run_makeMap Tryz.prog
  have ri := fun (w : World) (b : Nat) (k : Int) (v : Value) => run_ins_if (P := Tryz.prog) Tryz.underlying65 Tryz.underlying3 w b k v
  clear hB hm hr
  unfold vv
  go_enter Tryz.func41, Tryz.ntmps41
  go_wp2_with fail
  refine (C.out _ (HB.out.below ((Below.refl _ _).alloc (Nat.le_refl _) _) HB.out.size)).mono ?_
  rintro e w1 ⟨rfl, hb1⟩
  obtain ⟨k0, k1, k2, _, kz⟩ := ((Own.new _ _ _).below hb1 (by simp only [World.size_alloc]; omega)).facts
  have g1 := ((Below.refl w.heap.size w).alloc (Nat.le_refl _) _).trans (hb1.mono (by simp only [World.size_alloc]; omega))
  have G1 := Lib.hid g1
  have z1 := g1.size
  clear hb1 g1
  go_wp2_with fail
  go_ret
  exact ⟨_, rfl, z1, ⟨by rw [heap_at _ _ _ rfl]; rfl⟩, G1.out.alloc z1 _⟩
set_option maxRecDepth 3000 in
theorem unaries_neg (n : Int) (s : ByteArray) (w : World) (hB : Bnds w) (hm : s.size ≤ maxLen) (hr : rightB 3 n s = true) :
    Calls Tryz.prog 41 #[vv 3 n s] w (Someplace negAt w) := by
  have C := Lib.hid (fun w hB => right_at _ n s true hr hm w hB)
  have HB := Lib.hid hB
  have hmm := @run_makeMap Tryz.prog
  have ri := fun (w : World) (b : Nat) (k : Int) (v : Value) => run_ins_if (P := Tryz.prog) Tryz.underlying65 Tryz.underlying3 w b k v
  clear hB hm hr
  unfold vv
  go_enter Tryz.func41, Tryz.ntmps41
  go_wp2_with fail
  refine (C.out _ (HB.out.below ((Below.refl _ _).alloc (Nat.le_refl _) _) HB.out.size)).mono ?_
  rintro e w1 ⟨rfl, hb1⟩
  obtain ⟨k0, k1, k2, _, kz⟩ := ((Own.new _ _ _).below hb1 (by simp only [World.size_alloc]; omega)).facts
  have g1 := ((Below.refl w.heap.size w).alloc (Nat.le_refl _) _).trans (hb1.mono (by simp only [World.size_alloc]; omega))
  have G1 := Lib.hid g1
  have z1 := g1.size
  clear hb1 g1
  go_wp2_with fail
  go_ret
  exact ⟨_, rfl, z1, ⟨by rw [heap_at _ _ _ rfl]; rfl⟩, G1.out.alloc z1 _⟩
set_option maxRecDepth 3000 in
theorem unaries_other (k : Int) (n : Int) (s : ByteArray) (w : World) (hB : Bnds w) (hm : s.size ≤ maxLen) (hr : rightB k n s = true) (h2 : (k == 2) = false) (h3 : (k == 3) = false) :
    Calls Tryz.prog 41 #[vv k n s] w fun e w' => e = .returned (.map none) ∧ Below w.heap.size w w' := by
  have C := Lib.hid (fun w hB => right_at _ n s true hr hm w hB)
  have HB := Lib.hid hB
  have hmm := @run_makeMap Tryz.prog
  have ri := fun (w : World) (b : Nat) (k : Int) (v : Value) => run_ins_if (P := Tryz.prog) Tryz.underlying65 Tryz.underlying3 w b k v
  clear hB hm hr
  unfold vv
  go_enter Tryz.func41, Tryz.ntmps41
  go_wp2_with fail
  refine (C.out _ (HB.out.below ((Below.refl _ _).alloc (Nat.le_refl _) _) HB.out.size)).mono ?_
  rintro e w1 ⟨rfl, hb1⟩
  obtain ⟨k0, k1, k2, _, kz⟩ := ((Own.new _ _ _).below hb1 (by simp only [World.size_alloc]; omega)).facts
  have g1 := ((Below.refl w.heap.size w).alloc (Nat.le_refl _) _).trans (hb1.mono (by simp only [World.size_alloc]; omega))
  have G1 := Lib.hid g1
  have z1 := g1.size
  clear hb1 g1
  go_wp2_with fail
  go_ret
  exact ⟨rfl, G1.out⟩
set_option maxRecDepth 3000 in
theorem unary_unset (op n : Int) (s : ByteArray) (w : World) :
    Calls Tryz.prog 18 #[.int .i64 op, vv 0 n s] w fun e w' => e = .returned (.tuple #[zv, .string unsetS]) ∧ Below w.heap.size w w' := by
  unfold vv
  go_enter Tryz.func18, Tryz.ntmps18
  go_wp2_with fail
  exact bodyPost_ret (v := .tuple #[zv, .string unsetS]) (by simp [results, Tryz.results18, go_sem, vv, es, zv, unsetS]) rfl ⟨rfl, below2 _ _ _⟩
set_option maxRecDepth 3000 in
theorem unary_nil (op k n : Int) (s : ByteArray) (w : World) (hB : Bnds w) (hk : (k == 0) = false)
    (hu : ∀ w, Bnds w → Calls Tryz.prog 41 #[vv k n s] w fun e w' => e = .returned (.map none) ∧ Below w.heap.size w w') :
    Calls Tryz.prog 18 #[.int .i64 op, vv k n s] w fun e w' => e = .returned (.tuple #[zv, .string typeS]) ∧ Below w.heap.size w w' := by
  have hl := fun (w : World) (k : Int) => run_look_nil (P := Tryz.prog) Tryz.underlying65 Tryz.underlying3 w (z := .nilFunc) (by kernel_rfl) k
  have HB := Lib.hid hB
  have C := Lib.hid hu
  clear hB hu
  unfold vv
  go_enter Tryz.func18, Tryz.ntmps18
  go_wp2_with fail
  refine (C.out _ (HB.out.below (below2 _ _ _) HB.out.size)).mono ?_
  rintro e w1 ⟨rfl, hb1⟩
  obtain ⟨o1, o2, g1⟩ := two_owns hb1
  obtain ⟨k0, k1, k2, _, y1⟩ := o1.facts
  obtain ⟨m0, m1, m2, mf, y2⟩ := o2.facts
  have G1 := Lib.hid g1
  clear hb1 o1 o2 g1
  go_wp2_with fail
  exact bodyPost_ret (v := .tuple #[zv, .string typeS]) (by simp [results, Tryz.results18, go_sem, vv, es, zv, typeS, m0, m1, m2]) rfl ⟨rfl, ((G1.out.setCell (by simp) _).setCell (by simp) _).setCell (by simp) _⟩
set_option maxRecDepth 3000 in
theorem unary_miss (P : World → Nat → Prop) (op k n : Int) (s : ByteArray) (w : World) (hB : Bnds w) (hk : (k == 0) = false)
    (hu : ∀ w, Bnds w → Calls Tryz.prog 41 #[vv k n s] w (Someplace P w))
    (hlook : ∀ w B, P w B → (Instr.lookup 65 (.map (some B)) (.int .i64 op) true).run Tryz.prog w = .ok (.tuple #[.nilFunc, .bool false]) w) :
    Calls Tryz.prog 18 #[.int .i64 op, vv k n s] w fun e w' => e = .returned (.tuple #[zv, .string typeS]) ∧ Below w.heap.size w w' := by
  have HB := Lib.hid hB
  have C := Lib.hid hu
  have HL := Lib.hid hlook
  clear hB hu hlook
  unfold vv
  go_enter Tryz.func18, Tryz.ntmps18
  go_wp2_with fail
  refine (C.out _ (HB.out.below (below2 _ _ _) HB.out.size)).mono ?_
  rintro e w1 ⟨B, rfl, _, hP, hb1⟩
  have hl := HL.out w1 B hP
  obtain ⟨o1, o2, g1⟩ := two_owns hb1
  obtain ⟨k0, k1, k2, _, y1⟩ := o1.facts
  obtain ⟨m0, m1, m2, mf, y2⟩ := o2.facts
  have G1 := Lib.hid g1
  clear hb1 o1 o2 g1 hP
  go_wp2_with fail
  exact bodyPost_ret (v := .tuple #[zv, .string typeS]) (by simp [results, Tryz.results18, go_sem, vv, es, zv, typeS, m0, m1, m2]) rfl ⟨rfl, ((G1.out.setCell (by simp) _).setCell (by simp) _).setCell (by simp) _⟩
set_option maxRecDepth 3000 in
theorem unary_not (n : Int) (s : ByteArray) (w : World) (hB : Bnds w)
    (hu : ∀ w, Bnds w → Calls Tryz.prog 41 #[vv 2 n s] w (Someplace notAt w))
    (hlook : ∀ w B, notAt w B → (Instr.lookup 65 (.map (some B)) (.int .i64 3) true).run Tryz.prog w = .ok (.tuple #[fn 57, .bool true]) w)
    (hcall : ∀ w, Calls Tryz.prog 57 #[vv 2 n s] w fun e w' => e = .returned (vv 2 (bi (n == 0)) es) ∧ Below w.heap.size w w') :
    Calls Tryz.prog 18 #[.int .i64 3, vv 2 n s] w fun e w' => e = .returned (.tuple #[vv 2 (bi (n == 0)) es, .string es]) ∧ Below w.heap.size w w' := by
  have HB := Lib.hid hB
  have C := Lib.hid hu
  have HL := Lib.hid hlook
  have HC := Lib.hid hcall
  clear hB hu hlook hcall
  unfold vv
  go_enter Tryz.func18, Tryz.ntmps18
  go_wp2_with fail
  refine (C.out _ (HB.out.below (below2 _ _ _) HB.out.size)).mono ?_
  rintro e w1 ⟨B, rfl, _, hP, hb1⟩
  have hl := HL.out w1 B hP
  unfold fn at hl
  obtain ⟨o1, o2, g1⟩ := two_owns hb1
  obtain ⟨k0, k1, k2, _, y1⟩ := o1.facts
  have O2 := Lib.hid o2
  have z2 := o2.lt
  have G0 := Lib.hid g1
  clear hb1 o1 o2 g1 hP
  go_wp2_with fail
  refine (HC.out _).mono ?_
  rintro e w2 ⟨rfl, hb2⟩
  obtain ⟨m0, m1, m2, mf, y2⟩ := (O2.out.below hb2 z2).facts
  have g1 := G0.out.trans (hb2.mono (by omega))
  have G1 := Lib.hid g1
  clear hb2 g1 G0 O2 HB C HL HC hl k0 k1 k2
  unfold vv
  go_wp2_with fail
  exact bodyPost_ret (v := .tuple #[vv 2 (bi (n == 0)) es, .string es]) (by simp [results, Tryz.results18, go_sem, vv, es, m0, m1, m2]) rfl ⟨rfl, ((G1.out.setCell (by simp) _).setCell (by simp) _).setCell (by simp) _⟩
set_option maxRecDepth 3000 in
theorem unary_neg (n : Int) (s : ByteArray) (w : World) (hB : Bnds w)
    (hu : ∀ w, Bnds w → Calls Tryz.prog 41 #[vv 3 n s] w (Someplace negAt w))
    (hlook : ∀ w B, negAt w B → (Instr.lookup 65 (.map (some B)) (.int .i64 4) true).run Tryz.prog w = .ok (.tuple #[fn 58, .bool true]) w)
    (hcall : ∀ w, Calls Tryz.prog 58 #[vv 3 n s] w fun e w' => e = .returned (vv 3 (-n) es) ∧ Below w.heap.size w w') :
    Calls Tryz.prog 18 #[.int .i64 4, vv 3 n s] w fun e w' => e = .returned (.tuple #[vv 3 (-n) es, .string es]) ∧ Below w.heap.size w w' := by
  have HB := Lib.hid hB
  have C := Lib.hid hu
  have HL := Lib.hid hlook
  have HC := Lib.hid hcall
  clear hB hu hlook hcall
  unfold vv
  go_enter Tryz.func18, Tryz.ntmps18
  go_wp2_with fail
  refine (C.out _ (HB.out.below (below2 _ _ _) HB.out.size)).mono ?_
  rintro e w1 ⟨B, rfl, _, hP, hb1⟩
  have hl := HL.out w1 B hP
  unfold fn at hl
  obtain ⟨o1, o2, g1⟩ := two_owns hb1
  obtain ⟨k0, k1, k2, _, y1⟩ := o1.facts
  have O2 := Lib.hid o2
  have z2 := o2.lt
  have G0 := Lib.hid g1
  clear hb1 o1 o2 g1 hP
  go_wp2_with fail
  refine (HC.out _).mono ?_
  rintro e w2 ⟨rfl, hb2⟩
  obtain ⟨m0, m1, m2, mf, y2⟩ := (O2.out.below hb2 z2).facts
  have g1 := G0.out.trans (hb2.mono (by omega))
  have G1 := Lib.hid g1
  clear hb2 g1 G0 O2 HB C HL HC hl k0 k1 k2
  unfold vv
  go_wp2_with fail
  exact bodyPost_ret (v := .tuple #[vv 3 (-n) es, .string es]) (by simp [results, Tryz.results18, go_sem, vv, es, m0, m1, m2]) rfl ⟨rfl, ((G1.out.setCell (by simp) _).setCell (by simp) _).setCell (by simp) _⟩
def un (op : Int) (a : V3) : V3 × ByteArray :=
  if a.1 = 0 then (z3, unsetS)
  else if right3 a = false then (z3, typeS)
  else if a.1 = 2 ∧ op = 3 then (b3 (a.2.1 == 0), es)
  else if a.1 = 3 ∧ op = 4 then (i3 (-a.2.1), es)
  else (z3, typeS)
theorem miss1 (k op : Int) (v : Value) (c : Nat) (h : op ≠ k) : getIn [ent k v c] op = none := by
  simp [getIn, ent, keyIs_ne _ _ (Ne.symm h)]
theorem look_not (w : World) (B : Nat) (h : notAt w B) (op : Int) : (Instr.lookup 65 (.map (some B)) (.int .i64 op) true).run Tryz.prog w = .ok (.tuple #[(getIn [ent 3 (fn 57) 0] op).getD .nilFunc, .bool (getIn [ent 3 (fn 57) 0] op).isSome]) w :=
  run_look (P := Tryz.prog) Tryz.underlying65 Tryz.underlying3 w (z := .nilFunc) (by kernel_rfl) B op _ _ h.map rfl
theorem look_neg (w : World) (B : Nat) (h : negAt w B) (op : Int) : (Instr.lookup 65 (.map (some B)) (.int .i64 op) true).run Tryz.prog w = .ok (.tuple #[(getIn [ent 4 (fn 58) 0] op).getD .nilFunc, .bool (getIn [ent 4 (fn 58) 0] op).isSome]) w :=
  run_look (P := Tryz.prog) Tryz.underlying65 Tryz.underlying3 w (z := .nilFunc) (by kernel_rfl) B op _ _ h.map rfl
theorem unary_any (op : Int) (a : V3) (w : World) (hB : Bnds w) (hm : a.2.2.size ≤ maxLen) :
    Calls Tryz.prog 18 #[.int .i64 op, a.val] w (Gives (un op a) w) := by
  obtain ⟨k, n, s⟩ := a
  simp only at hm
  show Calls Tryz.prog 18 #[.int .i64 op, vv k n s] w _
  unfold un right3
  simp only
  by_cases h0 : k = 0
  · subst h0; rw [if_pos rfl]; exact unary_unset op n s w
  rw [if_neg h0]
  have hk0 : (k == 0) = false := by simpa using h0
  cases hr : rightB k n s
  · rw [if_pos rfl]; exact unary_nil op k n s w hB hk0 (fun w hB => unaries_wrong k n s w hB hm hr)
  rw [if_neg (by decide)]
  by_cases h2 : k = 2
  · subst h2
    by_cases ho : op = 3
    · subst ho
      rw [if_pos ⟨rfl, rfl⟩]
      exact unary_not n s w hB (fun w hB => unaries_not n s w hB hm hr) (fun w B h => look_not w B h 3) (fun w => clo_not 2 n s w)
    · rw [if_neg (by omega), if_neg (by omega)]
      exact unary_miss notAt op 2 n s w hB rfl (fun w hB => unaries_not n s w hB hm hr) (fun w B h => by rw [look_not w B h op, miss1 _ _ _ _ ho]; rfl)
  by_cases h3 : k = 3
  · subst h3
    by_cases ho : op = 4
    · subst ho
      rw [if_neg (by omega), if_pos ⟨rfl, rfl⟩]
      exact unary_neg n s w hB (fun w hB => unaries_neg n s w hB hm hr) (fun w B h => look_neg w B h 4) (fun w => clo_neg 3 n s w (int_bd hr))
    · rw [if_neg (by omega), if_neg (by omega)]
      exact unary_miss negAt op 3 n s w hB rfl (fun w hB => unaries_neg n s w hB hm hr) (fun w B h => by rw [look_neg w B h op, miss1 _ _ _ _ ho]; rfl)
  · rw [if_neg (by omega), if_neg (by omega)]
    exact unary_nil op k n s w hB hk0 (fun w hB => unaries_other k n s w hB hm hr (by simpa using h2) (by simpa using h3))
def truth3 (a : V3) : Bool × Bool := if a.1 = 2 ∧ right3 a = true then (a.2.1 == 1, true) else (false, false)
set_option maxRecDepth 3000 in
theorem truth_other (k : Int) (n : Int) (s : ByteArray) (w : World) (_hB : Bnds w) (_hm : s.size ≤ maxLen) (hk : (k == 2) = false) :
    Calls Tryz.prog 20 #[vv k n s] w fun e w' => e = .returned (.tuple #[.bool false, .bool false]) ∧ Below w.heap.size w w' := by
  clear _hB _hm
  unfold vv
  go_enter Tryz.func20, Tryz.ntmps20
  go_wp2_with fail
  go_ret2
  exact ⟨rfl, (Below.refl _ _).alloc (Nat.le_refl _) _⟩
set_option maxRecDepth 3000 in
theorem truth_wrong (n : Int) (s : ByteArray) (w : World) (hB : Bnds w) (hm : s.size ≤ maxLen) (hr : rightB 2 n s = false) :
    Calls Tryz.prog 20 #[vv 2 n s] w fun e w' => e = .returned (.tuple #[.bool false, .bool false]) ∧ Below w.heap.size w w' := by
  have C := Lib.hid (fun w hB => right_at _ n s false hr hm w hB)
  have HB := Lib.hid hB
  clear hB hm hr
  unfold vv
  go_enter Tryz.func20, Tryz.ntmps20
  go_wp2_with fail
  refine (C.out _ (HB.out.below ((Below.refl _ _).alloc (Nat.le_refl _) _) HB.out.size)).mono ?_
  rintro e w1 ⟨rfl, hb1⟩
  obtain ⟨k0, k1, k2, _, kz⟩ := ((Own.new _ _ _).below hb1 (by simp only [World.size_alloc]; omega)).facts
  have G1 := Lib.hid (((Below.refl w.heap.size w).alloc (Nat.le_refl _) _).trans (hb1.mono (by simp only [World.size_alloc]; omega)))
  clear hb1
  go_wp2_with fail
  go_ret2
  exact ⟨rfl, G1.out⟩
set_option maxRecDepth 3000 in
theorem truth_right (n : Int) (s : ByteArray) (w : World) (hB : Bnds w) (hm : s.size ≤ maxLen) (hr : rightB 2 n s = true) :
    Calls Tryz.prog 20 #[vv 2 n s] w fun e w' => e = .returned (.tuple #[.bool (n == 1), .bool true]) ∧ Below w.heap.size w w' := by
  have C := Lib.hid (fun w hB => right_at _ n s true hr hm w hB)
  have HB := Lib.hid hB
  clear hB hm hr
  unfold vv
  go_enter Tryz.func20, Tryz.ntmps20
  go_wp2_with fail
  refine (C.out _ (HB.out.below ((Below.refl _ _).alloc (Nat.le_refl _) _) HB.out.size)).mono ?_
  rintro e w1 ⟨rfl, hb1⟩
  obtain ⟨k0, k1, k2, _, kz⟩ := ((Own.new _ _ _).below hb1 (by simp only [World.size_alloc]; omega)).facts
  have G1 := Lib.hid (((Below.refl w.heap.size w).alloc (Nat.le_refl _) _).trans (hb1.mono (by simp only [World.size_alloc]; omega)))
  clear hb1
  go_wp2_with fail
  go_ret2
  exact ⟨rfl, G1.out⟩
theorem truth3_any (a : V3) (w : World) (hB : Bnds w) (hm : a.2.2.size ≤ maxLen) :
    Calls Tryz.prog 20 #[a.val] w fun e w' => e = .returned (.tuple #[.bool (truth3 a).1, .bool (truth3 a).2]) ∧ Below w.heap.size w w' := by
  obtain ⟨k, n, s⟩ := a
  simp only at hm
  show Calls Tryz.prog 20 #[vv k n s] w _
  unfold truth3 right3
  simp only
  by_cases h2 : k = 2
  · subst h2
    cases hr : rightB 2 n s
    · rw [if_neg (by simp)]; exact truth_wrong n s w hB hm hr
    · rw [if_pos ⟨rfl, rfl⟩]; exact truth_right n s w hB hm hr
  · rw [if_neg (by simp [h2])]; exact truth_other k n s w hB hm (by simpa using h2)
end Go.Proofs.YtfgdloliconbaaaGreatDoor.Va
