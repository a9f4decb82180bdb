/-
  slices.ContainsFunc for operands that are unset.
  Contract of operand.
  Contracts of Deref and Len.
  Operands as data; Deref and Len with their faults.
-/
import Derived.Test.YtkdpcnikgdbmaaaGreatDoorHn
namespace Go.Proofs.YtkdpcnikgdbmaaaGreatDoor.Hp
open Go Go.RowKit Go.Maps Va

theorem unset_any (v : Val) (w : World) : Calls Tryz.prog 100 #[valV v] w fun e w' => e = .returned (.bool (v.k == 0)) ∧ Below w.heap.size w w' := by
  obtain ⟨k, n, s⟩ := v
  unfold valV
  simp only
  go_enter Tryz.func100, Tryz.ntmps100
  go_wp2_with fail
  go_ret
  exact ⟨rfl, (Below.refl _ w).alloc (Nat.le_refl _) _⟩
theorem any_stop {l : List Val} {k : Nat} (h : k < l.length) (e : (l[k].k == 0) = true) : l.any (fun v => v.k == 0) = true := List.any_eq_true.2 ⟨_, List.getElem_mem h, e⟩
theorem any_snoc {l : List Val} {k : Nat} (h : k < l.length) : (l.take (k + 1)).any (fun v => v.k == 0) = ((l.take k).any (fun v => v.k == 0) || (l[k].k == 0)) := by
  rw [List.take_succ_eq_append_getElem h, List.any_append]; simp
set_option maxHeartbeats 1000000 in
theorem indexU_any (P : Nat → Prop) (A : Option Addr) (l : List Val) (c : Nat) (w : World) (h : ValsAt w P A l) (hP : ∀ b, P b → b < w.heap.size) (hl : l.length ≤ 4398046511104) :
    Calls Tryz.prog 116 #[.slice A l.length c, .func (.func 100) #[] #[]] w fun e w' => (∃ i : Int, e = .returned (.int .i64 i) ∧ decide (0 ≤ i) = l.any (fun v => v.k == 0)) ∧ Below w.heap.size w w' := by
  have H := Lib.hid h
  have HP := Lib.hid hP
  clear h hP
  go_enter Tryz.func116, Tryz.ntmps116
  go_wp2_with fail
  go_loopw [8] (fun i wr => ∃ k : Nat, k ≤ l.length ∧ i = .int .i64 k ∧ Hid ((l.take k).any (fun v => v.k == 0) = false) ∧ Hid (Below w.heap.size w wr)) (fun i _ => l.length - (intOf i).toNat)
  case atStart => exact ⟨0, by omega, rfl, Lib.hid rfl, Lib.hid (Below.refl _ _)⟩
  case round =>
    obtain ⟨k, hk, rfl, ha, hw⟩ := hrel
    by_cases hlt : k < l.length
    · have hg := List.getElem?_eq_getElem hlt
      obtain ⟨b, o, rfl, hb, c0, c1, c2⟩ := H.out.low HP.out hw.out k _ hg
      have SS := Lib.hid (any_stop hlt)
      have SN := Lib.hid (any_snoc hlt)
      have UN := Lib.hid (unset_any l[k])
      have ki : (k : Int) < l.length := by omega
      generalize l[k] = v at *
      clear hg hb
      obtain ⟨vk, vn, vs⟩ := v
      unfold valV at UN
      simp only at c0 c1 c2 UN
      go_wp2_with fail
      refine (UN.out _).mono ?_
      rintro e w2 ⟨rfl, hb⟩
      have HW := Lib.hid (hw.out.trans (hb.mono hw.out.size))
      clear hb hw
      cases hr : (vk == 0)
      · have A2 := Lib.hid (show (l.take (k + 1)).any (fun v => v.k == 0) = false by rw [SN.out, ha.out]; exact hr)
        clear hr
        go_wp2_with fail
        go_roundw
        case rel => exact ⟨k + 1, by omega, by go_num, A2, HW⟩
        case measure => simp [intOf]; omega
      · have E2 := Lib.hid (SS.out hr)
        clear hr
        go_wp2_with fail
        go_ret
        exact ⟨⟨k, rfl, by rw [E2.out]; simp⟩, HW.out⟩
    · obtain rfl : k = l.length := by omega
      have E2 := Lib.hid (show l.any (fun v => v.k == 0) = false by have := ha.out; rw [List.take_length] at this; exact this)
      go_wp2_with fail
      go_ret
      exact ⟨⟨-1, rfl, by rw [E2.out]; rfl⟩, hw.out⟩
theorem contU_any (P : Nat → Prop) (A : Option Addr) (l : List Val) (n c : Nat) (w : World) (hn : l.length = n) (h : ValsAt w P A l) (hP : ∀ b, P b → b < w.heap.size) (hl : n ≤ 4398046511104) :
    Calls Tryz.prog 101 #[.slice A n c, .func (.func 100) #[] #[]] w fun e w' => e = .returned (.bool (l.any (fun v => v.k == 0))) ∧ Below w.heap.size w w' := by
  subst hn
  have IX := Lib.hid (indexU_any P A l c w h hP hl)
  clear h hP
  go_enter Tryz.func101, Tryz.ntmps101
  go_wp2_with fail
  refine IX.out.mono ?_
  rintro e w2 ⟨⟨i, rfl, hi⟩, hb⟩
  have HI := Lib.hid hi
  have HB := Lib.hid hb
  clear hi hb
  go_wp2_with fail
  go_ret
  exact ⟨ret_bool HI.out, HB.out⟩
end Go.Proofs.YtkdpcnikgdbmaaaGreatDoor.Hp
namespace Go.Proofs.YtkdpcnikgdbmaaaGreatDoor.Hp
open Go Go.RowKit Go.Maps Va

def sUnset : ByteArray := ⟨#[117, 110, 115, 101, 116]⟩
def sType : ByteArray := ⟨#[116, 121, 112, 101]⟩
set_option maxHeartbeats 1000000 in
theorem oper_unset (P : Nat → Prop) (p : Value) (kind : Int) (v : Val) (A : Option Addr) (o : List Val) (n c : Nat) (w : World) (hn : o.length = n) (h : ValsAt w P A o) (hP : ∀ b, P b → b < w.heap.size) (hl : n ≤ 4398046511104) (hu : (v.k == 0 || o.any (fun v => v.k == 0)) = true) :
    Calls Tryz.prog 80 #[p, .int .i64 kind, valV v, .slice A n c] w fun e w' => e = .returned (.tuple #[.pointer none, .string sUnset]) ∧ Below w.heap.size w w' := by
  obtain ⟨vk, vn, vs⟩ := v
  have UN := Lib.hid (unset_any ⟨vk, vn, vs⟩)
  have CU := Lib.hid (fun (w' : World) (hb : Below w.heap.size w w') => contU_any P A o n c w' hn (h.low hP hb) (fun b h => Nat.lt_of_lt_of_le (hP b h) hb.size) hl)
  clear h hP
  unfold valV at *
  simp only at UN hu ⊢
  go_enter Tryz.func80, Tryz.ntmps80
  go_wp2_with fail
  refine (UN.out _).mono ?_
  rintro e w2 ⟨rfl, hb⟩
  have K1 := Lib.hid ((Bk.new w _ _).below hb (by simp))
  have HB := Lib.hid (((Below.refl _ w).alloc (Nat.le_refl _) _).trans (hb.mono (by simp)))
  clear hb
  cases hk : (vk == 0)
  · rw [hk, Bool.false_or] at hu
    go_wp2_with fail
    refine (CU.out _ HB.out).mono ?_
    rintro e w3 ⟨rfl, hb⟩
    rw [hu]
    have HB2 := Lib.hid (HB.out.trans (hb.mono HB.out.size))
    clear hb
    go_wp2_with fail
    go_ret2
    exact ⟨rfl, HB2.out⟩
  · go_wp2_with fail
    go_ret2
    exact ⟨rfl, HB.out⟩
set_option maxHeartbeats 1000000 in
/-- No operand is unset: what v denotes. -/
theorem oper_none (F P : Nat → Prop) (p : Nat) (mb : Option Nat) (f : Int → Hd) (l : List Ent) (next kind : Int) (v : Val) (A : Option Addr) (o : List Val) (n c : Nat) (w : World) (H : HeapA w F p mb f l next) (hF : ∀ g, F g → g < w.heap.size) (hn : o.length = n) (h : ValsAt w P A o) (hP : ∀ b, P b → b < w.heap.size) (hl : n ≤ 4398046511104) (hid : I64 v.n)
    (hu : (v.k == 0 || o.any (fun v => v.k == 0)) = false) (hd : denOf l f v = none) :
    Calls Tryz.prog 80 #[.pointer (some ⟨p, 0, none⟩), .int .i64 kind, valV v, .slice A n c] w fun e w' => e = .returned (.tuple #[.pointer none, .string sType]) ∧ Below w.heap.size w w' := by
  obtain ⟨vk, vn, vs⟩ := v
  have UN := Lib.hid (unset_any ⟨vk, vn, vs⟩)
  have CU := Lib.hid (fun (w' : World) (hb : Below w.heap.size w w') => contU_any P A o n c w' hn (h.low hP hb) (fun b h => Nat.lt_of_lt_of_le (hP b h) hb.size) hl)
  have DE := Lib.hid (fun (w' : World) (hb : Below w.heap.size w w') => denoted_any F p mb f l next ⟨vk, vn, vs⟩ w' (fun g hg => Nat.lt_of_lt_of_le (hF g hg) hb.size) (H.low hF hb) hid)
  rw [hd] at DE
  clear h hP H hF hd
  rw [Bool.or_eq_false_iff] at hu
  unfold valV at *
  simp only at UN hu DE hid ⊢
  obtain ⟨hk, ho⟩ := hu
  rw [hk] at UN
  rw [ho] at CU
  clear hk ho
  go_enter Tryz.func80, Tryz.ntmps80
  go_wp2_with fail
  refine (UN.out _).mono ?_
  rintro e w2 ⟨rfl, hb⟩
  have K1 := Lib.hid ((Bk.new w _ _).below hb (by simp))
  have HB := Lib.hid (((Below.refl _ w).alloc (Nat.le_refl _) _).trans (hb.mono (by simp)))
  clear hb
  go_wp2_with fail
  refine (CU.out _ HB.out).mono ?_
  rintro e w3 ⟨rfl, hb⟩
  have K2 := Lib.hid (K1.out.below hb K1.out.lt)
  have HB2 := Lib.hid (HB.out.trans (hb.mono HB.out.size))
  clear hb
  have k0 := K2.out.cell 0 (.int .i64 vk) rfl
  have k1 := K2.out.cell 1 (.int .i64 vn) rfl
  have k2 := K2.out.cell 2 (.string vs) rfl
  go_wp2_with fail
  refine (DE.out _ HB2.out).mono ?_
  rintro e w4 ⟨rfl, hb⟩
  have HB3 := Lib.hid (HB2.out.trans (hb.mono HB2.out.size))
  clear hb
  go_wp2_with fail
  go_ret2
  exact ⟨rfl, HB3.out⟩
set_option maxHeartbeats 1000000 in
/-- What v denotes is of another kind. -/
theorem oper_other (F P : Nat → Prop) (p : Nat) (mb : Option Nat) (f : Int → Hd) (l : List Ent) (next kind : Int) (v : Val) (A : Option Addr) (o : List Val) (n c : Nat) (w : World) (H : HeapA w F p mb f l next) (hF : ∀ g, F g → g < w.heap.size) (hn : o.length = n) (h : ValsAt w P A o) (hP : ∀ b, P b → b < w.heap.size) (hl : n ≤ 4398046511104) (hid : I64 v.n)
    (hu : (v.k == 0 || o.any (fun v => v.k == 0)) = false) (c0 : Cel) (hv : v.k = 5) (hm : (v.n, c0) ∈ l) (hk0 : c0.kind ≠ kind) :
    Calls Tryz.prog 80 #[.pointer (some ⟨p, 0, none⟩), .int .i64 kind, valV v, .slice A n c] w fun e w' => e = .returned (.tuple #[.pointer none, .string sType]) ∧ Below w.heap.size w w' := by
  have hd : denOf l f v = some ⟨(f v.n).b, 0, none⟩ := by unfold denOf; rw [if_pos hv]; exact (H.of hm).1
  have hb0 := (H.of hm).2.blk
  unfold rowC at hb0
  have kc := Lib.hid (fun (w' : World) (hb : Below w.heap.size w w') => (hb0.low hb).cell 0 (.int .i64 c0.kind) rfl)
  have kl := hb0.lt
  clear hb0 hv
  obtain ⟨vk, vn, vs⟩ := v
  have UN := Lib.hid (unset_any ⟨vk, vn, vs⟩)
  have CU := Lib.hid (fun (w' : World) (hb : Below w.heap.size w w') => contU_any P A o n c w' hn (h.low hP hb) (fun b h => Nat.lt_of_lt_of_le (hP b h) hb.size) hl)
  have DE := Lib.hid (fun (w' : World) (hb : Below w.heap.size w w') => denoted_any F p mb f l next ⟨vk, vn, vs⟩ w' (fun g hg => Nat.lt_of_lt_of_le (hF g hg) hb.size) (H.low hF hb) hid)
  rw [hd] at DE
  clear h hP H hF hd hm
  simp only at kc kl ⊢
  generalize (f vn).b = cb at *
  rw [Bool.or_eq_false_iff] at hu
  unfold valV at *
  simp only at UN hu DE hid ⊢
  obtain ⟨hk, ho⟩ := hu
  rw [hk] at UN
  rw [ho] at CU
  clear hk ho
  go_enter Tryz.func80, Tryz.ntmps80
  go_wp2_with fail
  refine (UN.out _).mono ?_
  rintro e w2 ⟨rfl, hb⟩
  have K1 := Lib.hid ((Bk.new w _ _).below hb (by simp))
  have HB := Lib.hid (((Below.refl _ w).alloc (Nat.le_refl _) _).trans (hb.mono (by simp)))
  clear hb
  go_wp2_with fail
  refine (CU.out _ HB.out).mono ?_
  rintro e w3 ⟨rfl, hb⟩
  have K2 := Lib.hid (K1.out.below hb K1.out.lt)
  have HB2 := Lib.hid (HB.out.trans (hb.mono HB.out.size))
  clear hb
  have k0 := K2.out.cell 0 (.int .i64 vk) rfl
  have k1 := K2.out.cell 1 (.int .i64 vn) rfl
  have k2 := K2.out.cell 2 (.string vs) rfl
  go_wp2_with fail
  refine (DE.out _ HB2.out).mono ?_
  rintro e w4 ⟨rfl, hb⟩
  have HB3 := Lib.hid (HB2.out.trans (hb.mono HB2.out.size))
  clear hb
  have ck := kc.out _ HB3.out
  have hke : (c0.kind == kind) = false := by simp [hk0]
  go_wp2_with fail
  go_ret2
  exact ⟨rfl, HB3.out⟩
set_option maxHeartbeats 1000000 in
/-- v denotes a cell of this kind. -/
theorem oper_cell (F P : Nat → Prop) (p : Nat) (mb : Option Nat) (f : Int → Hd) (l : List Ent) (next kind : Int) (v : Val) (A : Option Addr) (o : List Val) (n c : Nat) (w : World) (H : HeapA w F p mb f l next) (hF : ∀ g, F g → g < w.heap.size) (hn : o.length = n) (h : ValsAt w P A o) (hP : ∀ b, P b → b < w.heap.size) (hl : n ≤ 4398046511104) (hid : I64 v.n)
    (hu : (v.k == 0 || o.any (fun v => v.k == 0)) = false) (c0 : Cel) (hv : v.k = 5) (hm : (v.n, c0) ∈ l) (hk0 : c0.kind = kind) :
    Calls Tryz.prog 80 #[.pointer (some ⟨p, 0, none⟩), .int .i64 kind, valV v, .slice A n c] w fun e w' => e = .returned (.tuple #[.pointer (some ⟨(f v.n).b, 0, none⟩), .string ⟨#[]⟩]) ∧ Below w.heap.size w w' := by
  have hd : denOf l f v = some ⟨(f v.n).b, 0, none⟩ := by unfold denOf; rw [if_pos hv]; exact (H.of hm).1
  have hb0 := (H.of hm).2.blk
  unfold rowC at hb0
  have kc := Lib.hid (fun (w' : World) (hb : Below w.heap.size w w') => (hb0.low hb).cell 0 (.int .i64 c0.kind) rfl)
  have kl := hb0.lt
  clear hb0 hv
  obtain ⟨vk, vn, vs⟩ := v
  have UN := Lib.hid (unset_any ⟨vk, vn, vs⟩)
  have CU := Lib.hid (fun (w' : World) (hb : Below w.heap.size w w') => contU_any P A o n c w' hn (h.low hP hb) (fun b h => Nat.lt_of_lt_of_le (hP b h) hb.size) hl)
  have DE := Lib.hid (fun (w' : World) (hb : Below w.heap.size w w') => denoted_any F p mb f l next ⟨vk, vn, vs⟩ w' (fun g hg => Nat.lt_of_lt_of_le (hF g hg) hb.size) (H.low hF hb) hid)
  rw [hd] at DE
  clear h hP H hF hd hm
  simp only at kc kl ⊢
  generalize (f vn).b = cb at *
  rw [Bool.or_eq_false_iff] at hu
  unfold valV at *
  simp only at UN hu DE hid ⊢
  obtain ⟨hk, ho⟩ := hu
  rw [hk] at UN
  rw [ho] at CU
  clear hk ho
  go_enter Tryz.func80, Tryz.ntmps80
  go_wp2_with fail
  refine (UN.out _).mono ?_
  rintro e w2 ⟨rfl, hb⟩
  have K1 := Lib.hid ((Bk.new w _ _).below hb (by simp))
  have HB := Lib.hid (((Below.refl _ w).alloc (Nat.le_refl _) _).trans (hb.mono (by simp)))
  clear hb
  go_wp2_with fail
  refine (CU.out _ HB.out).mono ?_
  rintro e w3 ⟨rfl, hb⟩
  have K2 := Lib.hid (K1.out.below hb K1.out.lt)
  have HB2 := Lib.hid (HB.out.trans (hb.mono HB.out.size))
  clear hb
  have k0 := K2.out.cell 0 (.int .i64 vk) rfl
  have k1 := K2.out.cell 1 (.int .i64 vn) rfl
  have k2 := K2.out.cell 2 (.string vs) rfl
  go_wp2_with fail
  refine (DE.out _ HB2.out).mono ?_
  rintro e w4 ⟨rfl, hb⟩
  have HB3 := Lib.hid (HB2.out.trans (hb.mono HB2.out.size))
  clear hb
  have ck := kc.out _ HB3.out
  subst hk0
  go_wp2_with fail
  go_ret2
  exact ⟨rfl, HB3.out⟩
end Go.Proofs.YtkdpcnikgdbmaaaGreatDoor.Hp
namespace Go.Proofs.YtkdpcnikgdbmaaaGreatDoor.Hp
open Go Go.RowKit Go.Maps Va

theorem nil_vals (w : World) (P : Nat → Prop) : ValsAt w P none [] := fun j v h => by cases h
set_option maxHeartbeats 1000000 in
theorem deref_cell (F : Nat → Prop) (p : Nat) (mb : Option Nat) (f : Int → Hd) (l : List Ent) (next : Int) (v x : Val) (c0 : Cel) (w : World) (H : HeapA w F p mb f l next) (hF : ∀ g, F g → g < w.heap.size) (hid : I64 v.n) (hv : v.k = 5) (hm : (v.n, c0) ∈ l) (hk0 : c0.kind = 4) (hx : c0.items = [x]) :
    Calls Tryz.prog 39 #[.pointer (some ⟨p, 0, none⟩), valV v] w fun e w' => e = .returned (.tuple #[valV x, .string ⟨#[]⟩]) ∧ Below w.heap.size w w' := by
  have OP := Lib.hid (fun (w' : World) (hb : Below w.heap.size w w') => oper_cell F (fun _ => False) p mb f l next 4 v none [] 0 0 w' (H.low hF hb) (fun g hg => Nat.lt_of_lt_of_le (hF g hg) hb.size) rfl (nil_vals _ _) (fun b h => h.elim) (by omega) hid (by rw [hv]; rfl) c0 hv hm hk0)
  have CA := (H.of hm).2
  obtain ⟨A, nc, B, ic, e1, e2, -, hV⟩ := CA.rows
  have bk := CA.blk
  unfold rowC at bk
  rw [e2, hx] at bk
  rw [hx] at hV
  obtain ⟨b, o, rfl, hb, x0, x1, x2⟩ := hV 0 x rfl
  have bl := Hd.lt_of CA hb
  clear H hF hm CA hV hb hx hk0 hv hid e1 e2
  generalize (f v.n).b = cb at *
  unfold valV at *
  have kl := bk.lt
  have kI := bk.cell 5 (.slice (some ⟨b, o, none⟩) 1 ic) rfl
  simp only [Nat.zero_mul, Nat.add_zero] at x0 x1 x2
  go_enter Tryz.func39, Tryz.ntmps39
  go_wp2_with fail
  refine (OP.out _ (by (repeat' (first | exact Below.refl _ _ | refine Below.alloc ?_ (by simp <;> omega) _)))).mono ?_
  rintro e w2 ⟨rfl, hb⟩
  have K2 := Lib.hid (Bk.below (heap_alloc2_new w _ _ : Bk _ _ _ _) hb (by simp))
  have HB := Lib.hid (Below.trans (by (repeat' (first | exact Below.refl _ _ | refine Below.alloc ?_ (by simp <;> omega) _)) : Below w.heap.size w _) (hb.mono (by simp; omega)))
  clear hb OP
  have y0 := (HB.out.cell (p := ⟨b, o, none⟩) bl).trans x0
  have y1 := (HB.out.cell (p := ⟨b, o + 1, none⟩) bl).trans x1
  have y2 := (HB.out.cell (p := ⟨b, o + 2, none⟩) bl).trans x2
  have yI := (HB.out.cell (p := ⟨cb, 5, none⟩) kl).trans kI
  have r0 := K2.out.cell 0 (.int .i64 0) rfl
  have r1 := K2.out.cell 1 (.int .i64 0) rfl
  have r2 := K2.out.cell 2 (.string ⟨#[]⟩) rfl
  have g0 := K2.out.frozen 0
  have g1 := K2.out.frozen 1
  have g2 := K2.out.frozen 2
  clear x0 x1 x2 kI bk
  go_wp2_with fail
  (try simp only [Exit.inBlock, Exit.then])
  refine bodyPost_ret (v := .tuple #[.agg #[.int .i64 x.k, .int .i64 x.n, .string x.s], .string ⟨#[]⟩]) ?_ rfl ?_
  · rw [results_cell_tmp rfl]
    go_simp
  · exact ⟨rfl, by (repeat' (first | exact HB.out | refine Below.setCell ?_ (by simp) _))⟩
set_option maxHeartbeats 1000000 in
theorem len_str (p : Value) (n : Int) (s : ByteArray) (w : World) : Calls Tryz.prog 50 #[p, valV ⟨4, n, s⟩] w fun e w' => e = .returned (.tuple #[valV ⟨3, s.size, ⟨#[]⟩⟩, .string ⟨#[]⟩]) ∧ Below w.heap.size w w' := by
  unfold valV
  simp only
  have NU := Lib.hid (number_any s.size)
  go_enter Tryz.func50, Tryz.ntmps50
  go_wp2_with fail
  refine (NU.out _).mono ?_
  rintro e w2 ⟨rfl, hb⟩
  have K2 := Lib.hid (Bk.below (heap_alloc2_new w _ _ : Bk _ _ _ _) hb (by simp))
  have HB := Lib.hid (Below.trans (by (repeat' (first | exact Below.refl _ _ | refine Below.alloc ?_ (by simp <;> omega) _)) : Below w.heap.size w _) (hb.mono (by simp; omega)))
  clear hb NU
  have r0 := K2.out.cell 0 (.int .i64 0) rfl
  have r1 := K2.out.cell 1 (.int .i64 0) rfl
  have r2 := K2.out.cell 2 (.string ⟨#[]⟩) rfl
  have g0 := K2.out.frozen 0
  have g1 := K2.out.frozen 1
  have g2 := K2.out.frozen 2
  go_wp2_with fail
  (try simp only [Exit.inBlock, Exit.then])
  refine bodyPost_ret (v := .tuple #[.agg #[.int .i64 3, .int .i64 s.size, .string ⟨#[]⟩], .string ⟨#[]⟩]) ?_ rfl ?_
  · rw [results_cell_tmp rfl]
    go_simp
  · exact ⟨rfl, by (repeat' (first | exact HB.out | refine Below.setCell ?_ (by simp) _))⟩
set_option maxHeartbeats 1000000 in
theorem len_cell (F : Nat → Prop) (p : Nat) (mb : Option Nat) (f : Int → Hd) (l : List Ent) (next : Int) (v : Val) (c0 : Cel) (w : World) (H : HeapA w F p mb f l next) (hF : ∀ g, F g → g < w.heap.size) (hid : I64 v.n) (hv : v.k = 5) (hm : (v.n, c0) ∈ l) (hk0 : c0.kind = 2) :
    Calls Tryz.prog 50 #[.pointer (some ⟨p, 0, none⟩), valV v] w fun e w' => e = .returned (.tuple #[valV ⟨3, c0.items.length, ⟨#[]⟩⟩, .string ⟨#[]⟩]) ∧ Below w.heap.size w w' := by
  have OP := Lib.hid (fun (w' : World) (hb : Below w.heap.size w w') => oper_cell F (fun _ => False) p mb f l next 2 v none [] 0 0 w' (H.low hF hb) (fun g hg => Nat.lt_of_lt_of_le (hF g hg) hb.size) rfl (nil_vals _ _) (fun b h => h.elim) (by omega) hid (by rw [hv]; rfl) c0 hv hm hk0)
  have CA := (H.of hm).2
  obtain ⟨A, nc, B, ic, e1, e2, -, -⟩ := CA.rows
  have bk := CA.blk
  unfold rowC at bk
  rw [e2] at bk
  clear H hF hm CA hk0 hid e1 e2
  generalize (f v.n).b = cb at *
  unfold valV at *
  obtain ⟨vk, vn, vs⟩ := v
  simp only at hv
  subst hv
  simp only at OP bk ⊢
  have kl := bk.lt
  have kI := bk.cell 5 (.slice B c0.items.length ic) rfl
  have NU := Lib.hid (number_any c0.items.length)
  clear bk
  generalize c0.items.length = n at *
  go_enter Tryz.func50, Tryz.ntmps50
  go_wp2_with fail
  refine (OP.out _ (by (repeat' (first | exact Below.refl _ _ | refine Below.alloc ?_ (by simp <;> omega) _)))).mono ?_
  rintro e w2 ⟨rfl, hb⟩
  have K2 := Lib.hid (Bk.below (heap_alloc2_new w _ _ : Bk _ _ _ _) hb (by simp))
  have HB := Lib.hid (Below.trans (by (repeat' (first | exact Below.refl _ _ | refine Below.alloc ?_ (by simp <;> omega) _)) : Below w.heap.size w _) (hb.mono (by simp; omega)))
  clear hb OP
  have yI := (HB.out.cell (p := ⟨cb, 5, none⟩) kl).trans kI
  clear kI
  go_wp2_with fail
  refine (NU.out _).mono ?_
  rintro e w3 ⟨rfl, hb⟩
  have K3 := Lib.hid (K2.out.below hb K2.out.lt)
  have HB3 := Lib.hid (HB.out.trans (hb.mono HB.out.size))
  clear hb NU
  have r0 := K3.out.cell 0 (.int .i64 0) rfl
  have r1 := K3.out.cell 1 (.int .i64 0) rfl
  have r2 := K3.out.cell 2 (.string ⟨#[]⟩) rfl
  have g0 := K3.out.frozen 0
  have g1 := K3.out.frozen 1
  have g2 := K3.out.frozen 2
  go_wp2_with fail
  (try simp only [Exit.inBlock, Exit.then])
  refine bodyPost_ret (v := .tuple #[.agg #[.int .i64 3, .int .i64 n, .string ⟨#[]⟩], .string ⟨#[]⟩]) ?_ rfl ?_
  · rw [results_cell_tmp rfl]
    go_simp
  · exact ⟨rfl, by (repeat' (first | exact HB3.out | refine Below.setCell ?_ (by simp) _))⟩
end Go.Proofs.YtkdpcnikgdbmaaaGreatDoor.Hp
namespace Go.Proofs.YtkdpcnikgdbmaaaGreatDoor.Hp
open Go Go.RowKit Go.Maps Va

def look (l : List Ent) (id : Int) : Option Cel := (l.find? fun e => e.1 == id).map Prod.snd
theorem look_some {l : List Ent} {id : Int} {c : Cel} (h : look l id = some c) : (id, c) ∈ l := by
  unfold look at h
  obtain ⟨e, he, rfl⟩ := Option.map_eq_some_iff.1 h
  have h1 := List.find?_some he
  have h2 := List.mem_of_find?_eq_some he
  obtain ⟨i, c⟩ := e
  simp at h1
  subst h1
  exact h2
theorem look_none {l : List Ent} {id : Int} (h : look l id = none) : id ∉ ids l := by
  unfold look at h
  rw [Option.map_eq_none_iff, List.find?_eq_none] at h
  intro hm
  obtain ⟨e, he, rfl⟩ := List.mem_map.1 hm
  exact h e he (by simp)
theorem mem_uniq {l : List Ent} (hs : (ids l).Pairwise (· < ·)) {id : Int} {c c' : Cel} (h : (id, c) ∈ l) (h' : (id, c') ∈ l) : c = c' := by
  induction l with
  | nil => cases h
  | cons e l ih =>
    unfold ids at hs ih
    rw [List.map_cons, List.pairwise_cons] at hs
    rcases List.mem_cons.1 h with h1 | h1 <;> rcases List.mem_cons.1 h' with h2 | h2
    · rw [← h1] at h2
      exact (Prod.mk.inj h2).2.symm
    · have := hs.1 id (List.mem_map.2 ⟨(id, c'), h2, rfl⟩)
      rw [← h1] at this
      simp at this
    · have := hs.1 id (List.mem_map.2 ⟨(id, c), h1, rfl⟩)
      rw [← h2] at this
      simp at this
    · exact ih hs.2 h1 h2
theorem look_mem {l : List Ent} (hs : (ids l).Pairwise (· < ·)) {id : Int} {c : Cel} (h : (id, c) ∈ l) : look l id = some c := by
  cases hl : look l id with
  | none => exact absurd (List.mem_map.2 ⟨_, h, rfl⟩) (look_none hl)
  | some c' => rw [mem_uniq hs h (look_some hl)]
/-- The cell that a value denotes. -/
def denC (l : List Ent) (v : Val) : Option Cel := if v.k = 5 then look l v.n else none
theorem denC_none {l : List Ent} {v : Val} (f : Int → Hd) (h : denC l v = none) : denOf l f v = none := by
  unfold denC at h
  unfold denOf
  split at h
  · rename_i hk
    rw [if_pos hk]
    exact if_neg (look_none h)
  · rename_i hk
    rw [if_neg hk]
theorem denC_some {l : List Ent} {v : Val} {c : Cel} (h : denC l v = some c) : v.k = 5 ∧ (v.n, c) ∈ l := by
  unfold denC at h
  split at h
  · rename_i hk
    exact ⟨hk, look_some h⟩
  · cases h
def anyU (v : Val) (o : List Val) : Bool := v.k == 0 || o.any (fun v => v.k == 0)
/-- The fault of an operand; the empty string where there is none. -/
def operF (l : List Ent) (kind : Int) (v : Val) (o : List Val) : ByteArray :=
  if anyU v o then sUnset else match denC l v with
  | none => sType
  | some c => if c.kind = kind then ⟨#[]⟩ else sType
theorem operF_cases (l : List Ent) (kind : Int) (v : Val) (o : List Val) : (operF l kind v o = sUnset ∧ anyU v o = true) ∨ (operF l kind v o = sType ∧ anyU v o = false ∧ denC l v = none) ∨ (operF l kind v o = sType ∧ anyU v o = false ∧ ∃ c, denC l v = some c ∧ c.kind ≠ kind) ∨ (operF l kind v o = ⟨#[]⟩ ∧ anyU v o = false ∧ ∃ c, denC l v = some c ∧ c.kind = kind) := by
  unfold operF
  cases h : anyU v o
  · rw [if_neg (by simp)]
    cases hd : denC l v with
    | none => exact .inr (.inl ⟨rfl, rfl, rfl⟩)
    | some c =>
      by_cases hk : c.kind = kind
      · exact .inr (.inr (.inr ⟨by simp [hk], rfl, c, rfl, hk⟩))
      · exact .inr (.inr (.inl ⟨by simp [hk], rfl, c, rfl, hk⟩))
  · exact .inl ⟨rfl, rfl⟩
theorem sUnset_full : sUnset.toList.isEmpty = false := by rw [ByteArray.toList_eq]; rfl
theorem sType_full : sType.toList.isEmpty = false := by rw [ByteArray.toList_eq]; rfl
theorem eb_empty : (⟨#[]⟩ : ByteArray).toList.isEmpty = true := by rw [ByteArray.toList_eq]; rfl
theorem operF_full {l : List Ent} {kind : Int} {v : Val} {o : List Val} (h : operF l kind v o ≠ ⟨#[]⟩) : (operF l kind v o).toList.isEmpty = false := by
  rcases operF_cases l kind v o with ⟨e, _⟩ | ⟨e, _⟩ | ⟨e, _⟩ | ⟨e, _⟩
  · rw [e]; exact sUnset_full
  · rw [e]; exact sType_full
  · rw [e]; exact sType_full
  · exact absurd e h
theorem operF_good {l : List Ent} {kind : Int} {v : Val} {o : List Val} (h : operF l kind v o = ⟨#[]⟩) : anyU v o = false ∧ ∃ c, denC l v = some c ∧ c.kind = kind := by
  rcases operF_cases l kind v o with ⟨e, _⟩ | ⟨e, _⟩ | ⟨e, _⟩ | ⟨_, h1, h2⟩
  · have := sUnset_full; rw [← e, h, eb_empty] at this; cases this
  · have := sType_full; rw [← e, h, eb_empty] at this; cases this
  · have := sType_full; rw [← e, h, eb_empty] at this; cases this
  · exact ⟨h1, h2⟩
theorem oper_bad (F P : Nat → Prop) (p : Nat) (mb : Option Nat) (f : Int → Hd) (l : List Ent) (next kind : Int) (v : Val) (A : Option Addr) (o : List Val) (n c : Nat) (w : World) (H : HeapA w F p mb f l next) (hF : ∀ g, F g → g < w.heap.size) (hn : o.length = n) (h : ValsAt w P A o) (hP : ∀ b, P b → b < w.heap.size) (hl : n ≤ 4398046511104) (hid : I64 v.n)
    (hu : operF l kind v o ≠ ⟨#[]⟩) :
    Calls Tryz.prog 80 #[.pointer (some ⟨p, 0, none⟩), .int .i64 kind, valV v, .slice A n c] w fun e w' => e = .returned (.tuple #[.pointer none, .string (operF l kind v o)]) ∧ Below w.heap.size w w' := by
  rcases operF_cases l kind v o with ⟨e, h1⟩ | ⟨e, h1, h2⟩ | ⟨e, h1, c0, h2, h3⟩ | ⟨e, _⟩
  · rw [e]; exact oper_unset P _ kind v A o n c w hn h hP hl h1
  · rw [e]; exact oper_none F P p mb f l next kind v A o n c w H hF hn h hP hl hid h1 (denC_none f h2)
  · rw [e]; exact oper_other F P p mb f l next kind v A o n c w H hF hn h hP hl hid h1 c0 (denC_some h2).1 (denC_some h2).2 h3
  · exact absurd e hu
set_option maxHeartbeats 1000000 in
theorem deref_bad (F : Nat → Prop) (p : Nat) (mb : Option Nat) (f : Int → Hd) (l : List Ent) (next : Int) (v : Val) (w : World) (H : HeapA w F p mb f l next) (hF : ∀ g, F g → g < w.heap.size) (hid : I64 v.n) (hu : operF l 4 v [] ≠ ⟨#[]⟩) :
    Calls Tryz.prog 39 #[.pointer (some ⟨p, 0, none⟩), valV v] w fun e w' => e = .returned (.tuple #[valV ⟨0, 0, ⟨#[]⟩⟩, .string (operF l 4 v [])]) ∧ Below w.heap.size w w' := by
  have OP := Lib.hid (fun (w' : World) (hb : Below w.heap.size w w') => oper_bad F (fun _ => False) p mb f l next 4 v none [] 0 0 w' (H.low hF hb) (fun g hg => Nat.lt_of_lt_of_le (hF g hg) hb.size) rfl (nil_vals _ _) (fun b h => h.elim) (by omega) hid hu)
  have hte := operF_full hu
  clear H hF hu
  generalize operF l 4 v [] = flt at *
  unfold valV at *
  go_enter Tryz.func39, Tryz.ntmps39
  go_wp2_with fail
  refine (OP.out _ (by (repeat' (first | exact Below.refl _ _ | refine Below.alloc ?_ (by simp <;> omega) _)))).mono ?_
  rintro e w2 ⟨rfl, hb⟩
  have K2 := Lib.hid (Bk.below (heap_alloc2_new w _ _ : Bk _ _ _ _) hb (by simp))
  have HB := Lib.hid (Below.trans (by (repeat' (first | exact Below.refl _ _ | refine Below.alloc ?_ (by simp <;> omega) _)) : Below w.heap.size w _) (hb.mono (by simp; omega)))
  clear hb OP
  have r0 := K2.out.cell 0 (.int .i64 0) rfl
  have r1 := K2.out.cell 1 (.int .i64 0) rfl
  have r2 := K2.out.cell 2 (.string ⟨#[]⟩) rfl
  have g0 := K2.out.frozen 0
  have g1 := K2.out.frozen 1
  have g2 := K2.out.frozen 2
  go_wp2_with fail
  (try simp only [Exit.inBlock, Exit.then])
  refine bodyPost_ret (v := .tuple #[.agg #[.int .i64 0, .int .i64 0, .string ⟨#[]⟩], .string flt]) ?_ rfl ?_
  · rw [results_cell_tmp rfl]
    go_simp
  · exact ⟨rfl, by (repeat' (first | exact HB.out | refine Below.setCell ?_ (by simp) _))⟩
set_option maxHeartbeats 1000000 in
theorem len_bad (F : Nat → Prop) (p : Nat) (mb : Option Nat) (f : Int → Hd) (l : List Ent) (next : Int) (v : Val) (w : World) (H : HeapA w F p mb f l next) (hF : ∀ g, F g → g < w.heap.size) (hid : I64 v.n) (h4 : v.k ≠ 4) (hu : operF l 2 v [] ≠ ⟨#[]⟩) :
    Calls Tryz.prog 50 #[.pointer (some ⟨p, 0, none⟩), valV v] w fun e w' => e = .returned (.tuple #[valV ⟨0, 0, ⟨#[]⟩⟩, .string (operF l 2 v [])]) ∧ Below w.heap.size w w' := by
  have OP := Lib.hid (fun (w' : World) (hb : Below w.heap.size w w') => oper_bad F (fun _ => False) p mb f l next 2 v none [] 0 0 w' (H.low hF hb) (fun g hg => Nat.lt_of_lt_of_le (hF g hg) hb.size) rfl (nil_vals _ _) (fun b h => h.elim) (by omega) hid hu)
  have hte := operF_full hu
  clear H hF hu hid
  generalize operF l 2 v [] = flt at *
  unfold valV at *
  obtain ⟨vk, vn, vs⟩ := v
  have h4 : (vk == 4) = false := by simpa using h4
  simp only at OP ⊢
  go_enter Tryz.func50, Tryz.ntmps50
  go_wp2_with fail
  refine (OP.out _ (by (repeat' (first | exact Below.refl _ _ | refine Below.alloc ?_ (by simp <;> omega) _)))).mono ?_
  rintro e w2 ⟨rfl, hb⟩
  have K2 := Lib.hid (Bk.below (heap_alloc2_new w _ _ : Bk _ _ _ _) hb (by simp))
  have HB := Lib.hid (Below.trans (by (repeat' (first | exact Below.refl _ _ | refine Below.alloc ?_ (by simp <;> omega) _)) : Below w.heap.size w _) (hb.mono (by simp; omega)))
  clear hb OP
  have r0 := K2.out.cell 0 (.int .i64 0) rfl
  have r1 := K2.out.cell 1 (.int .i64 0) rfl
  have r2 := K2.out.cell 2 (.string ⟨#[]⟩) rfl
  have g0 := K2.out.frozen 0
  have g1 := K2.out.frozen 1
  have g2 := K2.out.frozen 2
  go_wp2_with fail
  (try simp only [Exit.inBlock, Exit.then])
  refine bodyPost_ret (v := .tuple #[.agg #[.int .i64 0, .int .i64 0, .string ⟨#[]⟩], .string flt]) ?_ rfl ?_
  · rw [results_cell_tmp rfl]
    go_simp
  · exact ⟨rfl, by (repeat' (first | exact HB.out | refine Below.setCell ?_ (by simp) _))⟩
end Go.Proofs.YtkdpcnikgdbmaaaGreatDoor.Hp
