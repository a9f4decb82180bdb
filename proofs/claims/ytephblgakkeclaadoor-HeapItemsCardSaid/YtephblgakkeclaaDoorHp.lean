/-
  Contract of operand.
-/
import Derived.Test.YtephblgakkeclaaDoorHo
namespace Go.Proofs.YtephblgakkeclaaDoor.Hp
open Go Go.RowKit Go.Maps Va

def sUnset : ByteArray := ⟨#[117, 110, 115, 101, 116]⟩
def sType : ByteArray := ⟨#[116, 121, 112, 101]⟩
set_option maxHeartbeats 1000000 in
theorem oper_unset (P : Nat → Prop) (p : Value) (kind : Int) (v : Val) (A : Option Addr) (o : List Val) (n c : Nat) (w : World) (hn : o.length = n) (h : ValsAt w P A o) (hP : ∀ b, P b → b < w.heap.size) (hl : n ≤ 4398046511104) (hu : (v.k == 0 || o.any (fun v => v.k == 0)) = true) :
    Calls Tryd.prog 27 #[p, .int .i64 kind, valV v, .slice A n c] w fun e w' => e = .returned (.tuple #[.pointer none, .string sUnset]) ∧ Below w.heap.size w w' := by
  obtain ⟨vk, vn, vs⟩ := v
  have UN := Lib.hid (unset_any ⟨vk, vn, vs⟩)
  have CU := Lib.hid (fun (w' : World) (hb : Below w.heap.size w w') => contU_any P A o n c w' hn (h.low hP hb) (fun b h => Nat.lt_of_lt_of_le (hP b h) hb.size) hl)
  clear h hP
  unfold valV at *
  simp only at UN hu ⊢
  go_enter Tryd.func27, Tryd.ntmps27
  go_wp2_with fail
  refine (UN.out _).mono ?_
  rintro e w2 ⟨rfl, hb⟩
  have K1 := Lib.hid ((Bk.new w _ _).below hb (by simp))
  have HB := Lib.hid (((Below.refl _ w).alloc (Nat.le_refl _) _).trans (hb.mono (by simp)))
  clear hb
  cases hk : (vk == 0)
  · rw [hk, Bool.false_or] at hu
    go_wp2_with fail
    refine (CU.out _ HB.out).mono ?_
    rintro e w3 ⟨rfl, hb⟩
    rw [hu]
    have HB2 := Lib.hid (HB.out.trans (hb.mono HB.out.size))
    clear hb
    go_wp2_with fail
    go_ret2
    exact ⟨rfl, HB2.out⟩
  · go_wp2_with fail
    go_ret2
    exact ⟨rfl, HB.out⟩
set_option maxHeartbeats 1000000 in
/-- No operand is unset: what v denotes. -/
theorem oper_none (F P : Nat → Prop) (p : Nat) (mb : Option Nat) (f : Int → Hd) (l : List Ent) (next kind : Int) (v : Val) (A : Option Addr) (o : List Val) (n c : Nat) (w : World) (H : HeapA w F p mb f l next) (hF : ∀ g, F g → g < w.heap.size) (hn : o.length = n) (h : ValsAt w P A o) (hP : ∀ b, P b → b < w.heap.size) (hl : n ≤ 4398046511104) (hid : I64 v.n)
    (hu : (v.k == 0 || o.any (fun v => v.k == 0)) = false) (hd : denOf l f v = none) :
    Calls Tryd.prog 27 #[.pointer (some ⟨p, 0, none⟩), .int .i64 kind, valV v, .slice A n c] w fun e w' => e = .returned (.tuple #[.pointer none, .string sType]) ∧ Below w.heap.size w w' := by
  obtain ⟨vk, vn, vs⟩ := v
  have UN := Lib.hid (unset_any ⟨vk, vn, vs⟩)
  have CU := Lib.hid (fun (w' : World) (hb : Below w.heap.size w w') => contU_any P A o n c w' hn (h.low hP hb) (fun b h => Nat.lt_of_lt_of_le (hP b h) hb.size) hl)
  have DE := Lib.hid (fun (w' : World) (hb : Below w.heap.size w w') => denoted_any F p mb f l next ⟨vk, vn, vs⟩ w' (fun g hg => Nat.lt_of_lt_of_le (hF g hg) hb.size) (H.low hF hb) hid)
  rw [hd] at DE
  clear h hP H hF hd
  rw [Bool.or_eq_false_iff] at hu
  unfold valV at *
  simp only at UN hu DE hid ⊢
  obtain ⟨hk, ho⟩ := hu
  rw [hk] at UN
  rw [ho] at CU
  clear hk ho
  go_enter Tryd.func27, Tryd.ntmps27
  go_wp2_with fail
  refine (UN.out _).mono ?_
  rintro e w2 ⟨rfl, hb⟩
  have K1 := Lib.hid ((Bk.new w _ _).below hb (by simp))
  have HB := Lib.hid (((Below.refl _ w).alloc (Nat.le_refl _) _).trans (hb.mono (by simp)))
  clear hb
  go_wp2_with fail
  refine (CU.out _ HB.out).mono ?_
  rintro e w3 ⟨rfl, hb⟩
  have K2 := Lib.hid (K1.out.below hb K1.out.lt)
  have HB2 := Lib.hid (HB.out.trans (hb.mono HB.out.size))
  clear hb
  have k0 := K2.out.cell 0 (.int .i64 vk) rfl
  have k1 := K2.out.cell 1 (.int .i64 vn) rfl
  have k2 := K2.out.cell 2 (.string vs) rfl
  go_wp2_with fail
  refine (DE.out _ HB2.out).mono ?_
  rintro e w4 ⟨rfl, hb⟩
  have HB3 := Lib.hid (HB2.out.trans (hb.mono HB2.out.size))
  clear hb
  go_wp2_with fail
  go_ret2
  exact ⟨rfl, HB3.out⟩
set_option maxHeartbeats 1000000 in
/-- What v denotes is of another kind. -/
theorem oper_other (F P : Nat → Prop) (p : Nat) (mb : Option Nat) (f : Int → Hd) (l : List Ent) (next kind : Int) (v : Val) (A : Option Addr) (o : List Val) (n c : Nat) (w : World) (H : HeapA w F p mb f l next) (hF : ∀ g, F g → g < w.heap.size) (hn : o.length = n) (h : ValsAt w P A o) (hP : ∀ b, P b → b < w.heap.size) (hl : n ≤ 4398046511104) (hid : I64 v.n)
    (hu : (v.k == 0 || o.any (fun v => v.k == 0)) = false) (c0 : Cel) (hv : v.k = 5) (hm : (v.n, c0) ∈ l) (hk0 : c0.kind ≠ kind) :
    Calls Tryd.prog 27 #[.pointer (some ⟨p, 0, none⟩), .int .i64 kind, valV v, .slice A n c] w fun e w' => e = .returned (.tuple #[.pointer none, .string sType]) ∧ Below w.heap.size w w' := by
  have hd : denOf l f v = some ⟨(f v.n).b, 0, none⟩ := by unfold denOf; rw [if_pos hv]; exact (H.of hm).1
  have hb0 := (H.of hm).2.blk
  unfold rowC at hb0
  have kc := Lib.hid (fun (w' : World) (hb : Below w.heap.size w w') => (hb0.low hb).cell 0 (.int .i64 c0.kind) rfl)
  have kl := hb0.lt
  clear hb0 hv
  obtain ⟨vk, vn, vs⟩ := v
  have UN := Lib.hid (unset_any ⟨vk, vn, vs⟩)
  have CU := Lib.hid (fun (w' : World) (hb : Below w.heap.size w w') => contU_any P A o n c w' hn (h.low hP hb) (fun b h => Nat.lt_of_lt_of_le (hP b h) hb.size) hl)
  have DE := Lib.hid (fun (w' : World) (hb : Below w.heap.size w w') => denoted_any F p mb f l next ⟨vk, vn, vs⟩ w' (fun g hg => Nat.lt_of_lt_of_le (hF g hg) hb.size) (H.low hF hb) hid)
  rw [hd] at DE
  clear h hP H hF hd hm
  simp only at kc kl ⊢
  generalize (f vn).b = cb at *
  rw [Bool.or_eq_false_iff] at hu
  unfold valV at *
  simp only at UN hu DE hid ⊢
  obtain ⟨hk, ho⟩ := hu
  rw [hk] at UN
  rw [ho] at CU
  clear hk ho
  go_enter Tryd.func27, Tryd.ntmps27
  go_wp2_with fail
  refine (UN.out _).mono ?_
  rintro e w2 ⟨rfl, hb⟩
  have K1 := Lib.hid ((Bk.new w _ _).below hb (by simp))
  have HB := Lib.hid (((Below.refl _ w).alloc (Nat.le_refl _) _).trans (hb.mono (by simp)))
  clear hb
  go_wp2_with fail
  refine (CU.out _ HB.out).mono ?_
  rintro e w3 ⟨rfl, hb⟩
  have K2 := Lib.hid (K1.out.below hb K1.out.lt)
  have HB2 := Lib.hid (HB.out.trans (hb.mono HB.out.size))
  clear hb
  have k0 := K2.out.cell 0 (.int .i64 vk) rfl
  have k1 := K2.out.cell 1 (.int .i64 vn) rfl
  have k2 := K2.out.cell 2 (.string vs) rfl
  go_wp2_with fail
  refine (DE.out _ HB2.out).mono ?_
  rintro e w4 ⟨rfl, hb⟩
  have HB3 := Lib.hid (HB2.out.trans (hb.mono HB2.out.size))
  clear hb
  have ck := kc.out _ HB3.out
  have hke : (c0.kind == kind) = false := by simp [hk0]
  go_wp2_with fail
  go_ret2
  exact ⟨rfl, HB3.out⟩
set_option maxHeartbeats 1000000 in
/-- v denotes a cell of this kind. -/
theorem oper_cell (F P : Nat → Prop) (p : Nat) (mb : Option Nat) (f : Int → Hd) (l : List Ent) (next kind : Int) (v : Val) (A : Option Addr) (o : List Val) (n c : Nat) (w : World) (H : HeapA w F p mb f l next) (hF : ∀ g, F g → g < w.heap.size) (hn : o.length = n) (h : ValsAt w P A o) (hP : ∀ b, P b → b < w.heap.size) (hl : n ≤ 4398046511104) (hid : I64 v.n)
    (hu : (v.k == 0 || o.any (fun v => v.k == 0)) = false) (c0 : Cel) (hv : v.k = 5) (hm : (v.n, c0) ∈ l) (hk0 : c0.kind = kind) :
    Calls Tryd.prog 27 #[.pointer (some ⟨p, 0, none⟩), .int .i64 kind, valV v, .slice A n c] w fun e w' => e = .returned (.tuple #[.pointer (some ⟨(f v.n).b, 0, none⟩), .string ⟨#[]⟩]) ∧ Below w.heap.size w w' := by
  have hd : denOf l f v = some ⟨(f v.n).b, 0, none⟩ := by unfold denOf; rw [if_pos hv]; exact (H.of hm).1
  have hb0 := (H.of hm).2.blk
  unfold rowC at hb0
  have kc := Lib.hid (fun (w' : World) (hb : Below w.heap.size w w') => (hb0.low hb).cell 0 (.int .i64 c0.kind) rfl)
  have kl := hb0.lt
  clear hb0 hv
  obtain ⟨vk, vn, vs⟩ := v
  have UN := Lib.hid (unset_any ⟨vk, vn, vs⟩)
  have CU := Lib.hid (fun (w' : World) (hb : Below w.heap.size w w') => contU_any P A o n c w' hn (h.low hP hb) (fun b h => Nat.lt_of_lt_of_le (hP b h) hb.size) hl)
  have DE := Lib.hid (fun (w' : World) (hb : Below w.heap.size w w') => denoted_any F p mb f l next ⟨vk, vn, vs⟩ w' (fun g hg => Nat.lt_of_lt_of_le (hF g hg) hb.size) (H.low hF hb) hid)
  rw [hd] at DE
  clear h hP H hF hd hm
  simp only at kc kl ⊢
  generalize (f vn).b = cb at *
  rw [Bool.or_eq_false_iff] at hu
  unfold valV at *
  simp only at UN hu DE hid ⊢
  obtain ⟨hk, ho⟩ := hu
  rw [hk] at UN
  rw [ho] at CU
  clear hk ho
  go_enter Tryd.func27, Tryd.ntmps27
  go_wp2_with fail
  refine (UN.out _).mono ?_
  rintro e w2 ⟨rfl, hb⟩
  have K1 := Lib.hid ((Bk.new w _ _).below hb (by simp))
  have HB := Lib.hid (((Below.refl _ w).alloc (Nat.le_refl _) _).trans (hb.mono (by simp)))
  clear hb
  go_wp2_with fail
  refine (CU.out _ HB.out).mono ?_
  rintro e w3 ⟨rfl, hb⟩
  have K2 := Lib.hid (K1.out.below hb K1.out.lt)
  have HB2 := Lib.hid (HB.out.trans (hb.mono HB.out.size))
  clear hb
  have k0 := K2.out.cell 0 (.int .i64 vk) rfl
  have k1 := K2.out.cell 1 (.int .i64 vn) rfl
  have k2 := K2.out.cell 2 (.string vs) rfl
  go_wp2_with fail
  refine (DE.out _ HB2.out).mono ?_
  rintro e w4 ⟨rfl, hb⟩
  have HB3 := Lib.hid (HB2.out.trans (hb.mono HB2.out.size))
  clear hb
  have ck := kc.out _ HB3.out
  subst hk0
  go_wp2_with fail
  go_ret2
  exact ⟨rfl, HB3.out⟩
end Go.Proofs.YtephblgakkeclaaDoor.Hp
