/-
  Contracts of the helpers of the law: number, text, gives.
-/
import Derived.Test.YtibjhcgfjhbgoaaGreatDoorVm
namespace Go.Proofs.YtibjhcgfjhbgoaaGreatDoor.Va
open Go Go.RowKit Mp

theorem lawNumber_any (n : Int) (w : World) :
    Calls Tryz.prog 22 #[.int .i64 n] w fun e w' => e = .returned (vv 3 n es) ∧ Below w.heap.size w w' := by
  go_enter Tryz.func22, Tryz.ntmps22
  go_wp2
  exact bodyPost_ret (v := vv 3 n es) (by simp [results, Tryz.results22, go_sem, vv, es]) rfl ⟨rfl, (Below.refl _ _).alloc (Nat.le_refl _) _⟩
theorem lawText_any (s : ByteArray) (w : World) :
    Calls Tryz.prog 20 #[.string s] w fun e w' => e = .returned (vv 4 0 s) ∧ Below w.heap.size w w' := by
  go_enter Tryz.func20, Tryz.ntmps20
  go_wp2
  exact bodyPost_ret (v := vv 4 0 s) (by simp [results, Tryz.results20, go_sem, vv]) rfl ⟨rfl, (Below.refl _ _).alloc (Nat.le_refl _) _⟩
def v3eq (a b : V3) : Bool := veq a.1 a.2.1 b.1 b.2.1 a.2.2 b.2.2
def gives3 (op : Int) (a b want : V3) (fault : ByteArray) : Bool := v3eq (bin op a b).1 want && same (bin op a b).2 fault
set_option maxRecDepth 3000 in
theorem gives_any (op : Int) (a b c : V3) (fault : ByteArray) (hma : a.2.2.size ≤ maxLen) (hmb : b.2.2.size ≤ maxLen) (w : World) (hG : Gl w) :
    Calls Tryz.prog 21 #[.int .i64 op, a.val, b.val, c.val, .string fault] w fun e w' => e = .returned (.bool (gives3 op a b c fault)) ∧ Below w.heap.size w w' := by
  have HG := Lib.hid hG
  have C := Lib.hid (fun w hB => binary_any op a b w hB hma hmb)
  clear hG hma hmb
  generalize hr : gives3 op a b c fault = r
  unfold gives3 at hr
  generalize bin op a b = x at *
  obtain ⟨⟨x1, x2, x3⟩, x4⟩ := x
  obtain ⟨a1, a2, a3⟩ := a
  obtain ⟨b1, b2, b3⟩ := b
  obtain ⟨c1, c2, c3⟩ := c
  have hq := run_veq x1 x2 c1 c2 x3 c3
  unfold v3eq same at hr
  rw [← ByteArray.toList_eq, ← ByteArray.toList_eq] at hr
  simp only at hr
  have HR := Lib.hid hr
  clear hr
  unfold V3.val vv
  go_enter Tryz.func21, Tryz.ntmps21
  go_wp2_with fail
  refine (C.out _ (HG.out.bnds.below (below3 _ _ _ _) HG.out.bnds.size)).mono ?_
  rintro e w1 ⟨rfl, hb1⟩
  obtain ⟨o1, o2, o3, g1⟩ := three_owns hb1
  obtain ⟨k0, k1, k2, _, y1⟩ := o1.facts
  obtain ⟨l0, l1, l2, _, y2⟩ := o2.facts
  obtain ⟨m0, m1, m2, mf, y3⟩ := o3.facts
  have G1 := Lib.hid g1
  clear hb1 o1 o2 o3 g1
  unfold V3.val vv
  simp only
  go_wp2_with fail
  all_goals go_ret
  all_goals exact ⟨ret_bool (by rw [← HR.out]; simp [*]), G1.out.alloc (by omega) _⟩
end Go.Proofs.YtibjhcgfjhbgoaaGreatDoor.Va
