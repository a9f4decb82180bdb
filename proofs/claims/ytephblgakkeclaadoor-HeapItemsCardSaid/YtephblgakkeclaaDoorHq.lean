/-
  Contracts of Deref and Len.
-/
import Derived.Test.YtephblgakkeclaaDoorHp
namespace Go.Proofs.YtephblgakkeclaaDoor.Hp
open Go Go.RowKit Go.Maps Va

theorem nil_vals (w : World) (P : Nat → Prop) : ValsAt w P none [] := fun j v h => by cases h
set_option maxHeartbeats 1000000 in
theorem deref_cell (F : Nat → Prop) (p : Nat) (mb : Option Nat) (f : Int → Hd) (l : List Ent) (next : Int) (v x : Val) (c0 : Cel) (w : World) (H : HeapA w F p mb f l next) (hF : ∀ g, F g → g < w.heap.size) (hid : I64 v.n) (hv : v.k = 5) (hm : (v.n, c0) ∈ l) (hk0 : c0.kind = 4) (hx : c0.items = [x]) :
    Calls Tryd.prog 19 #[.pointer (some ⟨p, 0, none⟩), valV v] w fun e w' => e = .returned (.tuple #[valV x, .string ⟨#[]⟩]) ∧ Below w.heap.size w w' := by
  have OP := Lib.hid (fun (w' : World) (hb : Below w.heap.size w w') => oper_cell F (fun _ => False) p mb f l next 4 v none [] 0 0 w' (H.low hF hb) (fun g hg => Nat.lt_of_lt_of_le (hF g hg) hb.size) rfl (nil_vals _ _) (fun b h => h.elim) (by omega) hid (by rw [hv]; rfl) c0 hv hm hk0)
  have CA := (H.of hm).2
  obtain ⟨A, nc, B, ic, e1, e2, -, hV⟩ := CA.rows
  have bk := CA.blk
  unfold rowC at bk
  rw [e2, hx] at bk
  rw [hx] at hV
  obtain ⟨b, o, rfl, hb, x0, x1, x2⟩ := hV 0 x rfl
  have bl := Hd.lt_of CA hb
  clear H hF hm CA hV hb hx hk0 hv hid e1 e2
  generalize (f v.n).b = cb at *
  unfold valV at *
  have kl := bk.lt
  have kI := bk.cell 5 (.slice (some ⟨b, o, none⟩) 1 ic) rfl
  simp only [Nat.zero_mul, Nat.add_zero] at x0 x1 x2
  go_enter Tryd.func19, Tryd.ntmps19
  go_wp2_with fail
  refine (OP.out _ (by (repeat' (first | exact Below.refl _ _ | refine Below.alloc ?_ (by simp <;> omega) _)))).mono ?_
  rintro e w2 ⟨rfl, hb⟩
  have K2 := Lib.hid (Bk.below (heap_alloc2_new w _ _ : Bk _ _ _ _) hb (by simp))
  have HB := Lib.hid (Below.trans (by (repeat' (first | exact Below.refl _ _ | refine Below.alloc ?_ (by simp <;> omega) _)) : Below w.heap.size w _) (hb.mono (by simp; omega)))
  clear hb OP
  have y0 := (HB.out.cell (p := ⟨b, o, none⟩) bl).trans x0
  have y1 := (HB.out.cell (p := ⟨b, o + 1, none⟩) bl).trans x1
  have y2 := (HB.out.cell (p := ⟨b, o + 2, none⟩) bl).trans x2
  have yI := (HB.out.cell (p := ⟨cb, 5, none⟩) kl).trans kI
  have r0 := K2.out.cell 0 (.int .i64 0) rfl
  have r1 := K2.out.cell 1 (.int .i64 0) rfl
  have r2 := K2.out.cell 2 (.string ⟨#[]⟩) rfl
  have g0 := K2.out.frozen 0
  have g1 := K2.out.frozen 1
  have g2 := K2.out.frozen 2
  clear x0 x1 x2 kI bk
  go_wp2_with fail
  (try simp only [Exit.inBlock, Exit.then])
  refine bodyPost_ret (v := .tuple #[.agg #[.int .i64 x.k, .int .i64 x.n, .string x.s], .string ⟨#[]⟩]) ?_ rfl ?_
  · rw [results_cell_tmp rfl]
    go_simp
  · exact ⟨rfl, by (repeat' (first | exact HB.out | refine Below.setCell ?_ (by simp) _))⟩
set_option maxHeartbeats 1000000 in
theorem len_str (p : Value) (n : Int) (s : ByteArray) (w : World) : Calls Tryd.prog 12 #[p, valV ⟨4, n, s⟩] w fun e w' => e = .returned (.tuple #[valV ⟨3, s.size, ⟨#[]⟩⟩, .string ⟨#[]⟩]) ∧ Below w.heap.size w w' := by
  unfold valV
  simp only
  have NU := Lib.hid (number_any s.size)
  go_enter Tryd.func12, Tryd.ntmps12
  go_wp2_with fail
  refine (NU.out _).mono ?_
  rintro e w2 ⟨rfl, hb⟩
  have K2 := Lib.hid (Bk.below (heap_alloc2_new w _ _ : Bk _ _ _ _) hb (by simp))
  have HB := Lib.hid (Below.trans (by (repeat' (first | exact Below.refl _ _ | refine Below.alloc ?_ (by simp <;> omega) _)) : Below w.heap.size w _) (hb.mono (by simp; omega)))
  clear hb NU
  have r0 := K2.out.cell 0 (.int .i64 0) rfl
  have r1 := K2.out.cell 1 (.int .i64 0) rfl
  have r2 := K2.out.cell 2 (.string ⟨#[]⟩) rfl
  have g0 := K2.out.frozen 0
  have g1 := K2.out.frozen 1
  have g2 := K2.out.frozen 2
  go_wp2_with fail
  (try simp only [Exit.inBlock, Exit.then])
  refine bodyPost_ret (v := .tuple #[.agg #[.int .i64 3, .int .i64 s.size, .string ⟨#[]⟩], .string ⟨#[]⟩]) ?_ rfl ?_
  · rw [results_cell_tmp rfl]
    go_simp
  · exact ⟨rfl, by (repeat' (first | exact HB.out | refine Below.setCell ?_ (by simp) _))⟩
set_option maxHeartbeats 1000000 in
theorem len_cell (F : Nat → Prop) (p : Nat) (mb : Option Nat) (f : Int → Hd) (l : List Ent) (next : Int) (v : Val) (c0 : Cel) (w : World) (H : HeapA w F p mb f l next) (hF : ∀ g, F g → g < w.heap.size) (hid : I64 v.n) (hv : v.k = 5) (hm : (v.n, c0) ∈ l) (hk0 : c0.kind = 2) :
    Calls Tryd.prog 12 #[.pointer (some ⟨p, 0, none⟩), valV v] w fun e w' => e = .returned (.tuple #[valV ⟨3, c0.items.length, ⟨#[]⟩⟩, .string ⟨#[]⟩]) ∧ Below w.heap.size w w' := by
  have OP := Lib.hid (fun (w' : World) (hb : Below w.heap.size w w') => oper_cell F (fun _ => False) p mb f l next 2 v none [] 0 0 w' (H.low hF hb) (fun g hg => Nat.lt_of_lt_of_le (hF g hg) hb.size) rfl (nil_vals _ _) (fun b h => h.elim) (by omega) hid (by rw [hv]; rfl) c0 hv hm hk0)
  have CA := (H.of hm).2
  obtain ⟨A, nc, B, ic, e1, e2, -, -⟩ := CA.rows
  have bk := CA.blk
  unfold rowC at bk
  rw [e2] at bk
  clear H hF hm CA hk0 hid e1 e2
  generalize (f v.n).b = cb at *
  unfold valV at *
  obtain ⟨vk, vn, vs⟩ := v
  simp only at hv
  subst hv
  simp only at OP bk ⊢
  have kl := bk.lt
  have kI := bk.cell 5 (.slice B c0.items.length ic) rfl
  have NU := Lib.hid (number_any c0.items.length)
  clear bk
  generalize c0.items.length = n at *
  go_enter Tryd.func12, Tryd.ntmps12
  go_wp2_with fail
  refine (OP.out _ (by (repeat' (first | exact Below.refl _ _ | refine Below.alloc ?_ (by simp <;> omega) _)))).mono ?_
  rintro e w2 ⟨rfl, hb⟩
  have K2 := Lib.hid (Bk.below (heap_alloc2_new w _ _ : Bk _ _ _ _) hb (by simp))
  have HB := Lib.hid (Below.trans (by (repeat' (first | exact Below.refl _ _ | refine Below.alloc ?_ (by simp <;> omega) _)) : Below w.heap.size w _) (hb.mono (by simp; omega)))
  clear hb OP
  have yI := (HB.out.cell (p := ⟨cb, 5, none⟩) kl).trans kI
  clear kI
  go_wp2_with fail
  refine (NU.out _).mono ?_
  rintro e w3 ⟨rfl, hb⟩
  have K3 := Lib.hid (K2.out.below hb K2.out.lt)
  have HB3 := Lib.hid (HB.out.trans (hb.mono HB.out.size))
  clear hb NU
  have r0 := K3.out.cell 0 (.int .i64 0) rfl
  have r1 := K3.out.cell 1 (.int .i64 0) rfl
  have r2 := K3.out.cell 2 (.string ⟨#[]⟩) rfl
  have g0 := K3.out.frozen 0
  have g1 := K3.out.frozen 1
  have g2 := K3.out.frozen 2
  go_wp2_with fail
  (try simp only [Exit.inBlock, Exit.then])
  refine bodyPost_ret (v := .tuple #[.agg #[.int .i64 3, .int .i64 n, .string ⟨#[]⟩], .string ⟨#[]⟩]) ?_ rfl ?_
  · rw [results_cell_tmp rfl]
    go_simp
  · exact ⟨rfl, by (repeat' (first | exact HB3.out | refine Below.setCell ?_ (by simp) _))⟩
end Go.Proofs.YtephblgakkeclaaDoor.Hp
