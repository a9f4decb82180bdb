/-
  Nil and zero trees: what package shape does with them.
-/
import Derived.Test.YtnapfhnmccpffaaDoorSn0
import Derived.Test.YtnapfhnmccpffaaDoorKp
import Derived.Deep.RegionLaw
import Derived.TacticsInMore
namespace Go.Proofs.YtnapfhnmccpffaaDoor.Sh
open Go Go.RowKit

theorem run_nilmap (w : World) : (binOp .eql 58 (.map none) (.map none)).run Tryd.prog w = .ok (.bool true) w := by kernel_rfl
theorem z_count (w : World) (v : Value) (h : NilT w v) : Calls Tryd.prog 18 #[v] w fun e w' => e = .returned (.int .i64 0) ∧ w = w' := by
  rcases h with rfl | ⟨z, rfl, hz⟩
  · go_enter Tryd.func18, Tryd.ntmps18
    go_wp2
    go_ret
    exact ⟨rfl, rfl⟩
  · have c0 := hz.cell 0 (.slice none 0 0) rfl
    clear hz
    go_enter Tryd.func18, Tryd.ntmps18
    go_wp2
    go_ret
    exact ⟨rfl, rfl⟩
set_option maxRecDepth 100000 in
set_option maxHeartbeats 1000000 in
theorem z_canon (w : World) (v : Value) (s : Int) (h : NilT w v) (hs : I64 s) : Calls Tryd.prog 26 #[v, .int .i64 s] w fun e w' => e = .returned (.int .i64 (-1)) ∧ w = w' := by
  obtain ⟨h1, h2⟩ := hs
  have C := Lib.hid (z_count w v h)
  clear h
  by_cases h0 : s < 0
  · go_enter Tryd.func26, Tryd.ntmps26
    go_wp2
    go_ret
    exact ⟨rfl, rfl⟩
  · have h3 : 0 ≤ s := by omega
    go_enter Tryd.func26, Tryd.ntmps26
    go_wp2_with fail
    refine C.out.mono ?_
    rintro e w' ⟨rfl, rfl⟩
    go_wp2_with fail
    go_ret
    exact ⟨rfl, rfl⟩
set_option maxRecDepth 100000 in
set_option maxHeartbeats 1000000 in
theorem z_layout (w : World) (v : Value) (s : Int) (h : NilT w v) (hs : I64 s) : Calls Tryd.prog 46 #[v, .int .i64 s] w fun e w' => e = .returned (.agg #[.int .i64 (-1), .slice none 0 0, .int .i64 0]) ∧ Below w.heap.size w w' := by
  have B := Lib.hid ((Below.refl w.heap.size w).alloc (Nat.le_refl _) (.cells #[.int .i64 0, .slice none 0 0, .int .i64 0] 89))
  have X := Lib.hid (Bk.new w #[.int .i64 0, .slice none 0 0, .int .i64 0] 89)
  have C := Lib.hid (z_canon _ v s (h.below B.out) hs)
  have xf := X.out.frozen 0
  clear h hs
  go_enter Tryd.func46, Tryd.ntmps46
  go_wp2_with fail
  refine C.out.mono ?_
  rintro e w' ⟨rfl, rfl⟩
  go_wp2_with fail
  refine bodyPost_ret (v := .agg #[.int .i64 (-1), .slice none 0 0, .int .i64 0]) (by simp [results, Tryd.results46, go_sem]) rfl ⟨rfl, ?_⟩
  exact (Below.refl _ w).alloc (Nat.le_refl _) _
set_option maxRecDepth 100000 in
set_option maxHeartbeats 1000000 in
theorem z_class (w : World) (v : Value) (s : Int) (h : NilT w v) (hs : I64 s) : Calls Tryd.prog 25 #[v, .int .i64 s] w fun e w' => e = .returned (.int .i64 (-1)) ∧ Below w.heap.size w w' := by
  have C := Lib.hid (z_layout w v s h hs)
  clear h hs
  go_enter Tryd.func25, Tryd.ntmps25
  go_wp2_with fail
  refine C.out.mono ?_
  rintro e w' ⟨rfl, hb⟩
  have B := Lib.hid hb
  clear hb
  have hf := run_class (-1) 0 none 0 0 w'
  go_wp2_with fail
  go_ret
  exact ⟨rfl, B.out⟩
set_option maxRecDepth 100000 in
set_option maxHeartbeats 1000000 in
theorem z_root (w : World) (v : Value) (h : NilT w v) : Calls Tryd.prog 28 #[v, .int .i64 0] w fun e w' => e = .returned (.int .i64 (-1)) ∧ Below w.heap.size w w' := by
  have B := Lib.hid (Below.refl w.heap.size w)
  rcases h with rfl | ⟨z, rfl, hz⟩
  · go_enter Tryd.func28, Tryd.ntmps28
    go_wp2
    go_ret
    exact ⟨rfl, B.out⟩
  · have c1 := hz.cell 1 (.slice none 0 0) rfl
    clear hz
    go_enter Tryd.func28, Tryd.ntmps28
    go_wp2
    go_ret
    exact ⟨rfl, B.out⟩
set_option maxRecDepth 100000 in
set_option maxHeartbeats 1000000 in
theorem z_add (w : World) (v : Value) (s : Int) (nm : ByteArray) (h : NilT w v) (hs : I64 s) : Calls Tryd.prog 23 #[v, .int .i64 s, .string nm] w fun e w' => e = .returned (.tuple #[.int .i64 0, .int .i64 1]) ∧ Below w.heap.size w w' := by
  have C := Lib.hid (z_canon w v s h hs)
  have B := Lib.hid (Below.refl w.heap.size w)
  clear h hs
  go_enter Tryd.func23, Tryd.ntmps23
  go_wp2_with fail
  refine C.out.mono ?_
  rintro e w' ⟨rfl, rfl⟩
  go_wp2_with fail
  go_ret2
  exact ⟨rfl, B.out⟩
set_option maxRecDepth 100000 in
set_option maxHeartbeats 1000000 in
theorem z_text (w : World) (v : Value) (h : NilT w v) : Calls Tryd.prog 13 #[v] w fun e w' => e = .returned (.string ⟨#[]⟩) ∧ Below w.heap.size w w' := by
  have B := Lib.hid (Below.refl w.heap.size w)
  rcases h with rfl | ⟨z, rfl, hz⟩
  · go_enter Tryd.func13, Tryd.ntmps13
    go_wp2
    go_ret
    exact ⟨rfl, B.out⟩
  · have c2 := hz.cell 2 (.map none) rfl
    have hm := run_nilmap w
    clear hz
    go_enter Tryd.func13, Tryd.ntmps13
    go_wp2
    go_ret
    exact ⟨rfl, B.out⟩
set_option maxRecDepth 100000 in
set_option maxHeartbeats 1000000 in
theorem z_names (w : World) (v : Value) (s : Int) (h : NilT w v) (hs : I64 s) : Calls Tryd.prog 21 #[v, .int .i64 s] w fun e w' => ∃ A c, e = .returned (.slice A 0 c) ∧ Below w.heap.size w w' := by
  have C := Lib.hid (z_layout w v s h hs)
  clear h hs
  go_enter Tryd.func21, Tryd.ntmps21
  go_wp2_with fail
  refine C.out.mono ?_
  rintro e w1 ⟨rfl, hb⟩
  have B := Lib.hid hb
  have hf := run_names (-1) 0 none 0 0 w1
  clear hb
  go_wp2_with fail
  refine (clone_any (fun _ => False) none [] 0 _ (SlS.nil _ _ _) (by simp)).mono ?_
  rintro e w2 ⟨v', rfl, ho, hb⟩
  obtain ⟨A, c, rfl, _⟩ := ho.slot
  have B2 := Lib.hid (B.out.trans (hb.mono B.out.size))
  clear ho hb
  go_wp2_with fail
  go_ret
  exact ⟨A, c, rfl, B2.out⟩
set_option maxRecDepth 100000 in
set_option maxHeartbeats 1000000 in
theorem z_slot (w : World) (v : Value) (s : Int) (nm : ByteArray) (h : NilT w v) (hs : I64 s) : Calls Tryd.prog 22 #[v, .int .i64 s, .string nm] w fun e w' => e = .returned (.tuple #[.int .i64 0, .bool false]) ∧ Below w.heap.size w w' := by
  have C := Lib.hid (z_layout w v s h hs)
  clear h hs
  go_enter Tryd.func22, Tryd.ntmps22
  go_wp2_with fail
  refine C.out.mono ?_
  rintro e w1 ⟨rfl, hb⟩
  have B := Lib.hid hb
  have hf := run_names (-1) 0 none 0 0 w1
  clear hb
  go_wp2_with fail
  refine (index_any (fun _ => False) none [] 0 nm _ (SlS.nil _ _ _) (by simp)).mono ?_
  rintro e w2 ⟨rfl, rfl⟩
  rw [show idxN [] nm = -1 from rfl]
  go_wp2_with fail
  go_ret2
  exact ⟨rfl, B.out⟩
set_option maxRecDepth 100000 in
set_option maxHeartbeats 1000000 in
theorem z_find (w : World) (v : Value) (h : NilT w v) : Calls Tryd.prog 27 #[v, .int .i64 0, .slice none 0 0] w fun e w' => e = .returned (.tuple #[.int .i64 0, .bool false]) ∧ Below w.heap.size w w' := by
  have C := Lib.hid (z_count w v h)
  have B := Lib.hid (Below.refl w.heap.size w)
  clear h
  go_enter Tryd.func27, Tryd.ntmps27
  go_wp2_with fail
  refine C.out.mono ?_
  rintro e w1 ⟨rfl, rfl⟩
  go_wp2_with fail
  go_loop [12] (fun i => i = .int .i64 0) (fun _ => 0)
  case atStart => rfl
  case round =>
    subst hrel
    go_wp2
    go_ret2
    exact ⟨rfl, B.out⟩
set_option maxRecDepth 100000 in
set_option maxHeartbeats 1000000 in
theorem z_make (w : World) (v : Value) (h : NilT w v) : Calls Tryd.prog 31 #[v, .int .i64 0, .slice none 0 0] w fun e w' => e = .returned (.tuple #[.int .i64 0, .int .i64 1]) ∧ Below w.heap.size w w' := by
  have C := Lib.hid (z_root w v h)
  clear h
  go_enter Tryd.func31, Tryd.ntmps31
  go_wp2_with fail
  refine C.out.mono ?_
  rintro e w1 ⟨rfl, hb⟩
  have B := Lib.hid hb
  clear hb
  go_wp2_with fail
  go_ret2
  exact ⟨rfl, B.out⟩
set_option maxRecDepth 100000 in
set_option maxHeartbeats 600000 in
theorem z_split (w : World) (v : Value) (s : Int) (h : NilT w v) (hs : I64 s) : Calls Tryd.prog 30 #[v, .int .i64 s] w fun e w' => e = .returned (.tuple #[.int .i64 0, .int .i64 1]) ∧ Below w.heap.size w w' := by
  obtain ⟨q, rfl⟩ : ∃ q, v = .pointer q := h.elim (fun e => ⟨_, e⟩) (fun ⟨_, e, _⟩ => ⟨_, e⟩)
  obtain ⟨T0, hT0⟩ : ∃ X, w.heap.size = X := ⟨_, rfl⟩
  obtain ⟨W1, hW1⟩ : ∃ W1, w.alloc (.cells #[.pointer q] 24) = W1 := ⟨_, rfl⟩
  have B1 := Lib.hid (show Below w.heap.size w W1 by rw [← hW1]; exact (Below.refl _ w).alloc (Nat.le_refl _) _)
  have T1 := Lib.hid (show Bk W1 T0 #[.pointer q] 24 by rw [← hW1, ← hT0]; exact Bk.new w _ _)
  have hs1 : W1.heap.size = T0 + 1 := by rw [← hW1, World.size_alloc, hT0]
  have C := Lib.hid (z_canon W1 (.pointer q) s (h.below B1.out) hs)
  have t0 := T1.out.cell 0 (.pointer q) rfl
  obtain ⟨W2, hW2⟩ : ∃ W2, W1.alloc (.cells #[.int .i64 (-1)] 3) = W2 := ⟨_, rfl⟩
  have B2 := Lib.hid (show Below w.heap.size w W2 by rw [← hW2]; exact B1.out.alloc (by omega) _)
  have X2 := Lib.hid (show Bk W2 (T0 + 1) #[.int .i64 (-1)] 3 by rw [← hW2, ← hs1]; exact Bk.new W1 _ _)
  have x2 := X2.out.cell 0 (.int .i64 (-1)) rfl
  clear h hs
  refine (callsIn_wide (n := 16)).1 ?_
  refine callsIn_of_wp_marks Tryd.func30 rfl trivial ?_ rfl
  simp only [Tryd.ntmps30, List.size_toArray, List.length_cons, List.length_nil, Nat.reduceAdd, Nat.reduceSub, Array.replicate_succ, Array.replicate_zero, List.push_toArray, List.append_toArray, List.nil_append, List.cons_append]
  refine wpIn_wide.2 ?_
  go_wp2_with fail
  refine C.out.mono ?_
  rintro e w' ⟨rfl, rfl⟩
  go_wp2_with fail
  exact ⟨_, results_tmp2 rfl _ _ _, rfl, B2.out⟩
end Go.Proofs.YtnapfhnmccpffaaDoor.Sh
