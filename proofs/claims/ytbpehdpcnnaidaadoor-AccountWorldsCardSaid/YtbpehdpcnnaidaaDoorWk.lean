/-
  AccountWorlds' walk.
-/
import Derived.Test.YtbpehdpcnnaidaaDoorWi
import Derived.Test.YtbpehdpcnnaidaaDoorAx
import Derived.Test.YtbpehdpcnnaidaaDoorWb
namespace Go.Proofs.YtbpehdpcnnaidaaDoor.Ac
open Go Go.RowKit Va

/-- The worlds that the law looks at. -/
def wz : Wd := ⟨none, [], 0, none, [], 0, none, [], 0, none, [], 0, none, [], 0, 0⟩
theorem wz_right : rightW wz = false := by decide
theorem wz_reads (w : World) (B : Nat) : wz.Reads w B :=
  ⟨fun j v h => by simp [wz] at h, Sl.nil _ _ _, Sl.nil _ _ _, Sl.nil _ _ _, Sl.nil _ _ _, by decide⟩
def rightAt (r0 r1 r2 : Bool) : Nat → Bool
  | 0 => r0
  | 1 => r1
  | 2 => r2
  | _ => false
set_option maxRecDepth 100000 in
set_option maxHeartbeats 8000000 in
theorem worlds_walk (A : Option Addr) (zs : List Int) (c B : Nat) (a0 a1 a2 b0 b1 b2 : Int) (w : World) (h : Sl w B A zs) (hB : B ≤ w.heap.size) (hz : ∀ z ∈ zs, I64 z) (hl : zs.length ≤ 17592186044404)
    (ha0 : I64 a0) (ha1 : I64 a1) (hb0 : I64 b0) (hb1 : I64 b1) (hbn : Bnds w) :
    Calls Tryd.prog 3 #[.slice A zs.length c, .agg #[.int .i64 a0, .int .i64 a1, .int .i64 a2, .int .i64 b0, .int .i64 b1, .int .i64 b2]] w fun e w' => e = .returned (.bool true) ∧ Below w.heap.size w w' := by
  have BX := Lib.hid ((Below.refl w.heap.size w).alloc (Nat.le_refl _) (.cells #[.int .i64 a0, .int .i64 a1, .int .i64 a2, .int .i64 b0, .int .i64 b1, .int .i64 b2] 24))
  have XQ := Lib.hid (Bk.new w #[.int .i64 a0, .int .i64 a1, .int .i64 a2, .int .i64 b0, .int .i64 b1, .int .i64 b2] 24)
  have HA := Lib.hid h
  have HN := Lib.hid hbn
  clear h hbn
  go_enter Tryd.func3, Tryd.ntmps3
  go_wp2_with fail
  refine (sanity_any _).mono ?_
  rintro e w1 ⟨rfl, hb⟩
  have B1 := Lib.hid (BX.out.trans (hb.mono BX.out.size))
  have XQ1 := Lib.hid (XQ.out.below hb XQ.out.lt)
  clear hb BX XQ
  go_wp2_with fail
  refine (world_any A zs c B _ (HA.out.below B1.out hB) (by have := B1.out.size; omega) hz hl).mono ?_
  rintro e w2 ⟨d0, rfl, H0, R0, hb⟩
  have B2 := Lib.hid ((B1.out.trans (hb.out.mono B1.out.size)).alloc (by have := B1.out.size; have := hb.out.size; omega) (.cells #[.slice d0.iA d0.vs.length d0.ic, .slice d0.cA d0.cs.length d0.cc, .slice d0.hA d0.hs.length d0.hc, .slice d0.fA d0.fs.length d0.fc, .slice d0.lA d0.ls.length d0.lc, .int .i64 d0.ep] 28))
  have XQ2 := Lib.hid ((XQ1.out.below hb.out XQ1.out.lt).alloc (.cells #[.slice d0.iA d0.vs.length d0.ic, .slice d0.cA d0.cs.length d0.cc, .slice d0.hA d0.hs.length d0.hc, .slice d0.fA d0.fs.length d0.fc, .slice d0.lA d0.ls.length d0.lc, .int .i64 d0.ep] 28))
  have X0 := Lib.hid (Bk.new w2 #[.slice d0.iA d0.vs.length d0.ic, .slice d0.cA d0.cs.length d0.cc, .slice d0.hA d0.hs.length d0.hc, .slice d0.fA d0.fs.length d0.fc, .slice d0.lA d0.ls.length d0.lc, .int .i64 d0.ep] 28)
  have H0' := Lib.hid (H0.out.alloc (.cells #[.slice d0.iA d0.vs.length d0.ic, .slice d0.cA d0.cs.length d0.cc, .slice d0.hA d0.hs.length d0.hc, .slice d0.fA d0.fs.length d0.fc, .slice d0.lA d0.ls.length d0.lc, .int .i64 d0.ep] 28))
  have Z1 := Lib.hid (show w.heap.size < w1.heap.size from XQ1.out.lt)
  have Z2 := Lib.hid (show w1.heap.size ≤ w2.heap.size from hb.out.size)
  clear hb B1 XQ1 H0
  have q0 : (w2.alloc (.cells #[.slice d0.iA d0.vs.length d0.ic, .slice d0.cA d0.cs.length d0.cc, .slice d0.hA d0.hs.length d0.hc, .slice d0.fA d0.fs.length d0.fc, .slice d0.lA d0.ls.length d0.lc, .int .i64 d0.ep] 28)).cell? ⟨w.heap.size, 0, none⟩ = some (.int .i64 a0) := XQ2.out.cell 0 _ rfl
  have q1 : (w2.alloc (.cells #[.slice d0.iA d0.vs.length d0.ic, .slice d0.cA d0.cs.length d0.cc, .slice d0.hA d0.hs.length d0.hc, .slice d0.fA d0.fs.length d0.fc, .slice d0.lA d0.ls.length d0.lc, .int .i64 d0.ep] 28)).cell? ⟨w.heap.size, 1, none⟩ = some (.int .i64 a1) := XQ2.out.cell 1 _ rfl
  have q2 : (w2.alloc (.cells #[.slice d0.iA d0.vs.length d0.ic, .slice d0.cA d0.cs.length d0.cc, .slice d0.hA d0.hs.length d0.hc, .slice d0.fA d0.fs.length d0.fc, .slice d0.lA d0.ls.length d0.lc, .int .i64 d0.ep] 28)).cell? ⟨w.heap.size, 2, none⟩ = some (.int .i64 a2) := XQ2.out.cell 2 _ rfl
  go_wp2_with fail
  obtain ⟨W2, hW2⟩ : ∃ W2, w2.alloc (.cells #[.slice d0.iA d0.vs.length d0.ic, .slice d0.cA d0.cs.length d0.cc, .slice d0.hA d0.hs.length d0.hc, .slice d0.fA d0.fs.length d0.fc, .slice d0.lA d0.ls.length d0.lc, .int .i64 d0.ep] 28) = W2 := ⟨_, rfl⟩
  obtain ⟨O0, hO0⟩ : ∃ O0, w2.heap.size = O0 := ⟨_, rfl⟩
  rw [hW2] at B2 XQ2 X0 H0' ⊢
  rw [hO0] at X0 ⊢
  clear q0 q1 q2
  have HO0 := Lib.hid hO0
  clear hW2 hO0
  refine (bent_any d0 _ 10 a0 a1 a2 _ H0'.out (by omega) ha0 ha1).mono ?_
  rintro e w3 ⟨d1, rfl, H1, hb⟩
  have B3 := Lib.hid ((B2.out.trans (hb.out.mono B2.out.size)).alloc (by have := B2.out.size; have := hb.out.size; omega) (.cells #[.slice d1.iA d1.vs.length d1.ic, .slice d1.cA d1.cs.length d1.cc, .slice d1.hA d1.hs.length d1.hc, .slice d1.fA d1.fs.length d1.fc, .slice d1.lA d1.ls.length d1.lc, .int .i64 d1.ep] 28))
  have XQ3 := Lib.hid ((XQ2.out.below hb.out XQ2.out.lt).alloc (.cells #[.slice d1.iA d1.vs.length d1.ic, .slice d1.cA d1.cs.length d1.cc, .slice d1.hA d1.hs.length d1.hc, .slice d1.fA d1.fs.length d1.fc, .slice d1.lA d1.ls.length d1.lc, .int .i64 d1.ep] 28))
  have X03 := Lib.hid ((X0.out.below hb.out X0.out.lt).alloc (.cells #[.slice d1.iA d1.vs.length d1.ic, .slice d1.cA d1.cs.length d1.cc, .slice d1.hA d1.hs.length d1.hc, .slice d1.fA d1.fs.length d1.fc, .slice d1.lA d1.ls.length d1.lc, .int .i64 d1.ep] 28))
  have X1 := Lib.hid (Bk.new w3 #[.slice d1.iA d1.vs.length d1.ic, .slice d1.cA d1.cs.length d1.cc, .slice d1.hA d1.hs.length d1.hc, .slice d1.fA d1.fs.length d1.fc, .slice d1.lA d1.ls.length d1.lc, .int .i64 d1.ep] 28)
  have H03 := Lib.hid ((H0'.out.below hb.out).alloc (.cells #[.slice d1.iA d1.vs.length d1.ic, .slice d1.cA d1.cs.length d1.cc, .slice d1.hA d1.hs.length d1.hc, .slice d1.fA d1.fs.length d1.fc, .slice d1.lA d1.ls.length d1.lc, .int .i64 d1.ep] 28))
  have H13 := Lib.hid (H1.out.alloc (.cells #[.slice d1.iA d1.vs.length d1.ic, .slice d1.cA d1.cs.length d1.cc, .slice d1.hA d1.hs.length d1.hc, .slice d1.fA d1.fs.length d1.fc, .slice d1.lA d1.ls.length d1.lc, .int .i64 d1.ep] 28))
  clear hb B2 XQ2 X0 H0' H1
  go_wp2_with fail
  obtain ⟨W3, hW3⟩ : ∃ W3, w3.alloc (.cells #[.slice d1.iA d1.vs.length d1.ic, .slice d1.cA d1.cs.length d1.cc, .slice d1.hA d1.hs.length d1.hc, .slice d1.fA d1.fs.length d1.fc, .slice d1.lA d1.ls.length d1.lc, .int .i64 d1.ep] 28) = W3 := ⟨_, rfl⟩
  obtain ⟨O1, hO1⟩ : ∃ O1, w3.heap.size = O1 := ⟨_, rfl⟩
  rw [hW3] at B3 XQ3 X03 X1 H03 H13 ⊢
  rw [hO1] at X1 ⊢
  clear hW3 hO1
  have SV := Lib.hid (show (fun v => v.cell? ⟨O0, 0, none⟩ = some (.slice d0.iA d0.vs.length d0.ic) ∧ v.cell? ⟨O0, 1, none⟩ = some (.slice d0.cA d0.cs.length d0.cc) ∧ v.cell? ⟨O0, 2, none⟩ = some (.slice d0.hA d0.hs.length d0.hc) ∧ v.cell? ⟨O0, 3, none⟩ = some (.slice d0.fA d0.fs.length d0.fc) ∧ v.cell? ⟨O0, 4, none⟩ = some (.slice d0.lA d0.ls.length d0.lc) ∧ v.cell? ⟨O0, 5, none⟩ = some (.int .i64 d0.ep) ∧ v.cell? ⟨O1, 0, none⟩ = some (.slice d1.iA d1.vs.length d1.ic) ∧ v.cell? ⟨O1, 1, none⟩ = some (.slice d1.cA d1.cs.length d1.cc) ∧ v.cell? ⟨O1, 2, none⟩ = some (.slice d1.hA d1.hs.length d1.hc) ∧ v.cell? ⟨O1, 3, none⟩ = some (.slice d1.fA d1.fs.length d1.fc) ∧ v.cell? ⟨O1, 4, none⟩ = some (.slice d1.lA d1.ls.length d1.lc) ∧ v.cell? ⟨O1, 5, none⟩ = some (.int .i64 d1.ep) ∧ v.cell? ⟨w.heap.size, 3, none⟩ = some (.int .i64 b0) ∧ v.cell? ⟨w.heap.size, 4, none⟩ = some (.int .i64 b1) ∧ v.cell? ⟨w.heap.size, 5, none⟩ = some (.int .i64 b2)) W3.drew from ⟨X03.out.cell 0 _ rfl, X03.out.cell 1 _ rfl, X03.out.cell 2 _ rfl, X03.out.cell 3 _ rfl, X03.out.cell 4 _ rfl, X03.out.cell 5 _ rfl, X1.out.cell 0 _ rfl, X1.out.cell 1 _ rfl, X1.out.cell 2 _ rfl, X1.out.cell 3 _ rfl, X1.out.cell 4 _ rfl, X1.out.cell 5 _ rfl, XQ3.out.cell 3 _ rfl, XQ3.out.cell 4 _ rfl, XQ3.out.cell 5 _ rfl⟩)
  refine wp_region_held (S := fun v => v.cell? ⟨O0, 0, none⟩ = some (.slice d0.iA d0.vs.length d0.ic) ∧ v.cell? ⟨O0, 1, none⟩ = some (.slice d0.cA d0.cs.length d0.cc) ∧ v.cell? ⟨O0, 2, none⟩ = some (.slice d0.hA d0.hs.length d0.hc) ∧ v.cell? ⟨O0, 3, none⟩ = some (.slice d0.fA d0.fs.length d0.fc) ∧ v.cell? ⟨O0, 4, none⟩ = some (.slice d0.lA d0.ls.length d0.lc) ∧ v.cell? ⟨O0, 5, none⟩ = some (.int .i64 d0.ep) ∧ v.cell? ⟨O1, 0, none⟩ = some (.slice d1.iA d1.vs.length d1.ic) ∧ v.cell? ⟨O1, 1, none⟩ = some (.slice d1.cA d1.cs.length d1.cc) ∧ v.cell? ⟨O1, 2, none⟩ = some (.slice d1.hA d1.hs.length d1.hc) ∧ v.cell? ⟨O1, 3, none⟩ = some (.slice d1.fA d1.fs.length d1.fc) ∧ v.cell? ⟨O1, 4, none⟩ = some (.slice d1.lA d1.ls.length d1.lc) ∧ v.cell? ⟨O1, 5, none⟩ = some (.int .i64 d1.ep) ∧ v.cell? ⟨w.heap.size, 3, none⟩ = some (.int .i64 b0) ∧ v.cell? ⟨w.heap.size, 4, none⟩ = some (.int .i64 b1) ∧ v.cell? ⟨w.heap.size, 5, none⟩ = some (.int .i64 b2)) (by kernel_rfl) ?_
  refine wpAnyH_take (i := 0) (v := ?_) rfl (by kernel_rfl) (by kernel_rfl) (by kernel_rfl) (fun _ _ _ h => h) (.inl ⟨by kernel_rfl, fun v hS => ?_⟩) SV.out ?_
  rotate_left
  · obtain ⟨c0, c1, c2, c3, c4, c5, c6, c7, c8, c9, c10, c11, c12, c13, c14⟩ := hS
    go_simp
    with_reducible rfl
  refine wpAnyH_take (i := 1) (v := ?_) rfl (by kernel_rfl) (by kernel_rfl) (by kernel_rfl) (fun _ _ _ h => h) (.inl ⟨by kernel_rfl, fun v hS => ?_⟩) SV.out ?_
  rotate_left
  · obtain ⟨c0, c1, c2, c3, c4, c5, c6, c7, c8, c9, c10, c11, c12, c13, c14⟩ := hS
    go_simp
    with_reducible rfl
  refine wpAnyH_take (i := 2) (v := ?_) rfl (by kernel_rfl) (by kernel_rfl) (by kernel_rfl) (fun _ _ _ h => h) (.inl ⟨by kernel_rfl, fun v hS => ?_⟩) SV.out ?_
  rotate_left
  · obtain ⟨c0, c1, c2, c3, c4, c5, c6, c7, c8, c9, c10, c11, c12, c13, c14⟩ := hS
    go_simp
    with_reducible rfl
  refine wpAnyH_take (i := 3) (v := ?_) rfl (by kernel_rfl) (by kernel_rfl) (by kernel_rfl) (fun _ _ _ h => h) (.inl ⟨by kernel_rfl, fun v hS => ?_⟩) SV.out ?_
  rotate_left
  · obtain ⟨c0, c1, c2, c3, c4, c5, c6, c7, c8, c9, c10, c11, c12, c13, c14⟩ := hS
    go_simp
    with_reducible rfl
  refine wpAnyH_take (i := 4) (v := ?_) rfl (by kernel_rfl) (by kernel_rfl) (by kernel_rfl) (fun _ _ _ h => h) (.inl ⟨by kernel_rfl, fun v hS => ?_⟩) SV.out ?_
  rotate_left
  · obtain ⟨c0, c1, c2, c3, c4, c5, c6, c7, c8, c9, c10, c11, c12, c13, c14⟩ := hS
    go_simp
    with_reducible rfl
  refine wpAnyH_take (i := 6) (v := ?_) rfl (by kernel_rfl) (by kernel_rfl) (by kernel_rfl) (fun _ _ _ h => h) (.inl ⟨by kernel_rfl, fun v hS => ?_⟩) SV.out ?_
  rotate_left
  · obtain ⟨c0, c1, c2, c3, c4, c5, c6, c7, c8, c9, c10, c11, c12, c13, c14⟩ := hS
    go_simp
    with_reducible rfl
  refine wpAnyH_take (i := 9) (v := ?_) rfl (by kernel_rfl) (by kernel_rfl) (by kernel_rfl) (fun _ _ _ h => h) (.inl ⟨by kernel_rfl, fun v hS => ?_⟩) SV.out ?_
  rotate_left
  · obtain ⟨c0, c1, c2, c3, c4, c5, c6, c7, c8, c9, c10, c11, c12, c13, c14⟩ := hS
    go_simp
    with_reducible rfl
  refine one_ready 5 rfl (by kernel_rfl) (by kernel_rfl) ?_
  go_simp
  refine (bent_any d1 _ (10 + 1005) b0 b1 b2 _ (H13.out.drewN 1) (by omega) hb0 hb1).mono ?_
  rintro e w4 ⟨d2, rfl, H2, hb⟩
  have B4 := Lib.hid ((show Below w.heap.size w W3.drew from ⟨B3.out.os, B3.out.tape, B3.out.output, B3.out.size, B3.out.block⟩).trans (hb.out.mono (show w.heap.size ≤ W3.heap.size from B3.out.size)))
  have XQ4 := Lib.hid ((show Bk W3.drew w.heap.size #[.int .i64 a0, .int .i64 a1, .int .i64 a2, .int .i64 b0, .int .i64 b1, .int .i64 b2] 24 from XQ3.out).below hb.out XQ3.out.lt)
  have X04 := Lib.hid ((show Bk W3.drew O0 #[.slice d0.iA d0.vs.length d0.ic, .slice d0.cA d0.cs.length d0.cc, .slice d0.hA d0.hs.length d0.hc, .slice d0.fA d0.fs.length d0.fc, .slice d0.lA d0.ls.length d0.lc, .int .i64 d0.ep] 28 from X03.out).below hb.out X03.out.lt)
  have X14 := Lib.hid ((show Bk W3.drew O1 #[.slice d1.iA d1.vs.length d1.ic, .slice d1.cA d1.cs.length d1.cc, .slice d1.hA d1.hs.length d1.hc, .slice d1.fA d1.fs.length d1.fc, .slice d1.lA d1.ls.length d1.lc, .int .i64 d1.ep] 28 from X1.out).below hb.out X1.out.lt)
  have H04 := Lib.hid ((H03.out.drewN 1).below hb.out)
  have H14 := Lib.hid ((H13.out.drewN 1).below hb.out)
  have SV4 := Lib.hid (show (fun v => v.cell? ⟨O0, 0, none⟩ = some (.slice d0.iA d0.vs.length d0.ic) ∧ v.cell? ⟨O0, 1, none⟩ = some (.slice d0.cA d0.cs.length d0.cc) ∧ v.cell? ⟨O0, 2, none⟩ = some (.slice d0.hA d0.hs.length d0.hc) ∧ v.cell? ⟨O0, 3, none⟩ = some (.slice d0.fA d0.fs.length d0.fc) ∧ v.cell? ⟨O0, 4, none⟩ = some (.slice d0.lA d0.ls.length d0.lc) ∧ v.cell? ⟨O0, 5, none⟩ = some (.int .i64 d0.ep) ∧ v.cell? ⟨O1, 0, none⟩ = some (.slice d1.iA d1.vs.length d1.ic) ∧ v.cell? ⟨O1, 1, none⟩ = some (.slice d1.cA d1.cs.length d1.cc) ∧ v.cell? ⟨O1, 2, none⟩ = some (.slice d1.hA d1.hs.length d1.hc) ∧ v.cell? ⟨O1, 3, none⟩ = some (.slice d1.fA d1.fs.length d1.fc) ∧ v.cell? ⟨O1, 4, none⟩ = some (.slice d1.lA d1.ls.length d1.lc) ∧ v.cell? ⟨O1, 5, none⟩ = some (.int .i64 d1.ep) ∧ v.cell? ⟨w.heap.size, 3, none⟩ = some (.int .i64 b0) ∧ v.cell? ⟨w.heap.size, 4, none⟩ = some (.int .i64 b1) ∧ v.cell? ⟨w.heap.size, 5, none⟩ = some (.int .i64 b2)) w4 from ⟨X04.out.cell 0 _ rfl, X04.out.cell 1 _ rfl, X04.out.cell 2 _ rfl, X04.out.cell 3 _ rfl, X04.out.cell 4 _ rfl, X04.out.cell 5 _ rfl, X14.out.cell 0 _ rfl, X14.out.cell 1 _ rfl, X14.out.cell 2 _ rfl, X14.out.cell 3 _ rfl, X14.out.cell 4 _ rfl, X14.out.cell 5 _ rfl, XQ4.out.cell 3 _ rfl, XQ4.out.cell 4 _ rfl, XQ4.out.cell 5 _ rfl⟩)
  refine ⟨SV4.out, ?_⟩
  refine one_ready 7 rfl (by kernel_rfl) (by kernel_rfl) ?_
  go_simp
  have SV5 := Lib.hid (show (fun v => v.cell? ⟨O0, 0, none⟩ = some (.slice d0.iA d0.vs.length d0.ic) ∧ v.cell? ⟨O0, 1, none⟩ = some (.slice d0.cA d0.cs.length d0.cc) ∧ v.cell? ⟨O0, 2, none⟩ = some (.slice d0.hA d0.hs.length d0.hc) ∧ v.cell? ⟨O0, 3, none⟩ = some (.slice d0.fA d0.fs.length d0.fc) ∧ v.cell? ⟨O0, 4, none⟩ = some (.slice d0.lA d0.ls.length d0.lc) ∧ v.cell? ⟨O0, 5, none⟩ = some (.int .i64 d0.ep) ∧ v.cell? ⟨O1, 0, none⟩ = some (.slice d1.iA d1.vs.length d1.ic) ∧ v.cell? ⟨O1, 1, none⟩ = some (.slice d1.cA d1.cs.length d1.cc) ∧ v.cell? ⟨O1, 2, none⟩ = some (.slice d1.hA d1.hs.length d1.hc) ∧ v.cell? ⟨O1, 3, none⟩ = some (.slice d1.fA d1.fs.length d1.fc) ∧ v.cell? ⟨O1, 4, none⟩ = some (.slice d1.lA d1.ls.length d1.lc) ∧ v.cell? ⟨O1, 5, none⟩ = some (.int .i64 d1.ep) ∧ v.cell? ⟨w.heap.size, 3, none⟩ = some (.int .i64 b0) ∧ v.cell? ⟨w.heap.size, 4, none⟩ = some (.int .i64 b1) ∧ v.cell? ⟨w.heap.size, 5, none⟩ = some (.int .i64 b2)) (w4.alloc (.cells #[.slice d0.iA d0.vs.length d0.ic, .slice d0.cA d0.cs.length d0.cc, .slice d0.hA d0.hs.length d0.hc, .slice d0.fA d0.fs.length d0.fc, .slice d0.lA d0.ls.length d0.lc, .int .i64 d0.ep, .slice d1.iA d1.vs.length d1.ic, .slice d1.cA d1.cs.length d1.cc, .slice d1.hA d1.hs.length d1.hc, .slice d1.fA d1.fs.length d1.fc, .slice d1.lA d1.ls.length d1.lc, .int .i64 d1.ep, .slice d2.iA d2.vs.length d2.ic, .slice d2.cA d2.cs.length d2.cc, .slice d2.hA d2.hs.length d2.hc, .slice d2.fA d2.fs.length d2.fc, .slice d2.lA d2.ls.length d2.lc, .int .i64 d2.ep, .slice none 0 0, .slice none 0 0, .slice none 0 0, .slice none 0 0, .slice none 0 0, .int .i64 0] 28)) from ⟨(X04.out.alloc _).cell 0 _ rfl, (X04.out.alloc _).cell 1 _ rfl, (X04.out.alloc _).cell 2 _ rfl, (X04.out.alloc _).cell 3 _ rfl, (X04.out.alloc _).cell 4 _ rfl, (X04.out.alloc _).cell 5 _ rfl, (X14.out.alloc _).cell 0 _ rfl, (X14.out.alloc _).cell 1 _ rfl, (X14.out.alloc _).cell 2 _ rfl, (X14.out.alloc _).cell 3 _ rfl, (X14.out.alloc _).cell 4 _ rfl, (X14.out.alloc _).cell 5 _ rfl, (XQ4.out.alloc _).cell 3 _ rfl, (XQ4.out.alloc _).cell 4 _ rfl, (XQ4.out.alloc _).cell 5 _ rfl⟩)
  refine ⟨SV5.out, ?_⟩
  refine wpAnyH_take (i := 8) (v := ?_) rfl (by kernel_rfl) (by kernel_rfl) (by kernel_rfl) (fun _ _ _ h => h) (.inl ⟨by kernel_rfl, fun v hS => ?_⟩) SV5.out ?_
  rotate_left
  · go_simp
    with_reducible rfl
  refine wpAnyH_done (by kernel_rfl) ?_ _
  go_simp
  have G5 := Lib.hid (Bk.new w4 #[.slice d0.iA d0.vs.length d0.ic, .slice d0.cA d0.cs.length d0.cc, .slice d0.hA d0.hs.length d0.hc, .slice d0.fA d0.fs.length d0.fc, .slice d0.lA d0.ls.length d0.lc, .int .i64 d0.ep, .slice d1.iA d1.vs.length d1.ic, .slice d1.cA d1.cs.length d1.cc, .slice d1.hA d1.hs.length d1.hc, .slice d1.fA d1.fs.length d1.fc, .slice d1.lA d1.ls.length d1.lc, .int .i64 d1.ep, .slice d2.iA d2.vs.length d2.ic, .slice d2.cA d2.cs.length d2.cc, .slice d2.hA d2.hs.length d2.hc, .slice d2.fA d2.fs.length d2.fc, .slice d2.lA d2.ls.length d2.lc, .int .i64 d2.ep, .slice none 0 0, .slice none 0 0, .slice none 0 0, .slice none 0 0, .slice none 0 0, .int .i64 0] 28)
  have L0 := Lib.hid ((H04.out.alloc (.cells #[.slice d0.iA d0.vs.length d0.ic, .slice d0.cA d0.cs.length d0.cc, .slice d0.hA d0.hs.length d0.hc, .slice d0.fA d0.fs.length d0.fc, .slice d0.lA d0.ls.length d0.lc, .int .i64 d0.ep, .slice d1.iA d1.vs.length d1.ic, .slice d1.cA d1.cs.length d1.cc, .slice d1.hA d1.hs.length d1.hc, .slice d1.fA d1.fs.length d1.fc, .slice d1.lA d1.ls.length d1.lc, .int .i64 d1.ep, .slice d2.iA d2.vs.length d2.ic, .slice d2.cA d2.cs.length d2.cc, .slice d2.hA d2.hs.length d2.hc, .slice d2.fA d2.fs.length d2.fc, .slice d2.lA d2.ls.length d2.lc, .int .i64 d2.ep, .slice none 0 0, .slice none 0 0, .slice none 0 0, .slice none 0 0, .slice none 0 0, .int .i64 0] 28)).reads (by omega))
  have L1 := Lib.hid ((H14.out.alloc (.cells #[.slice d0.iA d0.vs.length d0.ic, .slice d0.cA d0.cs.length d0.cc, .slice d0.hA d0.hs.length d0.hc, .slice d0.fA d0.fs.length d0.fc, .slice d0.lA d0.ls.length d0.lc, .int .i64 d0.ep, .slice d1.iA d1.vs.length d1.ic, .slice d1.cA d1.cs.length d1.cc, .slice d1.hA d1.hs.length d1.hc, .slice d1.fA d1.fs.length d1.fc, .slice d1.lA d1.ls.length d1.lc, .int .i64 d1.ep, .slice d2.iA d2.vs.length d2.ic, .slice d2.cA d2.cs.length d2.cc, .slice d2.hA d2.hs.length d2.hc, .slice d2.fA d2.fs.length d2.fc, .slice d2.lA d2.ls.length d2.lc, .int .i64 d2.ep, .slice none 0 0, .slice none 0 0, .slice none 0 0, .slice none 0 0, .slice none 0 0, .int .i64 0] 28)).reads (by omega))
  have L2 := Lib.hid ((H2.out.alloc (.cells #[.slice d0.iA d0.vs.length d0.ic, .slice d0.cA d0.cs.length d0.cc, .slice d0.hA d0.hs.length d0.hc, .slice d0.fA d0.fs.length d0.fc, .slice d0.lA d0.ls.length d0.lc, .int .i64 d0.ep, .slice d1.iA d1.vs.length d1.ic, .slice d1.cA d1.cs.length d1.cc, .slice d1.hA d1.hs.length d1.hc, .slice d1.fA d1.fs.length d1.fc, .slice d1.lA d1.ls.length d1.lc, .int .i64 d1.ep, .slice d2.iA d2.vs.length d2.ic, .slice d2.cA d2.cs.length d2.cc, .slice d2.hA d2.hs.length d2.hc, .slice d2.fA d2.fs.length d2.fc, .slice d2.lA d2.ls.length d2.lc, .int .i64 d2.ep, .slice none 0 0, .slice none 0 0, .slice none 0 0, .slice none 0 0, .slice none 0 0, .int .i64 0] 28)).reads (by omega))
  have B5 := Lib.hid (B4.out.alloc B4.out.size (.cells #[.slice d0.iA d0.vs.length d0.ic, .slice d0.cA d0.cs.length d0.cc, .slice d0.hA d0.hs.length d0.hc, .slice d0.fA d0.fs.length d0.fc, .slice d0.lA d0.ls.length d0.lc, .int .i64 d0.ep, .slice d1.iA d1.vs.length d1.ic, .slice d1.cA d1.cs.length d1.cc, .slice d1.hA d1.hs.length d1.hc, .slice d1.fA d1.fs.length d1.fc, .slice d1.lA d1.ls.length d1.lc, .int .i64 d1.ep, .slice d2.iA d2.vs.length d2.ic, .slice d2.cA d2.cs.length d2.cc, .slice d2.hA d2.hs.length d2.hc, .slice d2.fA d2.fs.length d2.fc, .slice d2.lA d2.ls.length d2.lc, .int .i64 d2.ep, .slice none 0 0, .slice none 0 0, .slice none 0 0, .slice none 0 0, .slice none 0 0, .int .i64 0] 28))
  have N5 := Lib.hid (bnds_next HN.out B5.out)
  clear SV SV4 SV5 X04 X14 XQ4 H04 H14 H2 B4 hb XQ3 X03 X1 H03 H13 B3 HN
  obtain ⟨g, hg⟩ : ∃ g, w4.heap.size = g := ⟨_, rfl⟩
  obtain ⟨W5, hW5⟩ : ∃ W5, w4.alloc (.cells #[.slice d0.iA d0.vs.length d0.ic, .slice d0.cA d0.cs.length d0.cc, .slice d0.hA d0.hs.length d0.hc, .slice d0.fA d0.fs.length d0.fc, .slice d0.lA d0.ls.length d0.lc, .int .i64 d0.ep, .slice d1.iA d1.vs.length d1.ic, .slice d1.cA d1.cs.length d1.cc, .slice d1.hA d1.hs.length d1.hc, .slice d1.fA d1.fs.length d1.fc, .slice d1.lA d1.ls.length d1.lc, .int .i64 d1.ep, .slice d2.iA d2.vs.length d2.ic, .slice d2.cA d2.cs.length d2.cc, .slice d2.hA d2.hs.length d2.hc, .slice d2.fA d2.fs.length d2.fc, .slice d2.lA d2.ls.length d2.lc, .int .i64 d2.ep, .slice none 0 0, .slice none 0 0, .slice none 0 0, .slice none 0 0, .slice none 0 0, .int .i64 0] 28) = W5 := ⟨_, rfl⟩
  rw [hW5] at G5 L0 L1 L2 B5 N5 ⊢
  rw [hg] at G5 ⊢
  clear hW5 hg
  go_wp2_with fail
  go_loopw [27] (fun i wr => ∃ k : Int, 0 ≤ k ∧ k ≤ 4 ∧ i = .int .i64 k ∧ Hid (Below W5.heap.size W5 wr)) (fun i _ => 4 - (intOf i).toNat)
  case atStart => exact ⟨0, by omega, by omega, rfl, Lib.hid (Below.refl _ _)⟩
  case round =>
    obtain ⟨k, hk0, hk4, rfl, BR⟩ := hrel
    have GR := Lib.hid (G5.out.below BR.out G5.out.lt)
    have NR := Lib.hid (bnds_next N5.out BR.out)
    have LE := Lib.hid (show W5.heap.size ≤ wr.heap.size from BR.out.size)
    by_cases hlt : k < 4
    · rcases (show k = 0 ∨ k = 1 ∨ k = 2 ∨ k = 3 by omega) with rfl | rfl | rfl | rfl
      · have y0 : wr.cell? ⟨g, 0, none⟩ = some (.slice d0.iA d0.vs.length d0.ic) := GR.out.cell 0 _ rfl
        have y1 : wr.cell? ⟨g, 1, none⟩ = some (.slice d0.cA d0.cs.length d0.cc) := GR.out.cell 1 _ rfl
        have y2 : wr.cell? ⟨g, 2, none⟩ = some (.slice d0.hA d0.hs.length d0.hc) := GR.out.cell 2 _ rfl
        have y3 : wr.cell? ⟨g, 3, none⟩ = some (.slice d0.fA d0.fs.length d0.fc) := GR.out.cell 3 _ rfl
        have y4 : wr.cell? ⟨g, 4, none⟩ = some (.slice d0.lA d0.ls.length d0.lc) := GR.out.cell 4 _ rfl
        have y5 : wr.cell? ⟨g, 5, none⟩ = some (.int .i64 d0.ep) := GR.out.cell 5 _ rfl
        have X9 := Lib.hid (Bk.new wr #[.slice d0.iA d0.vs.length d0.ic, .slice d0.cA d0.cs.length d0.cc, .slice d0.hA d0.hs.length d0.hc, .slice d0.fA d0.fs.length d0.fc, .slice d0.lA d0.ls.length d0.lc, .int .i64 d0.ep] 28)
        have BN := Lib.hid (BR.out.alloc BR.out.size (.cells #[.slice d0.iA d0.vs.length d0.ic, .slice d0.cA d0.cs.length d0.cc, .slice d0.hA d0.hs.length d0.hc, .slice d0.fA d0.fs.length d0.fc, .slice d0.lA d0.ls.length d0.lc, .int .i64 d0.ep] 28))
        have NN := Lib.hid (bnds_next N5.out BN.out)
        clear hlt GR NR BR hk0 hk4
        go_wp2_with fail
        clear y0 y1 y2 y3 y4 y5
        refine (acc_right d0 W5.heap.size _ (L0.out.below BN.out (Nat.le_refl _)) (by have := BN.out.size; omega) NN.out).mono ?_
        rintro e w6 ⟨rfl, hb⟩
        have X96 := Lib.hid (X9.out.below hb X9.out.lt)
        have BN6 := Lib.hid (BN.out.trans (hb.mono BN.out.size))
        clear hb X9 BN NN
        have z0 : w6.cell? ⟨wr.heap.size, 0, none⟩ = some (.slice d0.iA d0.vs.length d0.ic) := X96.out.cell 0 _ rfl
        have z1 : w6.cell? ⟨wr.heap.size, 1, none⟩ = some (.slice d0.cA d0.cs.length d0.cc) := X96.out.cell 1 _ rfl
        have z2 : w6.cell? ⟨wr.heap.size, 2, none⟩ = some (.slice d0.hA d0.hs.length d0.hc) := X96.out.cell 2 _ rfl
        have z3 : w6.cell? ⟨wr.heap.size, 3, none⟩ = some (.slice d0.fA d0.fs.length d0.fc) := X96.out.cell 3 _ rfl
        have z4 : w6.cell? ⟨wr.heap.size, 4, none⟩ = some (.slice d0.lA d0.ls.length d0.lc) := X96.out.cell 4 _ rfl
        have z5 : w6.cell? ⟨wr.heap.size, 5, none⟩ = some (.int .i64 d0.ep) := X96.out.cell 5 _ rfl
        rw [R0.out]
        go_wp2_with fail
        refine (ref_right d0 W5.heap.size _ (L0.out.below BN6.out (Nat.le_refl _)) (by have := BN6.out.size; omega)).mono ?_
        rintro e w7 ⟨rfl, hb⟩
        have BN7 := Lib.hid (BN6.out.trans (hb.mono BN6.out.size))
        clear hb z0 z1 z2 z3 z4 z5
        rw [R0.out]
        (go_wp2_with fail; go_roundw; (case rel => exact ⟨1, by omega, by omega, rfl, BN7⟩); (case measure => simp [intOf]))
      · have y0 : wr.cell? ⟨g, 6, none⟩ = some (.slice d1.iA d1.vs.length d1.ic) := GR.out.cell 6 _ rfl
        have y1 : wr.cell? ⟨g, 7, none⟩ = some (.slice d1.cA d1.cs.length d1.cc) := GR.out.cell 7 _ rfl
        have y2 : wr.cell? ⟨g, 8, none⟩ = some (.slice d1.hA d1.hs.length d1.hc) := GR.out.cell 8 _ rfl
        have y3 : wr.cell? ⟨g, 9, none⟩ = some (.slice d1.fA d1.fs.length d1.fc) := GR.out.cell 9 _ rfl
        have y4 : wr.cell? ⟨g, 10, none⟩ = some (.slice d1.lA d1.ls.length d1.lc) := GR.out.cell 10 _ rfl
        have y5 : wr.cell? ⟨g, 11, none⟩ = some (.int .i64 d1.ep) := GR.out.cell 11 _ rfl
        have X9 := Lib.hid (Bk.new wr #[.slice d1.iA d1.vs.length d1.ic, .slice d1.cA d1.cs.length d1.cc, .slice d1.hA d1.hs.length d1.hc, .slice d1.fA d1.fs.length d1.fc, .slice d1.lA d1.ls.length d1.lc, .int .i64 d1.ep] 28)
        have BN := Lib.hid (BR.out.alloc BR.out.size (.cells #[.slice d1.iA d1.vs.length d1.ic, .slice d1.cA d1.cs.length d1.cc, .slice d1.hA d1.hs.length d1.hc, .slice d1.fA d1.fs.length d1.fc, .slice d1.lA d1.ls.length d1.lc, .int .i64 d1.ep] 28))
        have NN := Lib.hid (bnds_next N5.out BN.out)
        clear hlt GR NR BR hk0 hk4
        go_wp2_with fail
        clear y0 y1 y2 y3 y4 y5
        refine (acc_right d1 W5.heap.size _ (L1.out.below BN.out (Nat.le_refl _)) (by have := BN.out.size; omega) NN.out).mono ?_
        rintro e w6 ⟨rfl, hb⟩
        have X96 := Lib.hid (X9.out.below hb X9.out.lt)
        have BN6 := Lib.hid (BN.out.trans (hb.mono BN.out.size))
        clear hb X9 BN NN
        have z0 : w6.cell? ⟨wr.heap.size, 0, none⟩ = some (.slice d1.iA d1.vs.length d1.ic) := X96.out.cell 0 _ rfl
        have z1 : w6.cell? ⟨wr.heap.size, 1, none⟩ = some (.slice d1.cA d1.cs.length d1.cc) := X96.out.cell 1 _ rfl
        have z2 : w6.cell? ⟨wr.heap.size, 2, none⟩ = some (.slice d1.hA d1.hs.length d1.hc) := X96.out.cell 2 _ rfl
        have z3 : w6.cell? ⟨wr.heap.size, 3, none⟩ = some (.slice d1.fA d1.fs.length d1.fc) := X96.out.cell 3 _ rfl
        have z4 : w6.cell? ⟨wr.heap.size, 4, none⟩ = some (.slice d1.lA d1.ls.length d1.lc) := X96.out.cell 4 _ rfl
        have z5 : w6.cell? ⟨wr.heap.size, 5, none⟩ = some (.int .i64 d1.ep) := X96.out.cell 5 _ rfl
        obtain ⟨b, hb⟩ : ∃ b, rightW d1 = b := ⟨_, rfl⟩
        rw [hb]
        have HBQ := Lib.hid hb
        clear hb
        go_wp2_with fail
        refine (ref_right d1 W5.heap.size _ (L1.out.below BN6.out (Nat.le_refl _)) (by have := BN6.out.size; omega)).mono ?_
        rintro e w7 ⟨rfl, hb⟩
        have BN7 := Lib.hid (BN6.out.trans (hb.mono BN6.out.size))
        clear hb z0 z1 z2 z3 z4 z5
        rw [HBQ.out]
        cases b <;>
        (go_wp2_with fail; go_roundw; (case rel => exact ⟨2, by omega, by omega, rfl, BN7⟩); (case measure => simp [intOf]))
      · have y0 : wr.cell? ⟨g, 12, none⟩ = some (.slice d2.iA d2.vs.length d2.ic) := GR.out.cell 12 _ rfl
        have y1 : wr.cell? ⟨g, 13, none⟩ = some (.slice d2.cA d2.cs.length d2.cc) := GR.out.cell 13 _ rfl
        have y2 : wr.cell? ⟨g, 14, none⟩ = some (.slice d2.hA d2.hs.length d2.hc) := GR.out.cell 14 _ rfl
        have y3 : wr.cell? ⟨g, 15, none⟩ = some (.slice d2.fA d2.fs.length d2.fc) := GR.out.cell 15 _ rfl
        have y4 : wr.cell? ⟨g, 16, none⟩ = some (.slice d2.lA d2.ls.length d2.lc) := GR.out.cell 16 _ rfl
        have y5 : wr.cell? ⟨g, 17, none⟩ = some (.int .i64 d2.ep) := GR.out.cell 17 _ rfl
        have X9 := Lib.hid (Bk.new wr #[.slice d2.iA d2.vs.length d2.ic, .slice d2.cA d2.cs.length d2.cc, .slice d2.hA d2.hs.length d2.hc, .slice d2.fA d2.fs.length d2.fc, .slice d2.lA d2.ls.length d2.lc, .int .i64 d2.ep] 28)
        have BN := Lib.hid (BR.out.alloc BR.out.size (.cells #[.slice d2.iA d2.vs.length d2.ic, .slice d2.cA d2.cs.length d2.cc, .slice d2.hA d2.hs.length d2.hc, .slice d2.fA d2.fs.length d2.fc, .slice d2.lA d2.ls.length d2.lc, .int .i64 d2.ep] 28))
        have NN := Lib.hid (bnds_next N5.out BN.out)
        clear hlt GR NR BR hk0 hk4
        go_wp2_with fail
        clear y0 y1 y2 y3 y4 y5
        refine (acc_right d2 W5.heap.size _ (L2.out.below BN.out (Nat.le_refl _)) (by have := BN.out.size; omega) NN.out).mono ?_
        rintro e w6 ⟨rfl, hb⟩
        have X96 := Lib.hid (X9.out.below hb X9.out.lt)
        have BN6 := Lib.hid (BN.out.trans (hb.mono BN.out.size))
        clear hb X9 BN NN
        have z0 : w6.cell? ⟨wr.heap.size, 0, none⟩ = some (.slice d2.iA d2.vs.length d2.ic) := X96.out.cell 0 _ rfl
        have z1 : w6.cell? ⟨wr.heap.size, 1, none⟩ = some (.slice d2.cA d2.cs.length d2.cc) := X96.out.cell 1 _ rfl
        have z2 : w6.cell? ⟨wr.heap.size, 2, none⟩ = some (.slice d2.hA d2.hs.length d2.hc) := X96.out.cell 2 _ rfl
        have z3 : w6.cell? ⟨wr.heap.size, 3, none⟩ = some (.slice d2.fA d2.fs.length d2.fc) := X96.out.cell 3 _ rfl
        have z4 : w6.cell? ⟨wr.heap.size, 4, none⟩ = some (.slice d2.lA d2.ls.length d2.lc) := X96.out.cell 4 _ rfl
        have z5 : w6.cell? ⟨wr.heap.size, 5, none⟩ = some (.int .i64 d2.ep) := X96.out.cell 5 _ rfl
        obtain ⟨b, hb⟩ : ∃ b, rightW d2 = b := ⟨_, rfl⟩
        rw [hb]
        have HBQ := Lib.hid hb
        clear hb
        go_wp2_with fail
        refine (ref_right d2 W5.heap.size _ (L2.out.below BN6.out (Nat.le_refl _)) (by have := BN6.out.size; omega)).mono ?_
        rintro e w7 ⟨rfl, hb⟩
        have BN7 := Lib.hid (BN6.out.trans (hb.mono BN6.out.size))
        clear hb z0 z1 z2 z3 z4 z5
        rw [HBQ.out]
        cases b <;>
        (go_wp2_with fail; go_roundw; (case rel => exact ⟨3, by omega, by omega, rfl, BN7⟩); (case measure => simp [intOf]))
      · have y0 : wr.cell? ⟨g, 18, none⟩ = some (.slice none 0 0) := GR.out.cell 18 _ rfl
        have y1 : wr.cell? ⟨g, 19, none⟩ = some (.slice none 0 0) := GR.out.cell 19 _ rfl
        have y2 : wr.cell? ⟨g, 20, none⟩ = some (.slice none 0 0) := GR.out.cell 20 _ rfl
        have y3 : wr.cell? ⟨g, 21, none⟩ = some (.slice none 0 0) := GR.out.cell 21 _ rfl
        have y4 : wr.cell? ⟨g, 22, none⟩ = some (.slice none 0 0) := GR.out.cell 22 _ rfl
        have y5 : wr.cell? ⟨g, 23, none⟩ = some (.int .i64 0) := GR.out.cell 23 _ rfl
        have X9 := Lib.hid (Bk.new wr #[.slice none 0 0, .slice none 0 0, .slice none 0 0, .slice none 0 0, .slice none 0 0, .int .i64 0] 28)
        have BN := Lib.hid (BR.out.alloc BR.out.size (.cells #[.slice none 0 0, .slice none 0 0, .slice none 0 0, .slice none 0 0, .slice none 0 0, .int .i64 0] 28))
        have NN := Lib.hid (bnds_next N5.out BN.out)
        clear hlt GR NR BR hk0 hk4
        go_wp2_with fail
        clear y0 y1 y2 y3 y4 y5
        refine (acc_right wz W5.heap.size _ ((wz_reads W5 W5.heap.size).below BN.out (Nat.le_refl _)) (by have := BN.out.size; omega) NN.out).mono ?_
        rintro e w6 ⟨rfl, hb⟩
        have X96 := Lib.hid (X9.out.below hb X9.out.lt)
        have BN6 := Lib.hid (BN.out.trans (hb.mono BN.out.size))
        clear hb X9 BN NN
        have z0 : w6.cell? ⟨wr.heap.size, 0, none⟩ = some (.slice none 0 0) := X96.out.cell 0 _ rfl
        have z1 : w6.cell? ⟨wr.heap.size, 1, none⟩ = some (.slice none 0 0) := X96.out.cell 1 _ rfl
        have z2 : w6.cell? ⟨wr.heap.size, 2, none⟩ = some (.slice none 0 0) := X96.out.cell 2 _ rfl
        have z3 : w6.cell? ⟨wr.heap.size, 3, none⟩ = some (.slice none 0 0) := X96.out.cell 3 _ rfl
        have z4 : w6.cell? ⟨wr.heap.size, 4, none⟩ = some (.slice none 0 0) := X96.out.cell 4 _ rfl
        have z5 : w6.cell? ⟨wr.heap.size, 5, none⟩ = some (.int .i64 0) := X96.out.cell 5 _ rfl
        rw [wz_right]
        go_wp2_with fail
        refine (ref_right wz W5.heap.size _ ((wz_reads W5 W5.heap.size).below BN6.out (Nat.le_refl _)) (by have := BN6.out.size; omega)).mono ?_
        rintro e w7 ⟨rfl, hb⟩
        have BN7 := Lib.hid (BN6.out.trans (hb.mono BN6.out.size))
        clear hb z0 z1 z2 z3 z4 z5
        rw [wz_right]
        (go_wp2_with fail; go_roundw; (case rel => exact ⟨4, by omega, by omega, rfl, BN7⟩); (case measure => simp [intOf]))
    · have hge : 4 ≤ k := by omega
      have BF := Lib.hid (B5.out.trans (BR.out.mono B5.out.size))
      clear hk0 hk4 hlt GR NR LE BR
      go_wp2_with fail
      go_ret
      exact ⟨rfl, BF.out⟩
end Go.Proofs.YtbpehdpcnnaidaaDoor.Ac
