/-
  The reference's BentWorld.
-/
import Derived.Test.YtbpehdpcnnaidaaDoorWf
import Derived.Test.YtbpehdpcnnaidaaDoorWv
import Derived.Test.YtbpehdpcnnaidaaDoorRd
namespace Go.Proofs.YtbpehdpcnnaidaaDoor.Ac
open Go Go.RowKit Va

/-- How a call of BentWorld ends. -/
def BentTo (K : Nat) (w : World) (e : Ending) (w' : World) : Prop :=
  ∃ d' : Wd, e = .returned (.agg #[.slice d'.iA d'.vs.length d'.ic, .slice d'.cA d'.cs.length d'.cc, .slice d'.hA d'.hs.length d'.hc, .slice d'.fA d'.fs.length d'.fc, .slice d'.lA d'.ls.length d'.lc, .int .i64 d'.ep]) ∧ Hid (d'.Ok w' w.heap.size (K + 1005)) ∧ Hid (Below w.heap.size w w')
/-- The end: what is in O lies in D. -/
theorem bent_end {wx : World} {d : Wd} {w : World} {O base K : Nat} (ho : d.Ok wx base K) (_hX : Bk wx O #[.slice d.iA d.vs.length d.ic, .slice d.cA d.cs.length d.cc, .slice d.hA d.hs.length d.hc, .slice d.fA d.fs.length d.fc, .slice d.lA d.ls.length d.lc, .int .i64 d.ep] 28) (hD : Bk wx (w.heap.size + 1 + 1) #[.slice none 0 0, .slice none 0 0, .slice none 0 0, .slice none 0 0, .slice none 0 0, .int .i64 0] 28) (hB : Below w.heap.size w wx) (hb : w.heap.size ≤ base) :
    ∃ wz, wz = ((((((wx.setCell ⟨w.heap.size + 1 + 1, 0, none⟩ (.slice d.iA d.vs.length d.ic)).setCell ⟨w.heap.size + 1 + 1, 1, none⟩ (.slice d.cA d.cs.length d.cc)).setCell ⟨w.heap.size + 1 + 1, 2, none⟩ (.slice d.hA d.hs.length d.hc)).setCell ⟨w.heap.size + 1 + 1, 3, none⟩ (.slice d.fA d.fs.length d.fc)).setCell ⟨w.heap.size + 1 + 1, 4, none⟩ (.slice d.lA d.ls.length d.lc)).setCell ⟨w.heap.size + 1 + 1, 5, none⟩ (.int .i64 d.ep)) ∧
      Bk wz (w.heap.size + 1 + 1) #[.slice d.iA d.vs.length d.ic, .slice d.cA d.cs.length d.cc, .slice d.hA d.hs.length d.hc, .slice d.fA d.fs.length d.fc, .slice d.lA d.ls.length d.lc, .int .i64 d.ep] 28 ∧ d.Ok wz w.heap.size K ∧ Below w.heap.size w wz := by
  refine ⟨_, rfl, (((((hD.set 0 _).set 1 _).set 2 _).set 3 _).set 4 _).set 5 _, ?_, ?_⟩
  · have n1 : (52 : TypeId) ≠ 28 := by decide
    have n2 : (3 : TypeId) ≠ 28 := by decide
    have k0 := ho.bk hD n1 n2 (grownBy_set wx (w.heap.size + 1 + 1) 0 (.slice d.iA d.vs.length d.ic))
    have k1 := k0.bk (hD.set 0 _) n1 n2 (grownBy_set _ (w.heap.size + 1 + 1) 1 (.slice d.cA d.cs.length d.cc))
    have k2 := k1.bk ((hD.set 0 _).set 1 _) n1 n2 (grownBy_set _ (w.heap.size + 1 + 1) 2 (.slice d.hA d.hs.length d.hc))
    have k3 := k2.bk (((hD.set 0 _).set 1 _).set 2 _) n1 n2 (grownBy_set _ (w.heap.size + 1 + 1) 3 (.slice d.fA d.fs.length d.fc))
    have k4 := k3.bk ((((hD.set 0 _).set 1 _).set 2 _).set 3 _) n1 n2 (grownBy_set _ (w.heap.size + 1 + 1) 4 (.slice d.lA d.ls.length d.lc))
    exact (k4.bk (((((hD.set 0 _).set 1 _).set 2 _).set 3 _).set 4 _) n1 n2 (grownBy_set _ (w.heap.size + 1 + 1) 5 (.int .i64 d.ep))).base hb
  · exact (((((hB.setCell (p := ⟨w.heap.size + 1 + 1, 0, none⟩) (by simp; omega) _).setCell (p := ⟨w.heap.size + 1 + 1, 1, none⟩) (by simp; omega) _).setCell (p := ⟨w.heap.size + 1 + 1, 2, none⟩) (by simp; omega) _).setCell (p := ⟨w.heap.size + 1 + 1, 3, none⟩) (by simp; omega) _).setCell (p := ⟨w.heap.size + 1 + 1, 4, none⟩) (by simp; omega) _).setCell (p := ⟨w.heap.size + 1 + 1, 5, none⟩) (by simp; omega) _
theorem row_some {w : World} {base : Nat} {e : TypeId} {size n c : Nat} {A : Option Addr} {xs : List Value} (h : w.ownsRow base e size (.slice A n c) n xs) (hn : 1 ≤ n) : ∃ g, A = some ⟨g, 0, none⟩ ∧ base ≤ g := by
  rcases h.2 with ⟨h', h0⟩ | ⟨g, cap, cur, h', hb, _⟩
  · omega
  · injection h' with h1
    exact ⟨g, h1, hb⟩
theorem oneI (u : Int) : ∀ v ∈ [Value.int .i64 u], v.oneCell' = true := fun v hv => by simp at hv; subst hv; rfl
set_option maxRecDepth 100000 in
set_option maxHeartbeats 8000000 in
theorem bent_any (d : Wd) (base0 K : Nat) (q0 q1 q2 : Int) (w : World) (h : d.Ok w base0 K) (hK : K ≤ 50000) (hq0 : I64 q0) (hq1 : I64 q1) :
    Calls Tryd.prog 6 #[.agg #[.slice d.iA d.vs.length d.ic, .slice d.cA d.cs.length d.cc, .slice d.hA d.hs.length d.hc, .slice d.fA d.fs.length d.fc, .slice d.lA d.ls.length d.lc, .int .i64 d.ep], .agg #[.int .i64 q0, .int .i64 q1, .int .i64 q2]] w (BentTo K w) := by
  have H := Lib.hid (((h.alloc (.cells #[.slice d.iA d.vs.length d.ic, .slice d.cA d.cs.length d.cc, .slice d.hA d.hs.length d.hc, .slice d.fA d.fs.length d.fc, .slice d.lA d.ls.length d.lc, .int .i64 d.ep] 28)).alloc (.cells #[.int .i64 q0, .int .i64 q1, .int .i64 q2] 23)).alloc (.cells #[.slice none 0 0, .slice none 0 0, .slice none 0 0, .slice none 0 0, .slice none 0 0, .int .i64 0] 28))
  have X0 := Lib.hid (((Bk.new w #[.slice d.iA d.vs.length d.ic, .slice d.cA d.cs.length d.cc, .slice d.hA d.hs.length d.hc, .slice d.fA d.fs.length d.fc, .slice d.lA d.ls.length d.lc, .int .i64 d.ep] 28).alloc (.cells #[.int .i64 q0, .int .i64 q1, .int .i64 q2] 23)).alloc (.cells #[.slice none 0 0, .slice none 0 0, .slice none 0 0, .slice none 0 0, .slice none 0 0, .int .i64 0] 28))
  have x1 := (Bk.new (w.alloc (.cells #[.slice d.iA d.vs.length d.ic, .slice d.cA d.cs.length d.cc, .slice d.hA d.hs.length d.hc, .slice d.fA d.fs.length d.fc, .slice d.lA d.ls.length d.lc, .int .i64 d.ep] 28)) #[.int .i64 q0, .int .i64 q1, .int .i64 q2] 23).alloc (.cells #[.slice none 0 0, .slice none 0 0, .slice none 0 0, .slice none 0 0, .slice none 0 0, .int .i64 0] 28)
  have x2 := Bk.new ((w.alloc (.cells #[.slice d.iA d.vs.length d.ic, .slice d.cA d.cs.length d.cc, .slice d.hA d.hs.length d.hc, .slice d.fA d.fs.length d.fc, .slice d.lA d.ls.length d.lc, .int .i64 d.ep] 28)).alloc (.cells #[.int .i64 q0, .int .i64 q1, .int .i64 q2] 23)) #[.slice none 0 0, .slice none 0 0, .slice none 0 0, .slice none 0 0, .slice none 0 0, .int .i64 0] 28
  simp only [World.size_alloc] at x1 x2
  have XQ := Lib.hid x1
  have XD := Lib.hid x2
  have BX := Lib.hid ((((Below.refl w.heap.size w).alloc (Nat.le_refl _) (.cells #[.slice d.iA d.vs.length d.ic, .slice d.cA d.cs.length d.cc, .slice d.hA d.hs.length d.hc, .slice d.fA d.fs.length d.fc, .slice d.lA d.ls.length d.lc, .int .i64 d.ep] 28)).alloc (by simp) (.cells #[.int .i64 q0, .int .i64 q1, .int .i64 q2] 23)).alloc (by simp; omega) (.cells #[.slice none 0 0, .slice none 0 0, .slice none 0 0, .slice none 0 0, .slice none 0 0, .int .i64 0] 28))
  have HSZ := Lib.hid (show (((w.alloc (.cells #[.slice d.iA d.vs.length d.ic, .slice d.cA d.cs.length d.cc, .slice d.hA d.hs.length d.hc, .slice d.fA d.fs.length d.fc, .slice d.lA d.ls.length d.lc, .int .i64 d.ep] 28)).alloc (.cells #[.int .i64 q0, .int .i64 q1, .int .i64 q2] 23)).alloc (.cells #[.slice none 0 0, .slice none 0 0, .slice none 0 0, .slice none 0 0, .slice none 0 0, .int .i64 0] 28)).heap.size = w.heap.size + 3 by simp)
  clear h x1 x2
  go_enter Tryd.func6, Tryd.ntmps6
  go_wp2_with fail
  obtain ⟨W0, hW0⟩ : ∃ W0, ((w.alloc (.cells #[.slice d.iA d.vs.length d.ic, .slice d.cA d.cs.length d.cc, .slice d.hA d.hs.length d.hc, .slice d.fA d.fs.length d.fc, .slice d.lA d.ls.length d.lc, .int .i64 d.ep] 28)).alloc (.cells #[.int .i64 q0, .int .i64 q1, .int .i64 q2] 23)).alloc (.cells #[.slice none 0 0, .slice none 0 0, .slice none 0 0, .slice none 0 0, .slice none 0 0, .int .i64 0] 28) = W0 := ⟨_, rfl⟩
  rw [hW0] at H X0 XQ XD BX HSZ ⊢
  clear hW0
  refine (copyWorld_any d base0 K _ H.out (by omega)).mono ?_
  rintro e w1 ⟨d1, rfl, _, HD, HB⟩
  have BY := Lib.hid ((BX.out.trans (HB.out.mono (by have := HSZ.out; omega))).alloc (by have := HSZ.out; have := HB.out.size; omega) (.cells #[.slice d1.iA d1.vs.length d1.ic, .slice d1.cA d1.cs.length d1.cc, .slice d1.hA d1.hs.length d1.hc, .slice d1.fA d1.fs.length d1.fc, .slice d1.lA d1.ls.length d1.lc, .int .i64 d1.ep] 28))
  have XO := Lib.hid (Bk.new w1 #[.slice d1.iA d1.vs.length d1.ic, .slice d1.cA d1.cs.length d1.cc, .slice d1.hA d1.hs.length d1.hc, .slice d1.fA d1.fs.length d1.fc, .slice d1.lA d1.ls.length d1.lc, .int .i64 d1.ep] 28)
  have XQ' := Lib.hid ((XQ.out.below HB.out XQ.out.lt).alloc (.cells #[.slice d1.iA d1.vs.length d1.ic, .slice d1.cA d1.cs.length d1.cc, .slice d1.hA d1.hs.length d1.hc, .slice d1.fA d1.fs.length d1.fc, .slice d1.lA d1.ls.length d1.lc, .int .i64 d1.ep] 28))
  have XD' := Lib.hid ((XD.out.below HB.out XD.out.lt).alloc (.cells #[.slice d1.iA d1.vs.length d1.ic, .slice d1.cA d1.cs.length d1.cc, .slice d1.hA d1.hs.length d1.hc, .slice d1.fA d1.fs.length d1.fc, .slice d1.lA d1.ls.length d1.lc, .int .i64 d1.ep] 28))
  have HO := Lib.hid (HD.out.alloc (.cells #[.slice d1.iA d1.vs.length d1.ic, .slice d1.cA d1.cs.length d1.cc, .slice d1.hA d1.hs.length d1.hc, .slice d1.fA d1.fs.length d1.fc, .slice d1.lA d1.ls.length d1.lc, .int .i64 d1.ep] 28))
  have HOL := Lib.hid (show W0.heap.size ≤ w1.heap.size from HB.out.size)
  clear X0 XQ XD BX H HB HD
  have y0 : (w1.alloc (.cells #[.slice d1.iA d1.vs.length d1.ic, .slice d1.cA d1.cs.length d1.cc, .slice d1.hA d1.hs.length d1.hc, .slice d1.fA d1.fs.length d1.fc, .slice d1.lA d1.ls.length d1.lc, .int .i64 d1.ep] 28)).cell? ⟨w.heap.size + 1, 0, none⟩ = some (.int .i64 q0) := XQ'.out.cell 0 _ rfl
  go_wp2_with fail
  obtain ⟨w2, hw2⟩ : ∃ w2, w1.alloc (.cells #[.slice d1.iA d1.vs.length d1.ic, .slice d1.cA d1.cs.length d1.cc, .slice d1.hA d1.hs.length d1.hc, .slice d1.fA d1.fs.length d1.fc, .slice d1.lA d1.ls.length d1.lc, .int .i64 d1.ep] 28) = w2 := ⟨_, rfl⟩
  rw [hw2] at y0 BY XO XQ' XD' HO ⊢
  obtain ⟨O, hO⟩ : ∃ O, w1.heap.size = O := ⟨_, rfl⟩
  rw [hO] at XO HOL ⊢
  clear hw2 hO
  refine (mod_any q0 9 hq0 (by omega) (by omega) _).mono ?_
  rintro e w' ⟨rfl, rfl⟩
  have r0 := Int.emod_nonneg q0 (show (9 : Int) ≠ 0 by omega)
  have r1 := Int.emod_lt_of_pos q0 (show (0 : Int) < 9 by omega)
  generalize q0 % 9 = r at *
  obtain ⟨i0, hi0, hz0, hz1, hz2⟩ := info_parts infoI
  obtain ⟨j0, hj0, hy0, hy1, hy2⟩ := info_parts infoV
  have y1 : w2.cell? ⟨w.heap.size + 1, 1, none⟩ = some (.int .i64 q1) := XQ'.out.cell 1 _ rfl
  have y2 : w2.cell? ⟨w.heap.size + 1, 2, none⟩ = some (.int .i64 q2) := XQ'.out.cell 2 _ rfl
  rcases (show r = 0 ∨ r = 1 ∨ r = 2 ∨ r = 3 ∨ r = 4 ∨ r = 5 ∨ r = 6 ∨ r = 7 ∨ r = 8 by omega) with rfl | rfl | rfl | rfl | rfl | rfl | rfl | rfl | rfl
  · -- 0
    have hn := HO.out.n
    have HA := Lib.hid (HO.out.alloc (.cells #[.int .i64 q1, .int .i64 q2, .string ⟨#[]⟩] 52))
    have k0 : w2.cell? ⟨O, 0, none⟩ = some (.slice d1.iA d1.vs.length d1.ic) := XO.out.cell 0 _ rfl
    go_wp2_with (at_builtin; refine list_append_at rfl _ _ _ rfl W0.heap.size 52 j0 _ 3 32 Tryd.underlying26 hj0 hy0 hy1 hy2 rfl (by omega) (.slice d1.iA d1.vs.length d1.ic) d1.vs.length (d1.vs.flatMap vcells) rfl (HA.out.rows.own 0 (by omega)) ⟨w2.heap.size, 0, none⟩ 1 1 [.int .i64 q1, .int .i64 q2, .string ⟨#[]⟩] rfl rfl (World.news_of_block (cs := #[.int .i64 q1, .int .i64 q2, .string ⟨#[]⟩]) (t := 52) (fr := (0, 0)) (heap_alloc_new w2 _)) (fun u hu => by simp at hu; rcases hu with rfl | rfl | rfl <;> rfl) (by unfold maxLen; omega) (by omega) (by have := HOL.out; have := XO.out.lt; simp; omega) ?_; intro A' c' w4 a1 a2 a3; clear k0; have hrow := HA.out.rows.own 0 (by omega); have HN := Lib.hid (HA.out.app0 A' c' (q1, q2, (⟨#[]⟩ : ByteArray)) (Nat.zero_le 1000) a2 (by simpa [vcells] using a1) a3); have XO4 := Lib.hid ((XO.out.alloc (.cells #[.int .i64 q1, .int .i64 q2, .string ⟨#[]⟩] 52)).kept a2 (own_ne hrow (XO.out.alloc _) (show (52 : TypeId) ≠ 28 by decide))); have XD4 := Lib.hid ((XD'.out.alloc (.cells #[.int .i64 q1, .int .i64 q2, .string ⟨#[]⟩] 52)).kept a2 (own_ne hrow (XD'.out.alloc _) (show (52 : TypeId) ≠ 28 by decide))); have BY4 := Lib.hid ((BY.out.alloc (BY.out.size) (.cells #[.int .i64 q1, .int .i64 q2, .string ⟨#[]⟩] 52)).grown a2 (by have := BY.out.size; simp; omega) (fun b hb => by have h9 : W0.heap.size ≤ b := (World.ownsRow.lt hrow b hb).1; have := HSZ.out; omega)); have k0 : w4.cell? ⟨O, 0, none⟩ = some (.slice d1.iA d1.vs.length d1.ic) := XO4.out.cell 0 _ rfl; have g0 := XO4.out.frozen 0; have XO5 := Lib.hid (XO4.out.set 0 (.slice A' (d1.vs.length + 1) c')); have XD2 := Lib.hid (XD4.out.far (p := ⟨O, 0, none⟩) (by show w.heap.size + 1 + 1 ≠ O; have := HSZ.out; have := HOL.out; omega) (.slice A' (d1.vs.length + 1) c')); have m0 : (w4.setCell ⟨O, 0, none⟩ (.slice A' (d1.vs.length + 1) c')).cell? ⟨O, 0, none⟩ = some (.slice A' (d1.vs.length + 1) c') := XO5.out.cell 0 _ rfl; have zz0 : (w4.setCell ⟨O, 0, none⟩ (.slice A' (d1.vs.length + 1) c')).cell? ⟨w.heap.size + 1 + 1, 0, none⟩ = some (.slice none 0 0) := XD2.out.cell 0 _ rfl; have f0 := XD2.out.frozen 0; have m1 : (w4.setCell ⟨O, 0, none⟩ (.slice A' (d1.vs.length + 1) c')).cell? ⟨O, 1, none⟩ = some (.slice d1.cA d1.cs.length d1.cc) := XO5.out.cell 1 _ rfl; have zz1 : (w4.setCell ⟨O, 0, none⟩ (.slice A' (d1.vs.length + 1) c')).cell? ⟨w.heap.size + 1 + 1, 1, none⟩ = some (.slice none 0 0) := XD2.out.cell 1 _ rfl; have f1 := XD2.out.frozen 1; have m2 : (w4.setCell ⟨O, 0, none⟩ (.slice A' (d1.vs.length + 1) c')).cell? ⟨O, 2, none⟩ = some (.slice d1.hA d1.hs.length d1.hc) := XO5.out.cell 2 _ rfl; have zz2 : (w4.setCell ⟨O, 0, none⟩ (.slice A' (d1.vs.length + 1) c')).cell? ⟨w.heap.size + 1 + 1, 2, none⟩ = some (.slice none 0 0) := XD2.out.cell 2 _ rfl; have f2 := XD2.out.frozen 2; have m3 : (w4.setCell ⟨O, 0, none⟩ (.slice A' (d1.vs.length + 1) c')).cell? ⟨O, 3, none⟩ = some (.slice d1.fA d1.fs.length d1.fc) := XO5.out.cell 3 _ rfl; have zz3 : (w4.setCell ⟨O, 0, none⟩ (.slice A' (d1.vs.length + 1) c')).cell? ⟨w.heap.size + 1 + 1, 3, none⟩ = some (.slice none 0 0) := XD2.out.cell 3 _ rfl; have f3 := XD2.out.frozen 3; have m4 : (w4.setCell ⟨O, 0, none⟩ (.slice A' (d1.vs.length + 1) c')).cell? ⟨O, 4, none⟩ = some (.slice d1.lA d1.ls.length d1.lc) := XO5.out.cell 4 _ rfl; have zz4 : (w4.setCell ⟨O, 0, none⟩ (.slice A' (d1.vs.length + 1) c')).cell? ⟨w.heap.size + 1 + 1, 4, none⟩ = some (.slice none 0 0) := XD2.out.cell 4 _ rfl; have f4 := XD2.out.frozen 4; have m5 : (w4.setCell ⟨O, 0, none⟩ (.slice A' (d1.vs.length + 1) c')).cell? ⟨O, 5, none⟩ = some (.int .i64 d1.ep) := XO5.out.cell 5 _ rfl; have zz5 : (w4.setCell ⟨O, 0, none⟩ (.slice A' (d1.vs.length + 1) c')).cell? ⟨w.heap.size + 1 + 1, 5, none⟩ = some (.int .i64 0) := XD2.out.cell 5 _ rfl; have f5 := XD2.out.frozen 5; clear a1 a2 a3 hrow)
    have HO2 := Lib.hid (HN.out.bk XO4.out (show (52 : TypeId) ≠ 28 by decide) (show (3 : TypeId) ≠ 28 by decide) (grownBy_set w4 O 0 (.slice A' (d1.vs.length + 1) c')))
    have XO2 := Lib.hid (show Bk (w4.setCell ⟨O, 0, none⟩ (.slice A' (d1.vs.length + 1) c')) O #[.slice ({ d1 with iA := A', vs := d1.vs ++ [(q1, q2, (⟨#[]⟩ : ByteArray))], ic := c' } : Wd).iA ({ d1 with iA := A', vs := d1.vs ++ [(q1, q2, (⟨#[]⟩ : ByteArray))], ic := c' } : Wd).vs.length ({ d1 with iA := A', vs := d1.vs ++ [(q1, q2, (⟨#[]⟩ : ByteArray))], ic := c' } : Wd).ic, .slice ({ d1 with iA := A', vs := d1.vs ++ [(q1, q2, (⟨#[]⟩ : ByteArray))], ic := c' } : Wd).cA ({ d1 with iA := A', vs := d1.vs ++ [(q1, q2, (⟨#[]⟩ : ByteArray))], ic := c' } : Wd).cs.length ({ d1 with iA := A', vs := d1.vs ++ [(q1, q2, (⟨#[]⟩ : ByteArray))], ic := c' } : Wd).cc, .slice ({ d1 with iA := A', vs := d1.vs ++ [(q1, q2, (⟨#[]⟩ : ByteArray))], ic := c' } : Wd).hA ({ d1 with iA := A', vs := d1.vs ++ [(q1, q2, (⟨#[]⟩ : ByteArray))], ic := c' } : Wd).hs.length ({ d1 with iA := A', vs := d1.vs ++ [(q1, q2, (⟨#[]⟩ : ByteArray))], ic := c' } : Wd).hc, .slice ({ d1 with iA := A', vs := d1.vs ++ [(q1, q2, (⟨#[]⟩ : ByteArray))], ic := c' } : Wd).fA ({ d1 with iA := A', vs := d1.vs ++ [(q1, q2, (⟨#[]⟩ : ByteArray))], ic := c' } : Wd).fs.length ({ d1 with iA := A', vs := d1.vs ++ [(q1, q2, (⟨#[]⟩ : ByteArray))], ic := c' } : Wd).fc, .slice ({ d1 with iA := A', vs := d1.vs ++ [(q1, q2, (⟨#[]⟩ : ByteArray))], ic := c' } : Wd).lA ({ d1 with iA := A', vs := d1.vs ++ [(q1, q2, (⟨#[]⟩ : ByteArray))], ic := c' } : Wd).ls.length ({ d1 with iA := A', vs := d1.vs ++ [(q1, q2, (⟨#[]⟩ : ByteArray))], ic := c' } : Wd).lc, .int .i64 ({ d1 with iA := A', vs := d1.vs ++ [(q1, q2, (⟨#[]⟩ : ByteArray))], ic := c' } : Wd).ep] 28 from by
      have := XO5.out
      simpa using this)
    have BY2 := Lib.hid (BY4.out.setCell (p := ⟨O, 0, none⟩) (by show w.heap.size ≤ O; have := HSZ.out; have := HOL.out; omega) (.slice A' (d1.vs.length + 1) c'))
    obtain ⟨wz, hwz, XZ, OZ, BZ⟩ := bent_end HO2.out XO2.out XD2.out BY2.out (by have := HSZ.out; omega)
    simp only [List.length_append, List.length_cons, List.length_nil, Nat.zero_add] at hwz
    rw [← hwz]
    have e0 := XZ.cell 0 _ rfl
    have e1 := XZ.cell 1 _ rfl
    have e2 := XZ.cell 2 _ rfl
    have e3 := XZ.cell 3 _ rfl
    have e4 := XZ.cell 4 _ rfl
    have e5 := XZ.cell 5 _ rfl
    exact bodyPost_ret (v := .agg #[.slice ({ d1 with iA := A', vs := d1.vs ++ [(q1, q2, (⟨#[]⟩ : ByteArray))], ic := c' } : Wd).iA ({ d1 with iA := A', vs := d1.vs ++ [(q1, q2, (⟨#[]⟩ : ByteArray))], ic := c' } : Wd).vs.length ({ d1 with iA := A', vs := d1.vs ++ [(q1, q2, (⟨#[]⟩ : ByteArray))], ic := c' } : Wd).ic, .slice ({ d1 with iA := A', vs := d1.vs ++ [(q1, q2, (⟨#[]⟩ : ByteArray))], ic := c' } : Wd).cA ({ d1 with iA := A', vs := d1.vs ++ [(q1, q2, (⟨#[]⟩ : ByteArray))], ic := c' } : Wd).cs.length ({ d1 with iA := A', vs := d1.vs ++ [(q1, q2, (⟨#[]⟩ : ByteArray))], ic := c' } : Wd).cc, .slice ({ d1 with iA := A', vs := d1.vs ++ [(q1, q2, (⟨#[]⟩ : ByteArray))], ic := c' } : Wd).hA ({ d1 with iA := A', vs := d1.vs ++ [(q1, q2, (⟨#[]⟩ : ByteArray))], ic := c' } : Wd).hs.length ({ d1 with iA := A', vs := d1.vs ++ [(q1, q2, (⟨#[]⟩ : ByteArray))], ic := c' } : Wd).hc, .slice ({ d1 with iA := A', vs := d1.vs ++ [(q1, q2, (⟨#[]⟩ : ByteArray))], ic := c' } : Wd).fA ({ d1 with iA := A', vs := d1.vs ++ [(q1, q2, (⟨#[]⟩ : ByteArray))], ic := c' } : Wd).fs.length ({ d1 with iA := A', vs := d1.vs ++ [(q1, q2, (⟨#[]⟩ : ByteArray))], ic := c' } : Wd).fc, .slice ({ d1 with iA := A', vs := d1.vs ++ [(q1, q2, (⟨#[]⟩ : ByteArray))], ic := c' } : Wd).lA ({ d1 with iA := A', vs := d1.vs ++ [(q1, q2, (⟨#[]⟩ : ByteArray))], ic := c' } : Wd).ls.length ({ d1 with iA := A', vs := d1.vs ++ [(q1, q2, (⟨#[]⟩ : ByteArray))], ic := c' } : Wd).lc, .int .i64 ({ d1 with iA := A', vs := d1.vs ++ [(q1, q2, (⟨#[]⟩ : ByteArray))], ic := c' } : Wd).ep]) (by simp [results, Tryd.results6, go_sem, e0, e1, e2, e3, e4, e5]) rfl ⟨_, rfl, Lib.hid (OZ.more (by omega)), Lib.hid BZ⟩
  · -- 1
    have hn := HO.out.n
    have HA := Lib.hid (HO.out.alloc (.cells #[.int .i64 q2] 3))
    have k1 : w2.cell? ⟨O, 1, none⟩ = some (.slice d1.cA d1.cs.length d1.cc) := XO.out.cell 1 _ rfl
    go_wp2_with (at_builtin; refine list_append_at rfl _ _ _ rfl W0.heap.size 3 i0 _ 1 8 Tryd.underlying22 hi0 hz0 hz1 hz2 rfl (by omega) (.slice d1.cA d1.cs.length d1.cc) d1.cs.length (d1.cs.map (Value.int .i64)) rfl (HA.out.rows.own 1 (by omega)) ⟨w2.heap.size, 0, none⟩ 1 1 [.int .i64 q2] rfl rfl (World.news_of_block (cs := #[.int .i64 q2]) (t := 3) (fr := (0, 0)) (heap_alloc_new w2 _)) (oneI _) (by unfold maxLen; omega) (by omega) (by have := HOL.out; have := XO.out.lt; simp; omega) ?_; intro A' c' w4 a1 a2 a3; clear k1; have hrow := HA.out.rows.own 1 (by omega); have HN := Lib.hid (HA.out.app1 A' c' q2 a2 a1 a3); have XO4 := Lib.hid ((XO.out.alloc (.cells #[.int .i64 q2] 3)).kept a2 (own_ne hrow (XO.out.alloc _) (show (3 : TypeId) ≠ 28 by decide))); have XD4 := Lib.hid ((XD'.out.alloc (.cells #[.int .i64 q2] 3)).kept a2 (own_ne hrow (XD'.out.alloc _) (show (3 : TypeId) ≠ 28 by decide))); have BY4 := Lib.hid ((BY.out.alloc (BY.out.size) (.cells #[.int .i64 q2] 3)).grown a2 (by have := BY.out.size; simp; omega) (fun b hb => by have h9 : W0.heap.size ≤ b := (World.ownsRow.lt hrow b hb).1; have := HSZ.out; omega)); have k1 : w4.cell? ⟨O, 1, none⟩ = some (.slice d1.cA d1.cs.length d1.cc) := XO4.out.cell 1 _ rfl; have g1 := XO4.out.frozen 1; have XO5 := Lib.hid (XO4.out.set 1 (.slice A' (d1.cs.length + 1) c')); have XD2 := Lib.hid (XD4.out.far (p := ⟨O, 1, none⟩) (by show w.heap.size + 1 + 1 ≠ O; have := HSZ.out; have := HOL.out; omega) (.slice A' (d1.cs.length + 1) c')); have m0 : (w4.setCell ⟨O, 1, none⟩ (.slice A' (d1.cs.length + 1) c')).cell? ⟨O, 0, none⟩ = some (.slice d1.iA d1.vs.length d1.ic) := XO5.out.cell 0 _ rfl; have zz0 : (w4.setCell ⟨O, 1, none⟩ (.slice A' (d1.cs.length + 1) c')).cell? ⟨w.heap.size + 1 + 1, 0, none⟩ = some (.slice none 0 0) := XD2.out.cell 0 _ rfl; have f0 := XD2.out.frozen 0; have m1 : (w4.setCell ⟨O, 1, none⟩ (.slice A' (d1.cs.length + 1) c')).cell? ⟨O, 1, none⟩ = some (.slice A' (d1.cs.length + 1) c') := XO5.out.cell 1 _ rfl; have zz1 : (w4.setCell ⟨O, 1, none⟩ (.slice A' (d1.cs.length + 1) c')).cell? ⟨w.heap.size + 1 + 1, 1, none⟩ = some (.slice none 0 0) := XD2.out.cell 1 _ rfl; have f1 := XD2.out.frozen 1; have m2 : (w4.setCell ⟨O, 1, none⟩ (.slice A' (d1.cs.length + 1) c')).cell? ⟨O, 2, none⟩ = some (.slice d1.hA d1.hs.length d1.hc) := XO5.out.cell 2 _ rfl; have zz2 : (w4.setCell ⟨O, 1, none⟩ (.slice A' (d1.cs.length + 1) c')).cell? ⟨w.heap.size + 1 + 1, 2, none⟩ = some (.slice none 0 0) := XD2.out.cell 2 _ rfl; have f2 := XD2.out.frozen 2; have m3 : (w4.setCell ⟨O, 1, none⟩ (.slice A' (d1.cs.length + 1) c')).cell? ⟨O, 3, none⟩ = some (.slice d1.fA d1.fs.length d1.fc) := XO5.out.cell 3 _ rfl; have zz3 : (w4.setCell ⟨O, 1, none⟩ (.slice A' (d1.cs.length + 1) c')).cell? ⟨w.heap.size + 1 + 1, 3, none⟩ = some (.slice none 0 0) := XD2.out.cell 3 _ rfl; have f3 := XD2.out.frozen 3; have m4 : (w4.setCell ⟨O, 1, none⟩ (.slice A' (d1.cs.length + 1) c')).cell? ⟨O, 4, none⟩ = some (.slice d1.lA d1.ls.length d1.lc) := XO5.out.cell 4 _ rfl; have zz4 : (w4.setCell ⟨O, 1, none⟩ (.slice A' (d1.cs.length + 1) c')).cell? ⟨w.heap.size + 1 + 1, 4, none⟩ = some (.slice none 0 0) := XD2.out.cell 4 _ rfl; have f4 := XD2.out.frozen 4; have m5 : (w4.setCell ⟨O, 1, none⟩ (.slice A' (d1.cs.length + 1) c')).cell? ⟨O, 5, none⟩ = some (.int .i64 d1.ep) := XO5.out.cell 5 _ rfl; have zz5 : (w4.setCell ⟨O, 1, none⟩ (.slice A' (d1.cs.length + 1) c')).cell? ⟨w.heap.size + 1 + 1, 5, none⟩ = some (.int .i64 0) := XD2.out.cell 5 _ rfl; have f5 := XD2.out.frozen 5; clear a1 a2 a3 hrow)
    have HO2 := Lib.hid (HN.out.bk XO4.out (show (52 : TypeId) ≠ 28 by decide) (show (3 : TypeId) ≠ 28 by decide) (grownBy_set w4 O 1 (.slice A' (d1.cs.length + 1) c')))
    have XO2 := Lib.hid (show Bk (w4.setCell ⟨O, 1, none⟩ (.slice A' (d1.cs.length + 1) c')) O #[.slice ({ d1 with cA := A', cs := d1.cs ++ [q2], cc := c' } : Wd).iA ({ d1 with cA := A', cs := d1.cs ++ [q2], cc := c' } : Wd).vs.length ({ d1 with cA := A', cs := d1.cs ++ [q2], cc := c' } : Wd).ic, .slice ({ d1 with cA := A', cs := d1.cs ++ [q2], cc := c' } : Wd).cA ({ d1 with cA := A', cs := d1.cs ++ [q2], cc := c' } : Wd).cs.length ({ d1 with cA := A', cs := d1.cs ++ [q2], cc := c' } : Wd).cc, .slice ({ d1 with cA := A', cs := d1.cs ++ [q2], cc := c' } : Wd).hA ({ d1 with cA := A', cs := d1.cs ++ [q2], cc := c' } : Wd).hs.length ({ d1 with cA := A', cs := d1.cs ++ [q2], cc := c' } : Wd).hc, .slice ({ d1 with cA := A', cs := d1.cs ++ [q2], cc := c' } : Wd).fA ({ d1 with cA := A', cs := d1.cs ++ [q2], cc := c' } : Wd).fs.length ({ d1 with cA := A', cs := d1.cs ++ [q2], cc := c' } : Wd).fc, .slice ({ d1 with cA := A', cs := d1.cs ++ [q2], cc := c' } : Wd).lA ({ d1 with cA := A', cs := d1.cs ++ [q2], cc := c' } : Wd).ls.length ({ d1 with cA := A', cs := d1.cs ++ [q2], cc := c' } : Wd).lc, .int .i64 ({ d1 with cA := A', cs := d1.cs ++ [q2], cc := c' } : Wd).ep] 28 from by
      have := XO5.out
      simpa using this)
    have BY2 := Lib.hid (BY4.out.setCell (p := ⟨O, 1, none⟩) (by show w.heap.size ≤ O; have := HSZ.out; have := HOL.out; omega) (.slice A' (d1.cs.length + 1) c'))
    obtain ⟨wz, hwz, XZ, OZ, BZ⟩ := bent_end HO2.out XO2.out XD2.out BY2.out (by have := HSZ.out; omega)
    simp only [List.length_append, List.length_cons, List.length_nil, Nat.zero_add] at hwz
    rw [← hwz]
    have e0 := XZ.cell 0 _ rfl
    have e1 := XZ.cell 1 _ rfl
    have e2 := XZ.cell 2 _ rfl
    have e3 := XZ.cell 3 _ rfl
    have e4 := XZ.cell 4 _ rfl
    have e5 := XZ.cell 5 _ rfl
    exact bodyPost_ret (v := .agg #[.slice ({ d1 with cA := A', cs := d1.cs ++ [q2], cc := c' } : Wd).iA ({ d1 with cA := A', cs := d1.cs ++ [q2], cc := c' } : Wd).vs.length ({ d1 with cA := A', cs := d1.cs ++ [q2], cc := c' } : Wd).ic, .slice ({ d1 with cA := A', cs := d1.cs ++ [q2], cc := c' } : Wd).cA ({ d1 with cA := A', cs := d1.cs ++ [q2], cc := c' } : Wd).cs.length ({ d1 with cA := A', cs := d1.cs ++ [q2], cc := c' } : Wd).cc, .slice ({ d1 with cA := A', cs := d1.cs ++ [q2], cc := c' } : Wd).hA ({ d1 with cA := A', cs := d1.cs ++ [q2], cc := c' } : Wd).hs.length ({ d1 with cA := A', cs := d1.cs ++ [q2], cc := c' } : Wd).hc, .slice ({ d1 with cA := A', cs := d1.cs ++ [q2], cc := c' } : Wd).fA ({ d1 with cA := A', cs := d1.cs ++ [q2], cc := c' } : Wd).fs.length ({ d1 with cA := A', cs := d1.cs ++ [q2], cc := c' } : Wd).fc, .slice ({ d1 with cA := A', cs := d1.cs ++ [q2], cc := c' } : Wd).lA ({ d1 with cA := A', cs := d1.cs ++ [q2], cc := c' } : Wd).ls.length ({ d1 with cA := A', cs := d1.cs ++ [q2], cc := c' } : Wd).lc, .int .i64 ({ d1 with cA := A', cs := d1.cs ++ [q2], cc := c' } : Wd).ep]) (by simp [results, Tryd.results6, go_sem, e0, e1, e2, e3, e4, e5]) rfl ⟨_, rfl, Lib.hid (OZ.more (by omega)), Lib.hid BZ⟩
  · -- 2
    have hn := HO.out.n
    have HA := Lib.hid (HO.out.alloc (.cells #[.int .i64 q2] 3))
    have k2 : w2.cell? ⟨O, 2, none⟩ = some (.slice d1.hA d1.hs.length d1.hc) := XO.out.cell 2 _ rfl
    go_wp2_with (at_builtin; refine list_append_at rfl _ _ _ rfl W0.heap.size 3 i0 _ 1 8 Tryd.underlying22 hi0 hz0 hz1 hz2 rfl (by omega) (.slice d1.hA d1.hs.length d1.hc) d1.hs.length (d1.hs.map (Value.int .i64)) rfl (HA.out.rows.own 2 (by omega)) ⟨w2.heap.size, 0, none⟩ 1 1 [.int .i64 q2] rfl rfl (World.news_of_block (cs := #[.int .i64 q2]) (t := 3) (fr := (0, 0)) (heap_alloc_new w2 _)) (oneI _) (by unfold maxLen; omega) (by omega) (by have := HOL.out; have := XO.out.lt; simp; omega) ?_; intro A' c' w4 a1 a2 a3; clear k2; have hrow := HA.out.rows.own 2 (by omega); have HN := Lib.hid (HA.out.app2 A' c' q2 a2 a1 a3); have XO4 := Lib.hid ((XO.out.alloc (.cells #[.int .i64 q2] 3)).kept a2 (own_ne hrow (XO.out.alloc _) (show (3 : TypeId) ≠ 28 by decide))); have XD4 := Lib.hid ((XD'.out.alloc (.cells #[.int .i64 q2] 3)).kept a2 (own_ne hrow (XD'.out.alloc _) (show (3 : TypeId) ≠ 28 by decide))); have BY4 := Lib.hid ((BY.out.alloc (BY.out.size) (.cells #[.int .i64 q2] 3)).grown a2 (by have := BY.out.size; simp; omega) (fun b hb => by have h9 : W0.heap.size ≤ b := (World.ownsRow.lt hrow b hb).1; have := HSZ.out; omega)); have k2 : w4.cell? ⟨O, 2, none⟩ = some (.slice d1.hA d1.hs.length d1.hc) := XO4.out.cell 2 _ rfl; have g2 := XO4.out.frozen 2; have XO5 := Lib.hid (XO4.out.set 2 (.slice A' (d1.hs.length + 1) c')); have XD2 := Lib.hid (XD4.out.far (p := ⟨O, 2, none⟩) (by show w.heap.size + 1 + 1 ≠ O; have := HSZ.out; have := HOL.out; omega) (.slice A' (d1.hs.length + 1) c')); have m0 : (w4.setCell ⟨O, 2, none⟩ (.slice A' (d1.hs.length + 1) c')).cell? ⟨O, 0, none⟩ = some (.slice d1.iA d1.vs.length d1.ic) := XO5.out.cell 0 _ rfl; have zz0 : (w4.setCell ⟨O, 2, none⟩ (.slice A' (d1.hs.length + 1) c')).cell? ⟨w.heap.size + 1 + 1, 0, none⟩ = some (.slice none 0 0) := XD2.out.cell 0 _ rfl; have f0 := XD2.out.frozen 0; have m1 : (w4.setCell ⟨O, 2, none⟩ (.slice A' (d1.hs.length + 1) c')).cell? ⟨O, 1, none⟩ = some (.slice d1.cA d1.cs.length d1.cc) := XO5.out.cell 1 _ rfl; have zz1 : (w4.setCell ⟨O, 2, none⟩ (.slice A' (d1.hs.length + 1) c')).cell? ⟨w.heap.size + 1 + 1, 1, none⟩ = some (.slice none 0 0) := XD2.out.cell 1 _ rfl; have f1 := XD2.out.frozen 1; have m2 : (w4.setCell ⟨O, 2, none⟩ (.slice A' (d1.hs.length + 1) c')).cell? ⟨O, 2, none⟩ = some (.slice A' (d1.hs.length + 1) c') := XO5.out.cell 2 _ rfl; have zz2 : (w4.setCell ⟨O, 2, none⟩ (.slice A' (d1.hs.length + 1) c')).cell? ⟨w.heap.size + 1 + 1, 2, none⟩ = some (.slice none 0 0) := XD2.out.cell 2 _ rfl; have f2 := XD2.out.frozen 2; have m3 : (w4.setCell ⟨O, 2, none⟩ (.slice A' (d1.hs.length + 1) c')).cell? ⟨O, 3, none⟩ = some (.slice d1.fA d1.fs.length d1.fc) := XO5.out.cell 3 _ rfl; have zz3 : (w4.setCell ⟨O, 2, none⟩ (.slice A' (d1.hs.length + 1) c')).cell? ⟨w.heap.size + 1 + 1, 3, none⟩ = some (.slice none 0 0) := XD2.out.cell 3 _ rfl; have f3 := XD2.out.frozen 3; have m4 : (w4.setCell ⟨O, 2, none⟩ (.slice A' (d1.hs.length + 1) c')).cell? ⟨O, 4, none⟩ = some (.slice d1.lA d1.ls.length d1.lc) := XO5.out.cell 4 _ rfl; have zz4 : (w4.setCell ⟨O, 2, none⟩ (.slice A' (d1.hs.length + 1) c')).cell? ⟨w.heap.size + 1 + 1, 4, none⟩ = some (.slice none 0 0) := XD2.out.cell 4 _ rfl; have f4 := XD2.out.frozen 4; have m5 : (w4.setCell ⟨O, 2, none⟩ (.slice A' (d1.hs.length + 1) c')).cell? ⟨O, 5, none⟩ = some (.int .i64 d1.ep) := XO5.out.cell 5 _ rfl; have zz5 : (w4.setCell ⟨O, 2, none⟩ (.slice A' (d1.hs.length + 1) c')).cell? ⟨w.heap.size + 1 + 1, 5, none⟩ = some (.int .i64 0) := XD2.out.cell 5 _ rfl; have f5 := XD2.out.frozen 5; clear a1 a2 a3 hrow)
    have HO2 := Lib.hid (HN.out.bk XO4.out (show (52 : TypeId) ≠ 28 by decide) (show (3 : TypeId) ≠ 28 by decide) (grownBy_set w4 O 2 (.slice A' (d1.hs.length + 1) c')))
    have XO2 := Lib.hid (show Bk (w4.setCell ⟨O, 2, none⟩ (.slice A' (d1.hs.length + 1) c')) O #[.slice ({ d1 with hA := A', hs := d1.hs ++ [q2], hc := c' } : Wd).iA ({ d1 with hA := A', hs := d1.hs ++ [q2], hc := c' } : Wd).vs.length ({ d1 with hA := A', hs := d1.hs ++ [q2], hc := c' } : Wd).ic, .slice ({ d1 with hA := A', hs := d1.hs ++ [q2], hc := c' } : Wd).cA ({ d1 with hA := A', hs := d1.hs ++ [q2], hc := c' } : Wd).cs.length ({ d1 with hA := A', hs := d1.hs ++ [q2], hc := c' } : Wd).cc, .slice ({ d1 with hA := A', hs := d1.hs ++ [q2], hc := c' } : Wd).hA ({ d1 with hA := A', hs := d1.hs ++ [q2], hc := c' } : Wd).hs.length ({ d1 with hA := A', hs := d1.hs ++ [q2], hc := c' } : Wd).hc, .slice ({ d1 with hA := A', hs := d1.hs ++ [q2], hc := c' } : Wd).fA ({ d1 with hA := A', hs := d1.hs ++ [q2], hc := c' } : Wd).fs.length ({ d1 with hA := A', hs := d1.hs ++ [q2], hc := c' } : Wd).fc, .slice ({ d1 with hA := A', hs := d1.hs ++ [q2], hc := c' } : Wd).lA ({ d1 with hA := A', hs := d1.hs ++ [q2], hc := c' } : Wd).ls.length ({ d1 with hA := A', hs := d1.hs ++ [q2], hc := c' } : Wd).lc, .int .i64 ({ d1 with hA := A', hs := d1.hs ++ [q2], hc := c' } : Wd).ep] 28 from by
      have := XO5.out
      simpa using this)
    have BY2 := Lib.hid (BY4.out.setCell (p := ⟨O, 2, none⟩) (by show w.heap.size ≤ O; have := HSZ.out; have := HOL.out; omega) (.slice A' (d1.hs.length + 1) c'))
    obtain ⟨wz, hwz, XZ, OZ, BZ⟩ := bent_end HO2.out XO2.out XD2.out BY2.out (by have := HSZ.out; omega)
    simp only [List.length_append, List.length_cons, List.length_nil, Nat.zero_add] at hwz
    rw [← hwz]
    have e0 := XZ.cell 0 _ rfl
    have e1 := XZ.cell 1 _ rfl
    have e2 := XZ.cell 2 _ rfl
    have e3 := XZ.cell 3 _ rfl
    have e4 := XZ.cell 4 _ rfl
    have e5 := XZ.cell 5 _ rfl
    exact bodyPost_ret (v := .agg #[.slice ({ d1 with hA := A', hs := d1.hs ++ [q2], hc := c' } : Wd).iA ({ d1 with hA := A', hs := d1.hs ++ [q2], hc := c' } : Wd).vs.length ({ d1 with hA := A', hs := d1.hs ++ [q2], hc := c' } : Wd).ic, .slice ({ d1 with hA := A', hs := d1.hs ++ [q2], hc := c' } : Wd).cA ({ d1 with hA := A', hs := d1.hs ++ [q2], hc := c' } : Wd).cs.length ({ d1 with hA := A', hs := d1.hs ++ [q2], hc := c' } : Wd).cc, .slice ({ d1 with hA := A', hs := d1.hs ++ [q2], hc := c' } : Wd).hA ({ d1 with hA := A', hs := d1.hs ++ [q2], hc := c' } : Wd).hs.length ({ d1 with hA := A', hs := d1.hs ++ [q2], hc := c' } : Wd).hc, .slice ({ d1 with hA := A', hs := d1.hs ++ [q2], hc := c' } : Wd).fA ({ d1 with hA := A', hs := d1.hs ++ [q2], hc := c' } : Wd).fs.length ({ d1 with hA := A', hs := d1.hs ++ [q2], hc := c' } : Wd).fc, .slice ({ d1 with hA := A', hs := d1.hs ++ [q2], hc := c' } : Wd).lA ({ d1 with hA := A', hs := d1.hs ++ [q2], hc := c' } : Wd).ls.length ({ d1 with hA := A', hs := d1.hs ++ [q2], hc := c' } : Wd).lc, .int .i64 ({ d1 with hA := A', hs := d1.hs ++ [q2], hc := c' } : Wd).ep]) (by simp [results, Tryd.results6, go_sem, e0, e1, e2, e3, e4, e5]) rfl ⟨_, rfl, Lib.hid (OZ.more (by omega)), Lib.hid BZ⟩
  · -- 3
    have h1 := HO.out.one
    have hn := HO.out.n
    obtain ⟨g, hgA, hg0⟩ := row_some (HO.out.rows.own 3 (by omega)) (show 1 ≤ d1.fs.length by omega)
    have k3 : w2.cell? ⟨O, 3, none⟩ = some (.slice (some ⟨g, 0, none⟩) d1.fs.length d1.fc) := by rw [← hgA]; exact XO.out.cell 3 _ rfl
    have SV := Lib.hid (show (fun v => v.cell? ⟨O, 3, none⟩ = some (.slice (some ⟨g, 0, none⟩) d1.fs.length d1.fc) ∧ v.cell? ⟨w.heap.size + 1, 1, none⟩ = some (.int .i64 q1) ∧ v.cell? ⟨w.heap.size + 1, 2, none⟩ = some (.int .i64 q2)) w2.drew from ⟨k3, y1, y2⟩)
    have HGA := Lib.hid hgA
    clear hgA k3
    go_wp2_with fail
    refine wp_region_held (S := fun v => v.cell? ⟨O, 3, none⟩ = some (.slice (some ⟨g, 0, none⟩) d1.fs.length d1.fc) ∧ v.cell? ⟨w.heap.size + 1, 1, none⟩ = some (.int .i64 q1) ∧ v.cell? ⟨w.heap.size + 1, 2, none⟩ = some (.int .i64 q2)) (by kernel_rfl) ?_
    refine wpAnyH_take (i := 0) (v := ?_) rfl (by kernel_rfl) (by kernel_rfl) (by kernel_rfl) (fun _ _ _ h => h) (.inl ⟨by kernel_rfl, fun v hS => ?_⟩) SV.out ?_
    rotate_left
    · obtain ⟨c0, c1, c2⟩ := hS
      go_simp
      with_reducible rfl
    refine wpAnyH_take (i := 1) (v := ?_) rfl (by kernel_rfl) (by kernel_rfl) (by kernel_rfl) (fun _ _ _ h => h) (.inl ⟨by kernel_rfl, fun v hS => ?_⟩) SV.out ?_
    rotate_left
    · obtain ⟨c0, c1, c2⟩ := hS
      go_simp
      with_reducible rfl
    refine wpAnyH_take (i := 2) (v := ?_) rfl (by kernel_rfl) (by kernel_rfl) (by kernel_rfl) (fun _ _ _ h => h) (.inl ⟨by kernel_rfl, fun v hS => ?_⟩) SV.out ?_
    rotate_left
    · obtain ⟨c0, c1, c2⟩ := hS
      go_simp
      with_reducible rfl
    refine wpAnyH_take (i := 3) (v := ?_) rfl (by kernel_rfl) (by kernel_rfl) (by kernel_rfl) (fun _ _ _ h => h) (.inl ⟨by kernel_rfl, fun v hS => ?_⟩) SV.out ?_
    rotate_left
    · obtain ⟨c0, c1, c2⟩ := hS
      go_simp
      with_reducible rfl
    refine wpAnyH_take (i := 4) (v := ?_) rfl (by kernel_rfl) (by kernel_rfl) (by kernel_rfl) (fun _ _ _ h => h) (.inl ⟨by kernel_rfl, fun v hS => ?_⟩) SV.out ?_
    rotate_left
    · obtain ⟨c0, c1, c2⟩ := hS
      go_simp
      with_reducible rfl
    refine wpAnyH_take (i := 5) (v := ?_) rfl (by kernel_rfl) (by kernel_rfl) (by kernel_rfl) (fun _ _ _ h => h) (.inl ⟨by kernel_rfl, fun v hS => ?_⟩) SV.out ?_
    rotate_left
    · obtain ⟨c0, c1, c2⟩ := hS
      go_simp
      with_reducible rfl
    refine wpAnyH_take (i := 6) (v := ?_) rfl (by kernel_rfl) (by kernel_rfl) (by kernel_rfl) (fun _ _ _ h => h) (.inl ⟨by kernel_rfl, fun v hS => ?_⟩) SV.out ?_
    rotate_left
    · obtain ⟨c0, c1, c2⟩ := hS
      go_simp
      with_reducible rfl
    refine wpAnyH_take (i := 8) (v := ?_) rfl (by kernel_rfl) (by kernel_rfl) (by kernel_rfl) (fun _ _ _ h => h) (.inl ⟨by kernel_rfl, fun v hS => ?_⟩) SV.out ?_
    rotate_left
    · obtain ⟨c0, c1, c2⟩ := hS
      go_simp
      with_reducible rfl
    refine wpAnyH_take (i := 9) (v := ?_) rfl (by kernel_rfl) (by kernel_rfl) (by kernel_rfl) (fun _ _ _ h => h) (.inl ⟨by kernel_rfl, fun v hS => ?_⟩) SV.out ?_
    rotate_left
    · obtain ⟨c0, c1, c2⟩ := hS
      go_simp
      with_reducible rfl
    refine one_ready 7 rfl (by kernel_rfl) (by kernel_rfl) ?_
    go_simp
    refine (mod_any q1 _ hq1 (by omega) (by omega) _).mono ?_
    rintro e w' ⟨rfl, rfl⟩
    refine ⟨SV.out, ?_⟩
    have r2 := Int.emod_nonneg q1 (show (d1.fs.length : Int) ≠ 0 by omega)
    have r3 := Int.emod_lt_of_pos q1 (show (0 : Int) < d1.fs.length by omega)
    generalize q1 % (d1.fs.length : Int) = rr at *
    obtain ⟨i, rfl⟩ := Int.eq_ofNat_of_zero_le r2
    have hi : i < d1.fs.length := by omega
    refine wpAnyH_take (i := 10) (v := ?_) rfl (by kernel_rfl) (by kernel_rfl) (by kernel_rfl) (fun _ _ _ h => h) (.inl ⟨by kernel_rfl, fun v hS => ?_⟩) SV.out ?_
    rotate_left
    · go_simp
      with_reducible rfl
    have HR := Lib.hid (show w2.ownsRow W0.heap.size 3 1 (.slice (some ⟨g, 0, none⟩) d1.fs.length d1.fc) d1.fs.length (d1.fs.map (Value.int .i64)) by
      have h := HO.out.rows.own 3 (by omega)
      have h2 : w2.ownsRow W0.heap.size 3 1 (.slice d1.fA d1.fs.length d1.fc) d1.fs.length (d1.fs.map (Value.int .i64)) := h
      rwa [HGA.out] at h2)
    have hOg : O ≠ g := fun e => own_ne HR.out XO.out (show (3 : TypeId) ≠ 28 by decide) (by rw [e]; rfl)
    have hDg : w.heap.size + 1 + 1 ≠ g := fun e => own_ne HR.out XD'.out (show (3 : TypeId) ≠ 28 by decide) (by rw [e]; rfl)
    have hQg : w.heap.size + 1 ≠ g := fun e => own_ne HR.out XQ'.out (show (3 : TypeId) ≠ 23 by decide) (by rw [e]; rfl)
    have XO2 := Lib.hid (XO.out.far (p := ⟨g, i, none⟩) hOg (.int .i64 q2))
    have XD2 := Lib.hid (XD'.out.far (p := ⟨g, i, none⟩) hDg (.int .i64 q2))
    have XQ2 := Lib.hid (XQ'.out.far (p := ⟨g, i, none⟩) hQg (.int .i64 q2))
    have HSW := Lib.hid (show (fun v => v.cell? ⟨O, 3, none⟩ = some (.slice (some ⟨g, 0, none⟩) d1.fs.length d1.fc) ∧ v.cell? ⟨w.heap.size + 1, 1, none⟩ = some (.int .i64 q1) ∧ v.cell? ⟨w.heap.size + 1, 2, none⟩ = some (.int .i64 q2)) (w2.setCell ⟨g, i, none⟩ (.int .i64 q2)).drew from ⟨by
        have h := XO2.out.cell 3 _ rfl
        rw [← HGA.out]; exact h, XQ2.out.cell 1 _ rfl, XQ2.out.cell 2 _ rfl⟩)
    have c0 : w2.cell? ⟨g, i, none⟩ = some (.int .i64 d1.fs[i]) := by
      rw [World.ownsRow.cellAt HR.out i (by omega), List.getElem?_map, List.getElem?_eq_getElem hi]; rfl
    have f9 := World.ownsRow.frozenAt HR.out i
    clear hOg hDg hQg y0 y1 y2
    refine one_ready 11 rfl (by kernel_rfl) (by kernel_rfl) ?_
    go_simp
    refine ⟨HSW.out, by kernel_rfl, ?_⟩
    clear c0 f9
    have HO2 := Lib.hid (show ({ d1 with fs := d1.fs.set i q2 } : Wd).Ok (w2.setCell ⟨g, i, none⟩ (.int .i64 q2)).drew W0.heap.size K from (HO.out.set3 g HGA.out i q2).drewN 1)
    have XO3 := Lib.hid (show Bk (w2.setCell ⟨g, i, none⟩ (.int .i64 q2)).drew O #[.slice ({ d1 with fs := d1.fs.set i q2 } : Wd).iA ({ d1 with fs := d1.fs.set i q2 } : Wd).vs.length ({ d1 with fs := d1.fs.set i q2 } : Wd).ic, .slice ({ d1 with fs := d1.fs.set i q2 } : Wd).cA ({ d1 with fs := d1.fs.set i q2 } : Wd).cs.length ({ d1 with fs := d1.fs.set i q2 } : Wd).cc, .slice ({ d1 with fs := d1.fs.set i q2 } : Wd).hA ({ d1 with fs := d1.fs.set i q2 } : Wd).hs.length ({ d1 with fs := d1.fs.set i q2 } : Wd).hc, .slice ({ d1 with fs := d1.fs.set i q2 } : Wd).fA ({ d1 with fs := d1.fs.set i q2 } : Wd).fs.length ({ d1 with fs := d1.fs.set i q2 } : Wd).fc, .slice ({ d1 with fs := d1.fs.set i q2 } : Wd).lA ({ d1 with fs := d1.fs.set i q2 } : Wd).ls.length ({ d1 with fs := d1.fs.set i q2 } : Wd).lc, .int .i64 ({ d1 with fs := d1.fs.set i q2 } : Wd).ep] 28 from by
      simp only [List.length_set]
      exact XO2.out)
    have XD3 := Lib.hid (show Bk (w2.setCell ⟨g, i, none⟩ (.int .i64 q2)).drew (w.heap.size + 1 + 1) #[.slice none 0 0, .slice none 0 0, .slice none 0 0, .slice none 0 0, .slice none 0 0, .int .i64 0] 28 from XD2.out)
    have b2 := BY.out.setCell (p := ⟨g, i, none⟩) (by show w.heap.size ≤ g; have := HSZ.out; omega) (.int .i64 q2)
    have BY2 := Lib.hid (show Below w.heap.size w (w2.setCell ⟨g, i, none⟩ (.int .i64 q2)).drew from ⟨b2.os, b2.tape, b2.output, b2.size, b2.block⟩)
    clear b2 XO2 XD2 HSW
    obtain ⟨wx, hwx⟩ : ∃ wx, (w2.setCell ⟨g, i, none⟩ (.int .i64 q2)).drew = wx := ⟨_, rfl⟩
    rw [hwx] at HO2 XO3 XD3 BY2 ⊢
    clear hwx
    have XO2 := XO3
    have XD2 := XD3
    have m0 : wx.cell? ⟨O, 0, none⟩ = some (.slice d1.iA d1.vs.length d1.ic) := XO2.out.cell 0 _ rfl
    have zz0 : wx.cell? ⟨w.heap.size + 1 + 1, 0, none⟩ = some (.slice none 0 0) := XD2.out.cell 0 _ rfl
    have f0 : wx.frozen? ⟨w.heap.size + 1 + 1, 0, none⟩ = false := XD2.out.frozen 0
    have m1 : wx.cell? ⟨O, 1, none⟩ = some (.slice d1.cA d1.cs.length d1.cc) := XO2.out.cell 1 _ rfl
    have zz1 : wx.cell? ⟨w.heap.size + 1 + 1, 1, none⟩ = some (.slice none 0 0) := XD2.out.cell 1 _ rfl
    have f1 : wx.frozen? ⟨w.heap.size + 1 + 1, 1, none⟩ = false := XD2.out.frozen 1
    have m2 : wx.cell? ⟨O, 2, none⟩ = some (.slice d1.hA d1.hs.length d1.hc) := XO2.out.cell 2 _ rfl
    have zz2 : wx.cell? ⟨w.heap.size + 1 + 1, 2, none⟩ = some (.slice none 0 0) := XD2.out.cell 2 _ rfl
    have f2 : wx.frozen? ⟨w.heap.size + 1 + 1, 2, none⟩ = false := XD2.out.frozen 2
    have m3 : wx.cell? ⟨O, 3, none⟩ = some (.slice (some ⟨g, 0, none⟩) d1.fs.length d1.fc) := (by rw [← HGA.out]; have h := XO2.out.cell 3 _ rfl; simp only [List.length_set] at h; exact h)
    have zz3 : wx.cell? ⟨w.heap.size + 1 + 1, 3, none⟩ = some (.slice none 0 0) := XD2.out.cell 3 _ rfl
    have f3 : wx.frozen? ⟨w.heap.size + 1 + 1, 3, none⟩ = false := XD2.out.frozen 3
    have m4 : wx.cell? ⟨O, 4, none⟩ = some (.slice d1.lA d1.ls.length d1.lc) := XO2.out.cell 4 _ rfl
    have zz4 : wx.cell? ⟨w.heap.size + 1 + 1, 4, none⟩ = some (.slice none 0 0) := XD2.out.cell 4 _ rfl
    have f4 : wx.frozen? ⟨w.heap.size + 1 + 1, 4, none⟩ = false := XD2.out.frozen 4
    have m5 : wx.cell? ⟨O, 5, none⟩ = some (.int .i64 d1.ep) := XO2.out.cell 5 _ rfl
    have zz5 : wx.cell? ⟨w.heap.size + 1 + 1, 5, none⟩ = some (.int .i64 0) := XD2.out.cell 5 _ rfl
    have f5 : wx.frozen? ⟨w.heap.size + 1 + 1, 5, none⟩ = false := XD2.out.frozen 5
    go_wp2_with fail
    obtain ⟨wz, hwz, XZ, OZ, BZ⟩ := bent_end HO2.out XO2.out XD2.out BY2.out (by have := HSZ.out; omega)
    simp only [List.length_set, HGA.out] at hwz
    rw [← hwz]
    have e0 := XZ.cell 0 _ rfl
    have e1 := XZ.cell 1 _ rfl
    have e2 := XZ.cell 2 _ rfl
    have e3 := XZ.cell 3 _ rfl
    have e4 := XZ.cell 4 _ rfl
    have e5 := XZ.cell 5 _ rfl
    exact bodyPost_ret (v := .agg #[.slice ({ d1 with fs := d1.fs.set i q2 } : Wd).iA ({ d1 with fs := d1.fs.set i q2 } : Wd).vs.length ({ d1 with fs := d1.fs.set i q2 } : Wd).ic, .slice ({ d1 with fs := d1.fs.set i q2 } : Wd).cA ({ d1 with fs := d1.fs.set i q2 } : Wd).cs.length ({ d1 with fs := d1.fs.set i q2 } : Wd).cc, .slice ({ d1 with fs := d1.fs.set i q2 } : Wd).hA ({ d1 with fs := d1.fs.set i q2 } : Wd).hs.length ({ d1 with fs := d1.fs.set i q2 } : Wd).hc, .slice ({ d1 with fs := d1.fs.set i q2 } : Wd).fA ({ d1 with fs := d1.fs.set i q2 } : Wd).fs.length ({ d1 with fs := d1.fs.set i q2 } : Wd).fc, .slice ({ d1 with fs := d1.fs.set i q2 } : Wd).lA ({ d1 with fs := d1.fs.set i q2 } : Wd).ls.length ({ d1 with fs := d1.fs.set i q2 } : Wd).lc, .int .i64 ({ d1 with fs := d1.fs.set i q2 } : Wd).ep]) (by simp [results, Tryd.results6, go_sem, e0, e1, e2, e3, e4, e5]) rfl ⟨_, rfl, Lib.hid (OZ.more (by omega)), Lib.hid BZ⟩
  · -- 4
    have h1 := HO.out.one
    have hn := HO.out.n
    obtain ⟨g, hgA, hg0⟩ := row_some (HO.out.rows.own 4 (by omega)) (show 1 ≤ d1.ls.length by omega)
    have k4 : w2.cell? ⟨O, 4, none⟩ = some (.slice (some ⟨g, 0, none⟩) d1.ls.length d1.lc) := by rw [← hgA]; exact XO.out.cell 4 _ rfl
    have SV := Lib.hid (show (fun v => v.cell? ⟨O, 4, none⟩ = some (.slice (some ⟨g, 0, none⟩) d1.ls.length d1.lc) ∧ v.cell? ⟨w.heap.size + 1, 1, none⟩ = some (.int .i64 q1) ∧ v.cell? ⟨w.heap.size + 1, 2, none⟩ = some (.int .i64 q2)) w2.drew from ⟨k4, y1, y2⟩)
    have HGA := Lib.hid hgA
    clear hgA k4
    go_wp2_with fail
    refine wp_region_held (S := fun v => v.cell? ⟨O, 4, none⟩ = some (.slice (some ⟨g, 0, none⟩) d1.ls.length d1.lc) ∧ v.cell? ⟨w.heap.size + 1, 1, none⟩ = some (.int .i64 q1) ∧ v.cell? ⟨w.heap.size + 1, 2, none⟩ = some (.int .i64 q2)) (by kernel_rfl) ?_
    refine wpAnyH_take (i := 0) (v := ?_) rfl (by kernel_rfl) (by kernel_rfl) (by kernel_rfl) (fun _ _ _ h => h) (.inl ⟨by kernel_rfl, fun v hS => ?_⟩) SV.out ?_
    rotate_left
    · obtain ⟨c0, c1, c2⟩ := hS
      go_simp
      with_reducible rfl
    refine wpAnyH_take (i := 1) (v := ?_) rfl (by kernel_rfl) (by kernel_rfl) (by kernel_rfl) (fun _ _ _ h => h) (.inl ⟨by kernel_rfl, fun v hS => ?_⟩) SV.out ?_
    rotate_left
    · obtain ⟨c0, c1, c2⟩ := hS
      go_simp
      with_reducible rfl
    refine wpAnyH_take (i := 2) (v := ?_) rfl (by kernel_rfl) (by kernel_rfl) (by kernel_rfl) (fun _ _ _ h => h) (.inl ⟨by kernel_rfl, fun v hS => ?_⟩) SV.out ?_
    rotate_left
    · obtain ⟨c0, c1, c2⟩ := hS
      go_simp
      with_reducible rfl
    refine wpAnyH_take (i := 3) (v := ?_) rfl (by kernel_rfl) (by kernel_rfl) (by kernel_rfl) (fun _ _ _ h => h) (.inl ⟨by kernel_rfl, fun v hS => ?_⟩) SV.out ?_
    rotate_left
    · obtain ⟨c0, c1, c2⟩ := hS
      go_simp
      with_reducible rfl
    refine wpAnyH_take (i := 4) (v := ?_) rfl (by kernel_rfl) (by kernel_rfl) (by kernel_rfl) (fun _ _ _ h => h) (.inl ⟨by kernel_rfl, fun v hS => ?_⟩) SV.out ?_
    rotate_left
    · obtain ⟨c0, c1, c2⟩ := hS
      go_simp
      with_reducible rfl
    refine wpAnyH_take (i := 5) (v := ?_) rfl (by kernel_rfl) (by kernel_rfl) (by kernel_rfl) (fun _ _ _ h => h) (.inl ⟨by kernel_rfl, fun v hS => ?_⟩) SV.out ?_
    rotate_left
    · obtain ⟨c0, c1, c2⟩ := hS
      go_simp
      with_reducible rfl
    refine wpAnyH_take (i := 6) (v := ?_) rfl (by kernel_rfl) (by kernel_rfl) (by kernel_rfl) (fun _ _ _ h => h) (.inl ⟨by kernel_rfl, fun v hS => ?_⟩) SV.out ?_
    rotate_left
    · obtain ⟨c0, c1, c2⟩ := hS
      go_simp
      with_reducible rfl
    refine wpAnyH_take (i := 8) (v := ?_) rfl (by kernel_rfl) (by kernel_rfl) (by kernel_rfl) (fun _ _ _ h => h) (.inl ⟨by kernel_rfl, fun v hS => ?_⟩) SV.out ?_
    rotate_left
    · obtain ⟨c0, c1, c2⟩ := hS
      go_simp
      with_reducible rfl
    refine wpAnyH_take (i := 9) (v := ?_) rfl (by kernel_rfl) (by kernel_rfl) (by kernel_rfl) (fun _ _ _ h => h) (.inl ⟨by kernel_rfl, fun v hS => ?_⟩) SV.out ?_
    rotate_left
    · obtain ⟨c0, c1, c2⟩ := hS
      go_simp
      with_reducible rfl
    refine one_ready 7 rfl (by kernel_rfl) (by kernel_rfl) ?_
    go_simp
    refine (mod_any q1 _ hq1 (by omega) (by omega) _).mono ?_
    rintro e w' ⟨rfl, rfl⟩
    refine ⟨SV.out, ?_⟩
    have r2 := Int.emod_nonneg q1 (show (d1.ls.length : Int) ≠ 0 by omega)
    have r3 := Int.emod_lt_of_pos q1 (show (0 : Int) < d1.ls.length by omega)
    generalize q1 % (d1.ls.length : Int) = rr at *
    obtain ⟨i, rfl⟩ := Int.eq_ofNat_of_zero_le r2
    have hi : i < d1.ls.length := by omega
    refine wpAnyH_take (i := 10) (v := ?_) rfl (by kernel_rfl) (by kernel_rfl) (by kernel_rfl) (fun _ _ _ h => h) (.inl ⟨by kernel_rfl, fun v hS => ?_⟩) SV.out ?_
    rotate_left
    · go_simp
      with_reducible rfl
    have HR := Lib.hid (show w2.ownsRow W0.heap.size 3 1 (.slice (some ⟨g, 0, none⟩) d1.ls.length d1.lc) d1.ls.length (d1.ls.map (Value.int .i64)) by
      have h := HO.out.rows.own 4 (by omega)
      have h2 : w2.ownsRow W0.heap.size 3 1 (.slice d1.lA d1.ls.length d1.lc) d1.ls.length (d1.ls.map (Value.int .i64)) := h
      rwa [HGA.out] at h2)
    have hOg : O ≠ g := fun e => own_ne HR.out XO.out (show (3 : TypeId) ≠ 28 by decide) (by rw [e]; rfl)
    have hDg : w.heap.size + 1 + 1 ≠ g := fun e => own_ne HR.out XD'.out (show (3 : TypeId) ≠ 28 by decide) (by rw [e]; rfl)
    have hQg : w.heap.size + 1 ≠ g := fun e => own_ne HR.out XQ'.out (show (3 : TypeId) ≠ 23 by decide) (by rw [e]; rfl)
    have XO2 := Lib.hid (XO.out.far (p := ⟨g, i, none⟩) hOg (.int .i64 q2))
    have XD2 := Lib.hid (XD'.out.far (p := ⟨g, i, none⟩) hDg (.int .i64 q2))
    have XQ2 := Lib.hid (XQ'.out.far (p := ⟨g, i, none⟩) hQg (.int .i64 q2))
    have HSW := Lib.hid (show (fun v => v.cell? ⟨O, 4, none⟩ = some (.slice (some ⟨g, 0, none⟩) d1.ls.length d1.lc) ∧ v.cell? ⟨w.heap.size + 1, 1, none⟩ = some (.int .i64 q1) ∧ v.cell? ⟨w.heap.size + 1, 2, none⟩ = some (.int .i64 q2)) (w2.setCell ⟨g, i, none⟩ (.int .i64 q2)).drew from ⟨by
        have h := XO2.out.cell 4 _ rfl
        rw [← HGA.out]; exact h, XQ2.out.cell 1 _ rfl, XQ2.out.cell 2 _ rfl⟩)
    have c0 : w2.cell? ⟨g, i, none⟩ = some (.int .i64 d1.ls[i]) := by
      rw [World.ownsRow.cellAt HR.out i (by omega), List.getElem?_map, List.getElem?_eq_getElem hi]; rfl
    have f9 := World.ownsRow.frozenAt HR.out i
    clear hOg hDg hQg y0 y1 y2
    refine one_ready 11 rfl (by kernel_rfl) (by kernel_rfl) ?_
    go_simp
    refine ⟨HSW.out, by kernel_rfl, ?_⟩
    clear c0 f9
    have HO2 := Lib.hid (show ({ d1 with ls := d1.ls.set i q2 } : Wd).Ok (w2.setCell ⟨g, i, none⟩ (.int .i64 q2)).drew W0.heap.size K from (HO.out.set4 g HGA.out i q2).drewN 1)
    have XO3 := Lib.hid (show Bk (w2.setCell ⟨g, i, none⟩ (.int .i64 q2)).drew O #[.slice ({ d1 with ls := d1.ls.set i q2 } : Wd).iA ({ d1 with ls := d1.ls.set i q2 } : Wd).vs.length ({ d1 with ls := d1.ls.set i q2 } : Wd).ic, .slice ({ d1 with ls := d1.ls.set i q2 } : Wd).cA ({ d1 with ls := d1.ls.set i q2 } : Wd).cs.length ({ d1 with ls := d1.ls.set i q2 } : Wd).cc, .slice ({ d1 with ls := d1.ls.set i q2 } : Wd).hA ({ d1 with ls := d1.ls.set i q2 } : Wd).hs.length ({ d1 with ls := d1.ls.set i q2 } : Wd).hc, .slice ({ d1 with ls := d1.ls.set i q2 } : Wd).fA ({ d1 with ls := d1.ls.set i q2 } : Wd).fs.length ({ d1 with ls := d1.ls.set i q2 } : Wd).fc, .slice ({ d1 with ls := d1.ls.set i q2 } : Wd).lA ({ d1 with ls := d1.ls.set i q2 } : Wd).ls.length ({ d1 with ls := d1.ls.set i q2 } : Wd).lc, .int .i64 ({ d1 with ls := d1.ls.set i q2 } : Wd).ep] 28 from by
      simp only [List.length_set]
      exact XO2.out)
    have XD3 := Lib.hid (show Bk (w2.setCell ⟨g, i, none⟩ (.int .i64 q2)).drew (w.heap.size + 1 + 1) #[.slice none 0 0, .slice none 0 0, .slice none 0 0, .slice none 0 0, .slice none 0 0, .int .i64 0] 28 from XD2.out)
    have b2 := BY.out.setCell (p := ⟨g, i, none⟩) (by show w.heap.size ≤ g; have := HSZ.out; omega) (.int .i64 q2)
    have BY2 := Lib.hid (show Below w.heap.size w (w2.setCell ⟨g, i, none⟩ (.int .i64 q2)).drew from ⟨b2.os, b2.tape, b2.output, b2.size, b2.block⟩)
    clear b2 XO2 XD2 HSW
    obtain ⟨wx, hwx⟩ : ∃ wx, (w2.setCell ⟨g, i, none⟩ (.int .i64 q2)).drew = wx := ⟨_, rfl⟩
    rw [hwx] at HO2 XO3 XD3 BY2 ⊢
    clear hwx
    have XO2 := XO3
    have XD2 := XD3
    have m0 : wx.cell? ⟨O, 0, none⟩ = some (.slice d1.iA d1.vs.length d1.ic) := XO2.out.cell 0 _ rfl
    have zz0 : wx.cell? ⟨w.heap.size + 1 + 1, 0, none⟩ = some (.slice none 0 0) := XD2.out.cell 0 _ rfl
    have f0 : wx.frozen? ⟨w.heap.size + 1 + 1, 0, none⟩ = false := XD2.out.frozen 0
    have m1 : wx.cell? ⟨O, 1, none⟩ = some (.slice d1.cA d1.cs.length d1.cc) := XO2.out.cell 1 _ rfl
    have zz1 : wx.cell? ⟨w.heap.size + 1 + 1, 1, none⟩ = some (.slice none 0 0) := XD2.out.cell 1 _ rfl
    have f1 : wx.frozen? ⟨w.heap.size + 1 + 1, 1, none⟩ = false := XD2.out.frozen 1
    have m2 : wx.cell? ⟨O, 2, none⟩ = some (.slice d1.hA d1.hs.length d1.hc) := XO2.out.cell 2 _ rfl
    have zz2 : wx.cell? ⟨w.heap.size + 1 + 1, 2, none⟩ = some (.slice none 0 0) := XD2.out.cell 2 _ rfl
    have f2 : wx.frozen? ⟨w.heap.size + 1 + 1, 2, none⟩ = false := XD2.out.frozen 2
    have m3 : wx.cell? ⟨O, 3, none⟩ = some (.slice d1.fA d1.fs.length d1.fc) := XO2.out.cell 3 _ rfl
    have zz3 : wx.cell? ⟨w.heap.size + 1 + 1, 3, none⟩ = some (.slice none 0 0) := XD2.out.cell 3 _ rfl
    have f3 : wx.frozen? ⟨w.heap.size + 1 + 1, 3, none⟩ = false := XD2.out.frozen 3
    have m4 : wx.cell? ⟨O, 4, none⟩ = some (.slice (some ⟨g, 0, none⟩) d1.ls.length d1.lc) := (by rw [← HGA.out]; have h := XO2.out.cell 4 _ rfl; simp only [List.length_set] at h; exact h)
    have zz4 : wx.cell? ⟨w.heap.size + 1 + 1, 4, none⟩ = some (.slice none 0 0) := XD2.out.cell 4 _ rfl
    have f4 : wx.frozen? ⟨w.heap.size + 1 + 1, 4, none⟩ = false := XD2.out.frozen 4
    have m5 : wx.cell? ⟨O, 5, none⟩ = some (.int .i64 d1.ep) := XO2.out.cell 5 _ rfl
    have zz5 : wx.cell? ⟨w.heap.size + 1 + 1, 5, none⟩ = some (.int .i64 0) := XD2.out.cell 5 _ rfl
    have f5 : wx.frozen? ⟨w.heap.size + 1 + 1, 5, none⟩ = false := XD2.out.frozen 5
    go_wp2_with fail
    obtain ⟨wz, hwz, XZ, OZ, BZ⟩ := bent_end HO2.out XO2.out XD2.out BY2.out (by have := HSZ.out; omega)
    simp only [List.length_set, HGA.out] at hwz
    rw [← hwz]
    have e0 := XZ.cell 0 _ rfl
    have e1 := XZ.cell 1 _ rfl
    have e2 := XZ.cell 2 _ rfl
    have e3 := XZ.cell 3 _ rfl
    have e4 := XZ.cell 4 _ rfl
    have e5 := XZ.cell 5 _ rfl
    exact bodyPost_ret (v := .agg #[.slice ({ d1 with ls := d1.ls.set i q2 } : Wd).iA ({ d1 with ls := d1.ls.set i q2 } : Wd).vs.length ({ d1 with ls := d1.ls.set i q2 } : Wd).ic, .slice ({ d1 with ls := d1.ls.set i q2 } : Wd).cA ({ d1 with ls := d1.ls.set i q2 } : Wd).cs.length ({ d1 with ls := d1.ls.set i q2 } : Wd).cc, .slice ({ d1 with ls := d1.ls.set i q2 } : Wd).hA ({ d1 with ls := d1.ls.set i q2 } : Wd).hs.length ({ d1 with ls := d1.ls.set i q2 } : Wd).hc, .slice ({ d1 with ls := d1.ls.set i q2 } : Wd).fA ({ d1 with ls := d1.ls.set i q2 } : Wd).fs.length ({ d1 with ls := d1.ls.set i q2 } : Wd).fc, .slice ({ d1 with ls := d1.ls.set i q2 } : Wd).lA ({ d1 with ls := d1.ls.set i q2 } : Wd).ls.length ({ d1 with ls := d1.ls.set i q2 } : Wd).lc, .int .i64 ({ d1 with ls := d1.ls.set i q2 } : Wd).ep]) (by simp [results, Tryd.results6, go_sem, e0, e1, e2, e3, e4, e5]) rfl ⟨_, rfl, Lib.hid (OZ.more (by omega)), Lib.hid BZ⟩
  · -- 5
    have hn := HO.out.n
    have HA := Lib.hid (HO.out.alloc (.cells #[.int .i64 1] 3))
    have k3 : w2.cell? ⟨O, 3, none⟩ = some (.slice d1.fA d1.fs.length d1.fc) := XO.out.cell 3 _ rfl
    go_wp2_with (at_builtin; refine list_append_at rfl _ _ _ rfl W0.heap.size 3 i0 _ 1 8 Tryd.underlying22 hi0 hz0 hz1 hz2 rfl (by omega) (.slice d1.fA d1.fs.length d1.fc) d1.fs.length (d1.fs.map (Value.int .i64)) rfl (HA.out.rows.own 3 (by omega)) ⟨w2.heap.size, 0, none⟩ 1 1 [.int .i64 1] rfl rfl (World.news_of_block (cs := #[.int .i64 1]) (t := 3) (fr := (0, 0)) (heap_alloc_new w2 _)) (oneI _) (by unfold maxLen; omega) (by omega) (by have := HOL.out; have := XO.out.lt; simp; omega) ?_; intro A' c' w4 a1 a2 a3; clear k3; have hrow := HA.out.rows.own 3 (by omega); have HN := Lib.hid (HA.out.app3 A' c' 1 a2 a1 a3); have XO4 := Lib.hid ((XO.out.alloc (.cells #[.int .i64 1] 3)).kept a2 (own_ne hrow (XO.out.alloc _) (show (3 : TypeId) ≠ 28 by decide))); have XD4 := Lib.hid ((XD'.out.alloc (.cells #[.int .i64 1] 3)).kept a2 (own_ne hrow (XD'.out.alloc _) (show (3 : TypeId) ≠ 28 by decide))); have BY4 := Lib.hid ((BY.out.alloc (BY.out.size) (.cells #[.int .i64 1] 3)).grown a2 (by have := BY.out.size; simp; omega) (fun b hb => by have h9 : W0.heap.size ≤ b := (World.ownsRow.lt hrow b hb).1; have := HSZ.out; omega)); have k3 : w4.cell? ⟨O, 3, none⟩ = some (.slice d1.fA d1.fs.length d1.fc) := XO4.out.cell 3 _ rfl; have g3 := XO4.out.frozen 3; have XO5 := Lib.hid (XO4.out.set 3 (.slice A' (d1.fs.length + 1) c')); have XD2 := Lib.hid (XD4.out.far (p := ⟨O, 3, none⟩) (by show w.heap.size + 1 + 1 ≠ O; have := HSZ.out; have := HOL.out; omega) (.slice A' (d1.fs.length + 1) c')); have m0 : (w4.setCell ⟨O, 3, none⟩ (.slice A' (d1.fs.length + 1) c')).cell? ⟨O, 0, none⟩ = some (.slice d1.iA d1.vs.length d1.ic) := XO5.out.cell 0 _ rfl; have zz0 : (w4.setCell ⟨O, 3, none⟩ (.slice A' (d1.fs.length + 1) c')).cell? ⟨w.heap.size + 1 + 1, 0, none⟩ = some (.slice none 0 0) := XD2.out.cell 0 _ rfl; have f0 := XD2.out.frozen 0; have m1 : (w4.setCell ⟨O, 3, none⟩ (.slice A' (d1.fs.length + 1) c')).cell? ⟨O, 1, none⟩ = some (.slice d1.cA d1.cs.length d1.cc) := XO5.out.cell 1 _ rfl; have zz1 : (w4.setCell ⟨O, 3, none⟩ (.slice A' (d1.fs.length + 1) c')).cell? ⟨w.heap.size + 1 + 1, 1, none⟩ = some (.slice none 0 0) := XD2.out.cell 1 _ rfl; have f1 := XD2.out.frozen 1; have m2 : (w4.setCell ⟨O, 3, none⟩ (.slice A' (d1.fs.length + 1) c')).cell? ⟨O, 2, none⟩ = some (.slice d1.hA d1.hs.length d1.hc) := XO5.out.cell 2 _ rfl; have zz2 : (w4.setCell ⟨O, 3, none⟩ (.slice A' (d1.fs.length + 1) c')).cell? ⟨w.heap.size + 1 + 1, 2, none⟩ = some (.slice none 0 0) := XD2.out.cell 2 _ rfl; have f2 := XD2.out.frozen 2; have m3 : (w4.setCell ⟨O, 3, none⟩ (.slice A' (d1.fs.length + 1) c')).cell? ⟨O, 3, none⟩ = some (.slice A' (d1.fs.length + 1) c') := XO5.out.cell 3 _ rfl; have zz3 : (w4.setCell ⟨O, 3, none⟩ (.slice A' (d1.fs.length + 1) c')).cell? ⟨w.heap.size + 1 + 1, 3, none⟩ = some (.slice none 0 0) := XD2.out.cell 3 _ rfl; have f3 := XD2.out.frozen 3; have m4 : (w4.setCell ⟨O, 3, none⟩ (.slice A' (d1.fs.length + 1) c')).cell? ⟨O, 4, none⟩ = some (.slice d1.lA d1.ls.length d1.lc) := XO5.out.cell 4 _ rfl; have zz4 : (w4.setCell ⟨O, 3, none⟩ (.slice A' (d1.fs.length + 1) c')).cell? ⟨w.heap.size + 1 + 1, 4, none⟩ = some (.slice none 0 0) := XD2.out.cell 4 _ rfl; have f4 := XD2.out.frozen 4; have m5 : (w4.setCell ⟨O, 3, none⟩ (.slice A' (d1.fs.length + 1) c')).cell? ⟨O, 5, none⟩ = some (.int .i64 d1.ep) := XO5.out.cell 5 _ rfl; have zz5 : (w4.setCell ⟨O, 3, none⟩ (.slice A' (d1.fs.length + 1) c')).cell? ⟨w.heap.size + 1 + 1, 5, none⟩ = some (.int .i64 0) := XD2.out.cell 5 _ rfl; have f5 := XD2.out.frozen 5; clear a1 a2 a3 hrow)
    have HO2 := Lib.hid (HN.out.bk XO4.out (show (52 : TypeId) ≠ 28 by decide) (show (3 : TypeId) ≠ 28 by decide) (grownBy_set w4 O 3 (.slice A' (d1.fs.length + 1) c')))
    have XO2 := Lib.hid (show Bk (w4.setCell ⟨O, 3, none⟩ (.slice A' (d1.fs.length + 1) c')) O #[.slice ({ d1 with fA := A', fs := d1.fs ++ [1], fc := c' } : Wd).iA ({ d1 with fA := A', fs := d1.fs ++ [1], fc := c' } : Wd).vs.length ({ d1 with fA := A', fs := d1.fs ++ [1], fc := c' } : Wd).ic, .slice ({ d1 with fA := A', fs := d1.fs ++ [1], fc := c' } : Wd).cA ({ d1 with fA := A', fs := d1.fs ++ [1], fc := c' } : Wd).cs.length ({ d1 with fA := A', fs := d1.fs ++ [1], fc := c' } : Wd).cc, .slice ({ d1 with fA := A', fs := d1.fs ++ [1], fc := c' } : Wd).hA ({ d1 with fA := A', fs := d1.fs ++ [1], fc := c' } : Wd).hs.length ({ d1 with fA := A', fs := d1.fs ++ [1], fc := c' } : Wd).hc, .slice ({ d1 with fA := A', fs := d1.fs ++ [1], fc := c' } : Wd).fA ({ d1 with fA := A', fs := d1.fs ++ [1], fc := c' } : Wd).fs.length ({ d1 with fA := A', fs := d1.fs ++ [1], fc := c' } : Wd).fc, .slice ({ d1 with fA := A', fs := d1.fs ++ [1], fc := c' } : Wd).lA ({ d1 with fA := A', fs := d1.fs ++ [1], fc := c' } : Wd).ls.length ({ d1 with fA := A', fs := d1.fs ++ [1], fc := c' } : Wd).lc, .int .i64 ({ d1 with fA := A', fs := d1.fs ++ [1], fc := c' } : Wd).ep] 28 from by
      have := XO5.out
      simpa using this)
    have BY2 := Lib.hid (BY4.out.setCell (p := ⟨O, 3, none⟩) (by show w.heap.size ≤ O; have := HSZ.out; have := HOL.out; omega) (.slice A' (d1.fs.length + 1) c'))
    obtain ⟨wz, hwz, XZ, OZ, BZ⟩ := bent_end HO2.out XO2.out XD2.out BY2.out (by have := HSZ.out; omega)
    simp only [List.length_append, List.length_cons, List.length_nil, Nat.zero_add] at hwz
    rw [← hwz]
    have e0 := XZ.cell 0 _ rfl
    have e1 := XZ.cell 1 _ rfl
    have e2 := XZ.cell 2 _ rfl
    have e3 := XZ.cell 3 _ rfl
    have e4 := XZ.cell 4 _ rfl
    have e5 := XZ.cell 5 _ rfl
    exact bodyPost_ret (v := .agg #[.slice ({ d1 with fA := A', fs := d1.fs ++ [1], fc := c' } : Wd).iA ({ d1 with fA := A', fs := d1.fs ++ [1], fc := c' } : Wd).vs.length ({ d1 with fA := A', fs := d1.fs ++ [1], fc := c' } : Wd).ic, .slice ({ d1 with fA := A', fs := d1.fs ++ [1], fc := c' } : Wd).cA ({ d1 with fA := A', fs := d1.fs ++ [1], fc := c' } : Wd).cs.length ({ d1 with fA := A', fs := d1.fs ++ [1], fc := c' } : Wd).cc, .slice ({ d1 with fA := A', fs := d1.fs ++ [1], fc := c' } : Wd).hA ({ d1 with fA := A', fs := d1.fs ++ [1], fc := c' } : Wd).hs.length ({ d1 with fA := A', fs := d1.fs ++ [1], fc := c' } : Wd).hc, .slice ({ d1 with fA := A', fs := d1.fs ++ [1], fc := c' } : Wd).fA ({ d1 with fA := A', fs := d1.fs ++ [1], fc := c' } : Wd).fs.length ({ d1 with fA := A', fs := d1.fs ++ [1], fc := c' } : Wd).fc, .slice ({ d1 with fA := A', fs := d1.fs ++ [1], fc := c' } : Wd).lA ({ d1 with fA := A', fs := d1.fs ++ [1], fc := c' } : Wd).ls.length ({ d1 with fA := A', fs := d1.fs ++ [1], fc := c' } : Wd).lc, .int .i64 ({ d1 with fA := A', fs := d1.fs ++ [1], fc := c' } : Wd).ep]) (by simp [results, Tryd.results6, go_sem, e0, e1, e2, e3, e4, e5]) rfl ⟨_, rfl, Lib.hid (OZ.more (by omega)), Lib.hid BZ⟩
  · -- 6
    have k5 : w2.cell? ⟨O, 5, none⟩ = some (.int .i64 d1.ep) := XO.out.cell 5 _ rfl
    have g5 := XO.out.frozen 5
    have XO2 := Lib.hid (XO.out.set 5 (.int .i64 q2))
    have XD2 := Lib.hid (XD'.out.far (p := ⟨O, 5, none⟩) (by show w.heap.size + 1 + 1 ≠ O; have := HSZ.out; have := HOL.out; omega) (.int .i64 q2))
    have m0 : (w2.setCell ⟨O, 5, none⟩ (.int .i64 q2)).cell? ⟨O, 0, none⟩ = some (.slice d1.iA d1.vs.length d1.ic) := XO2.out.cell 0 _ rfl
    have zz0 : (w2.setCell ⟨O, 5, none⟩ (.int .i64 q2)).cell? ⟨w.heap.size + 1 + 1, 0, none⟩ = some (.slice none 0 0) := XD2.out.cell 0 _ rfl
    have f0 := XD2.out.frozen 0
    have m1 : (w2.setCell ⟨O, 5, none⟩ (.int .i64 q2)).cell? ⟨O, 1, none⟩ = some (.slice d1.cA d1.cs.length d1.cc) := XO2.out.cell 1 _ rfl
    have zz1 : (w2.setCell ⟨O, 5, none⟩ (.int .i64 q2)).cell? ⟨w.heap.size + 1 + 1, 1, none⟩ = some (.slice none 0 0) := XD2.out.cell 1 _ rfl
    have f1 := XD2.out.frozen 1
    have m2 : (w2.setCell ⟨O, 5, none⟩ (.int .i64 q2)).cell? ⟨O, 2, none⟩ = some (.slice d1.hA d1.hs.length d1.hc) := XO2.out.cell 2 _ rfl
    have zz2 : (w2.setCell ⟨O, 5, none⟩ (.int .i64 q2)).cell? ⟨w.heap.size + 1 + 1, 2, none⟩ = some (.slice none 0 0) := XD2.out.cell 2 _ rfl
    have f2 := XD2.out.frozen 2
    have m3 : (w2.setCell ⟨O, 5, none⟩ (.int .i64 q2)).cell? ⟨O, 3, none⟩ = some (.slice d1.fA d1.fs.length d1.fc) := XO2.out.cell 3 _ rfl
    have zz3 : (w2.setCell ⟨O, 5, none⟩ (.int .i64 q2)).cell? ⟨w.heap.size + 1 + 1, 3, none⟩ = some (.slice none 0 0) := XD2.out.cell 3 _ rfl
    have f3 := XD2.out.frozen 3
    have m4 : (w2.setCell ⟨O, 5, none⟩ (.int .i64 q2)).cell? ⟨O, 4, none⟩ = some (.slice d1.lA d1.ls.length d1.lc) := XO2.out.cell 4 _ rfl
    have zz4 : (w2.setCell ⟨O, 5, none⟩ (.int .i64 q2)).cell? ⟨w.heap.size + 1 + 1, 4, none⟩ = some (.slice none 0 0) := XD2.out.cell 4 _ rfl
    have f4 := XD2.out.frozen 4
    have m5 : (w2.setCell ⟨O, 5, none⟩ (.int .i64 q2)).cell? ⟨O, 5, none⟩ = some (.int .i64 q2) := XO2.out.cell 5 _ rfl
    have zz5 : (w2.setCell ⟨O, 5, none⟩ (.int .i64 q2)).cell? ⟨w.heap.size + 1 + 1, 5, none⟩ = some (.int .i64 0) := XD2.out.cell 5 _ rfl
    have f5 := XD2.out.frozen 5
    go_wp2_with fail
    have HO2 := Lib.hid (show ({ d1 with ep := q2 } : Wd).Ok (w2.setCell ⟨O, 5, none⟩ (.int .i64 q2)) W0.heap.size K from by
      have h := HO.out.bk XO.out (show (52 : TypeId) ≠ 28 by decide) (show (3 : TypeId) ≠ 28 by decide) (grownBy_set w2 O 5 (.int .i64 q2))
      exact ⟨h.rows.congr (fun j hj => by rcases (show j = 0 ∨ j = 1 ∨ j = 2 ∨ j = 3 ∨ j = 4 by omega) with rfl | rfl | rfl | rfl | rfl <;> rfl), h.small, h.n, h.one⟩)
    have XO2 := Lib.hid (show Bk (w2.setCell ⟨O, 5, none⟩ (.int .i64 q2)) O #[.slice ({ d1 with ep := q2 } : Wd).iA ({ d1 with ep := q2 } : Wd).vs.length ({ d1 with ep := q2 } : Wd).ic, .slice ({ d1 with ep := q2 } : Wd).cA ({ d1 with ep := q2 } : Wd).cs.length ({ d1 with ep := q2 } : Wd).cc, .slice ({ d1 with ep := q2 } : Wd).hA ({ d1 with ep := q2 } : Wd).hs.length ({ d1 with ep := q2 } : Wd).hc, .slice ({ d1 with ep := q2 } : Wd).fA ({ d1 with ep := q2 } : Wd).fs.length ({ d1 with ep := q2 } : Wd).fc, .slice ({ d1 with ep := q2 } : Wd).lA ({ d1 with ep := q2 } : Wd).ls.length ({ d1 with ep := q2 } : Wd).lc, .int .i64 ({ d1 with ep := q2 } : Wd).ep] 28 from by
      have := XO2.out
      simpa using this)
    have BY2 := Lib.hid (BY.out.setCell (p := ⟨O, 5, none⟩) (by show w.heap.size ≤ O; have := HSZ.out; have := HOL.out; omega) (.int .i64 q2))
    obtain ⟨wz, hwz, XZ, OZ, BZ⟩ := bent_end HO2.out XO2.out XD2.out BY2.out (by have := HSZ.out; omega)
    rw [← hwz]
    have e0 := XZ.cell 0 _ rfl
    have e1 := XZ.cell 1 _ rfl
    have e2 := XZ.cell 2 _ rfl
    have e3 := XZ.cell 3 _ rfl
    have e4 := XZ.cell 4 _ rfl
    have e5 := XZ.cell 5 _ rfl
    exact bodyPost_ret (v := .agg #[.slice ({ d1 with ep := q2 } : Wd).iA ({ d1 with ep := q2 } : Wd).vs.length ({ d1 with ep := q2 } : Wd).ic, .slice ({ d1 with ep := q2 } : Wd).cA ({ d1 with ep := q2 } : Wd).cs.length ({ d1 with ep := q2 } : Wd).cc, .slice ({ d1 with ep := q2 } : Wd).hA ({ d1 with ep := q2 } : Wd).hs.length ({ d1 with ep := q2 } : Wd).hc, .slice ({ d1 with ep := q2 } : Wd).fA ({ d1 with ep := q2 } : Wd).fs.length ({ d1 with ep := q2 } : Wd).fc, .slice ({ d1 with ep := q2 } : Wd).lA ({ d1 with ep := q2 } : Wd).ls.length ({ d1 with ep := q2 } : Wd).lc, .int .i64 ({ d1 with ep := q2 } : Wd).ep]) (by simp [results, Tryd.results6, go_sem, e0, e1, e2, e3, e4, e5]) rfl ⟨_, rfl, Lib.hid (OZ.more (by omega)), Lib.hid BZ⟩
  · -- 7
    obtain ⟨m, hm⟩ : ∃ m, q1 % 5 = m := ⟨_, rfl⟩
    have m0 : 0 ≤ m := by rw [← hm]; exact Int.emod_nonneg q1 (by omega)
    have m1 : m < 5 := by rw [← hm]; exact Int.emod_lt_of_pos q1 (by omega)
    have HM := Lib.hid hm
    have HOO := Lib.hid (HO.out.more (show K ≤ K + 2 * 0 by omega))
    clear hm y0 y1 y2
    go_wp2_with fail
    go_loopw [6] (fun i wr => ∃ (k : Nat) (dd : Wd), (k : Int) ≤ m ∧ i = .int .i64 k ∧ Hid (dd.Ok wr W0.heap.size (K + 2 * k)) ∧ Hid (Bk wr O #[.slice dd.iA dd.vs.length dd.ic, .slice dd.cA dd.cs.length dd.cc, .slice dd.hA dd.hs.length dd.hc, .slice dd.fA dd.fs.length dd.fc, .slice dd.lA dd.ls.length dd.lc, .int .i64 dd.ep] 28) ∧ Hid (Bk wr (w.heap.size + 1) #[.int .i64 q0, .int .i64 q1, .int .i64 q2] 23) ∧ Hid (Bk wr (w.heap.size + 1 + 1) #[.slice none 0 0, .slice none 0 0, .slice none 0 0, .slice none 0 0, .slice none 0 0, .int .i64 0] 28) ∧ Hid (Below w.heap.size w wr)) (fun i _ => 5 - (intOf i).toNat)
    case atStart => exact ⟨0, d1, by omega, rfl, HOO, XO, XQ', XD', BY⟩
    case round =>
      clear HOO XO XQ' XD' BY HO
      obtain ⟨k, dd, hk, rfl, HO, XO, XQ, XD, BY⟩ := hrel
      have y1 : wr.cell? ⟨w.heap.size + 1, 1, none⟩ = some (.int .i64 q1) := XQ.out.cell 1 _ rfl
      have hOO := HOL.out
      have HOsz : W0.heap.size ≤ wr.heap.size := by have := XO.out.lt; omega
      by_cases hlt : (k : Int) < m
      · go_wp2_with fail
        refine (mod_any q1 5 hq1 (by omega) (by omega) _).mono ?_
        rintro e w' ⟨rfl, rfl⟩
        rw [HM.out]
        have hn := HO.out.n
        have HA := Lib.hid (HO.out.alloc (.cells #[.int .i64 1] 3))
        have k3 : wr.cell? ⟨O, 3, none⟩ = some (.slice dd.fA dd.fs.length dd.fc) := XO.out.cell 3 _ rfl
        clear hOO
        go_wp2_with (first | (at_builtin; refine list_append_at rfl _ _ _ rfl W0.heap.size 3 i0 _ 1 8 Tryd.underlying22 hi0 hz0 hz1 hz2 rfl (by omega) (.slice dd.fA dd.fs.length dd.fc) dd.fs.length (dd.fs.map (Value.int .i64)) rfl (HA.out.rows.own 3 (by omega)) ⟨wr.heap.size, 0, none⟩ 1 1 [.int .i64 1] rfl rfl (World.news_of_block (cs := #[.int .i64 1]) (t := 3) (fr := (0, 0)) (heap_alloc_new wr _)) (oneI _) (by unfold maxLen; omega) (by omega) (by first | omega | (rw [World.size_alloc]; omega) | (simp; omega) | simp) ?_; intro Ap cp w4 a1 a2 a3; clear k3; have hrow := HA.out.rows.own 3 (by omega); have HNp := Lib.hid (HA.out.app3 Ap cp 1 a2 a1 a3); have XO4 := Lib.hid ((XO.out.alloc (.cells #[.int .i64 1] 3)).kept a2 (own_ne hrow (XO.out.alloc _) (show (3 : TypeId) ≠ 28 by decide))); have XQ4 := Lib.hid ((XQ.out.alloc (.cells #[.int .i64 1] 3)).kept a2 (own_ne hrow (XQ.out.alloc _) (show (3 : TypeId) ≠ 23 by decide))); have XD4 := Lib.hid ((XD.out.alloc (.cells #[.int .i64 1] 3)).kept a2 (own_ne hrow (XD.out.alloc _) (show (3 : TypeId) ≠ 28 by decide))); have BY4 := Lib.hid ((BY.out.alloc (BY.out.size) (.cells #[.int .i64 1] 3)).grown a2 (by have := BY.out.size; rw [World.size_alloc]; omega) (fun b hb => by have h9 : W0.heap.size ≤ b := (World.ownsRow.lt hrow b hb).1; have := HSZ.out; omega)); have s4 : wr.heap.size + 1 ≤ w4.heap.size := (by have := a2.size; simpa using this); have k3 : w4.cell? ⟨O, 3, none⟩ = some (.slice dd.fA dd.fs.length dd.fc) := XO4.out.cell 3 _ rfl; have g3 := XO4.out.frozen 3; have HO5 := Lib.hid (show ({ dd with fA := Ap, fs := dd.fs ++ [1], fc := cp } : Wd).Ok (w4.setCell ⟨O, 3, none⟩ (.slice Ap (dd.fs.length + 1) cp)) W0.heap.size (K + 2 * k + 1) from HNp.out.bk XO4.out (show (52 : TypeId) ≠ 28 by decide) (show (3 : TypeId) ≠ 28 by decide) (grownBy_set w4 O 3 (.slice Ap (dd.fs.length + 1) cp))); have XO5 := Lib.hid (XO4.out.set 3 (.slice Ap (dd.fs.length + 1) cp)); have XQ5 := Lib.hid (XQ4.out.far (p := ⟨O, 3, none⟩) (by show w.heap.size + 1 ≠ O; have := HSZ.out; have := HOL.out; omega) (.slice Ap (dd.fs.length + 1) cp)); have XD5 := Lib.hid (XD4.out.far (p := ⟨O, 3, none⟩) (by show w.heap.size + 1 + 1 ≠ O; have := HSZ.out; have := HOL.out; omega) (.slice Ap (dd.fs.length + 1) cp)); have BY5 := Lib.hid (BY4.out.setCell (p := ⟨O, 3, none⟩) (by show w.heap.size ≤ O; have := HSZ.out; have := HOL.out; omega) (.slice Ap (dd.fs.length + 1) cp)); have HA5 := Lib.hid (HO5.out.alloc (.cells #[.int .i64 1] 3)); have m4 : (w4.setCell ⟨O, 3, none⟩ (.slice Ap (dd.fs.length + 1) cp)).cell? ⟨O, 4, none⟩ = some (.slice dd.lA dd.ls.length dd.lc) := XO5.out.cell 4 _ rfl; clear a1 a2 a3 hrow) | (at_builtin; refine list_append_at rfl _ _ _ rfl W0.heap.size 3 i0 _ 1 8 Tryd.underlying22 hi0 hz0 hz1 hz2 rfl (by omega) (.slice dd.lA dd.ls.length dd.lc) dd.ls.length (dd.ls.map (Value.int .i64)) rfl (HA5.out.rows.own 4 (by omega)) ⟨w4.heap.size, 0, none⟩ 1 1 [.int .i64 1] rfl rfl (World.news_of_block (cs := #[.int .i64 1]) (t := 3) (fr := (0, 0)) (by simpa using heap_alloc_new (w4.setCell ⟨O, 3, none⟩ (.slice Ap (dd.fs.length + 1) cp)) (.cells #[.int .i64 1] 3))) (oneI _) (by unfold maxLen; omega) (by omega) (by first | omega | (rw [World.size_alloc]; omega) | (simp; omega) | simp) ?_; intro Aq cq w6 a1 a2 a3; clear m4; have hrow := HA5.out.rows.own 4 (by omega); have HNq := Lib.hid (HA5.out.app4 Aq cq 1 a2 a1 a3); have XO6 := Lib.hid ((XO5.out.alloc (.cells #[.int .i64 1] 3)).kept a2 (own_ne hrow (XO5.out.alloc _) (show (3 : TypeId) ≠ 28 by decide))); have XQ6 := Lib.hid ((XQ5.out.alloc (.cells #[.int .i64 1] 3)).kept a2 (own_ne hrow (XQ5.out.alloc _) (show (3 : TypeId) ≠ 23 by decide))); have XD6 := Lib.hid ((XD5.out.alloc (.cells #[.int .i64 1] 3)).kept a2 (own_ne hrow (XD5.out.alloc _) (show (3 : TypeId) ≠ 28 by decide))); have BY6 := Lib.hid ((BY5.out.alloc (BY5.out.size) (.cells #[.int .i64 1] 3)).grown a2 (by have := BY5.out.size; rw [World.size_alloc]; omega) (fun b hb => by have h9 : W0.heap.size ≤ b := (World.ownsRow.lt hrow b hb).1; have := HSZ.out; omega)); have k4 : w6.cell? ⟨O, 4, none⟩ = some (.slice dd.lA dd.ls.length dd.lc) := XO6.out.cell 4 _ rfl; have g4 := XO6.out.frozen 4; clear a1 a2 a3 hrow))
        clear k3 g3 k4 g4
        have HOz := Lib.hid (show ({ dd with fA := Ap, fs := dd.fs ++ [1], fc := cp, lA := Aq, ls := dd.ls ++ [1], lc := cq } : Wd).Ok (w6.setCell ⟨O, 4, none⟩ (.slice Aq (dd.ls.length + 1) cq)) W0.heap.size (K + 2 * (k + 1)) from (HNq.out.bk XO6.out (show (52 : TypeId) ≠ 28 by decide) (show (3 : TypeId) ≠ 28 by decide) (grownBy_set w6 O 4 (.slice Aq (dd.ls.length + 1) cq))).more (by omega))
        have XOz := Lib.hid (show Bk (w6.setCell ⟨O, 4, none⟩ (.slice Aq (dd.ls.length + 1) cq)) O #[.slice ({ dd with fA := Ap, fs := dd.fs ++ [1], fc := cp, lA := Aq, ls := dd.ls ++ [1], lc := cq } : Wd).iA ({ dd with fA := Ap, fs := dd.fs ++ [1], fc := cp, lA := Aq, ls := dd.ls ++ [1], lc := cq } : Wd).vs.length ({ dd with fA := Ap, fs := dd.fs ++ [1], fc := cp, lA := Aq, ls := dd.ls ++ [1], lc := cq } : Wd).ic, .slice ({ dd with fA := Ap, fs := dd.fs ++ [1], fc := cp, lA := Aq, ls := dd.ls ++ [1], lc := cq } : Wd).cA ({ dd with fA := Ap, fs := dd.fs ++ [1], fc := cp, lA := Aq, ls := dd.ls ++ [1], lc := cq } : Wd).cs.length ({ dd with fA := Ap, fs := dd.fs ++ [1], fc := cp, lA := Aq, ls := dd.ls ++ [1], lc := cq } : Wd).cc, .slice ({ dd with fA := Ap, fs := dd.fs ++ [1], fc := cp, lA := Aq, ls := dd.ls ++ [1], lc := cq } : Wd).hA ({ dd with fA := Ap, fs := dd.fs ++ [1], fc := cp, lA := Aq, ls := dd.ls ++ [1], lc := cq } : Wd).hs.length ({ dd with fA := Ap, fs := dd.fs ++ [1], fc := cp, lA := Aq, ls := dd.ls ++ [1], lc := cq } : Wd).hc, .slice ({ dd with fA := Ap, fs := dd.fs ++ [1], fc := cp, lA := Aq, ls := dd.ls ++ [1], lc := cq } : Wd).fA ({ dd with fA := Ap, fs := dd.fs ++ [1], fc := cp, lA := Aq, ls := dd.ls ++ [1], lc := cq } : Wd).fs.length ({ dd with fA := Ap, fs := dd.fs ++ [1], fc := cp, lA := Aq, ls := dd.ls ++ [1], lc := cq } : Wd).fc, .slice ({ dd with fA := Ap, fs := dd.fs ++ [1], fc := cp, lA := Aq, ls := dd.ls ++ [1], lc := cq } : Wd).lA ({ dd with fA := Ap, fs := dd.fs ++ [1], fc := cp, lA := Aq, ls := dd.ls ++ [1], lc := cq } : Wd).ls.length ({ dd with fA := Ap, fs := dd.fs ++ [1], fc := cp, lA := Aq, ls := dd.ls ++ [1], lc := cq } : Wd).lc, .int .i64 ({ dd with fA := Ap, fs := dd.fs ++ [1], fc := cp, lA := Aq, ls := dd.ls ++ [1], lc := cq } : Wd).ep] 28 from by
          have := XO6.out.set 4 (.slice Aq (dd.ls.length + 1) cq)
          simpa using this)
        have XQz := Lib.hid (XQ6.out.far (p := ⟨O, 4, none⟩) (by show w.heap.size + 1 ≠ O; have := HSZ.out; have := HOL.out; omega) (.slice Aq (dd.ls.length + 1) cq))
        have XDz := Lib.hid (XD6.out.far (p := ⟨O, 4, none⟩) (by show w.heap.size + 1 + 1 ≠ O; have := HSZ.out; have := HOL.out; omega) (.slice Aq (dd.ls.length + 1) cq))
        have BYz := Lib.hid (BY6.out.setCell (p := ⟨O, 4, none⟩) (by show w.heap.size ≤ O; have := HSZ.out; have := HOL.out; omega) (.slice Aq (dd.ls.length + 1) cq))
        go_roundw
        case rel => exact ⟨k + 1, ({ dd with fA := Ap, fs := dd.fs ++ [1], fc := cp, lA := Aq, ls := dd.ls ++ [1], lc := cq } : Wd), by omega, by go_num, HOz, XOz, XQz, XDz, BYz⟩
        case measure => simp [intOf]; omega
      · have hge : m ≤ (k : Int) := by omega
        have XD2 := XD
        have HO2 := HO
        have XO2 := XO
        have BY2 := BY
        have m0 : wr.cell? ⟨O, 0, none⟩ = some (.slice dd.iA dd.vs.length dd.ic) := XO2.out.cell 0 _ rfl
        have zz0 : wr.cell? ⟨w.heap.size + 1 + 1, 0, none⟩ = some (.slice none 0 0) := XD2.out.cell 0 _ rfl
        have f0 : wr.frozen? ⟨w.heap.size + 1 + 1, 0, none⟩ = false := XD2.out.frozen 0
        have m1 : wr.cell? ⟨O, 1, none⟩ = some (.slice dd.cA dd.cs.length dd.cc) := XO2.out.cell 1 _ rfl
        have zz1 : wr.cell? ⟨w.heap.size + 1 + 1, 1, none⟩ = some (.slice none 0 0) := XD2.out.cell 1 _ rfl
        have f1 : wr.frozen? ⟨w.heap.size + 1 + 1, 1, none⟩ = false := XD2.out.frozen 1
        have m2 : wr.cell? ⟨O, 2, none⟩ = some (.slice dd.hA dd.hs.length dd.hc) := XO2.out.cell 2 _ rfl
        have zz2 : wr.cell? ⟨w.heap.size + 1 + 1, 2, none⟩ = some (.slice none 0 0) := XD2.out.cell 2 _ rfl
        have f2 : wr.frozen? ⟨w.heap.size + 1 + 1, 2, none⟩ = false := XD2.out.frozen 2
        have m3 : wr.cell? ⟨O, 3, none⟩ = some (.slice dd.fA dd.fs.length dd.fc) := XO2.out.cell 3 _ rfl
        have zz3 : wr.cell? ⟨w.heap.size + 1 + 1, 3, none⟩ = some (.slice none 0 0) := XD2.out.cell 3 _ rfl
        have f3 : wr.frozen? ⟨w.heap.size + 1 + 1, 3, none⟩ = false := XD2.out.frozen 3
        have m4 : wr.cell? ⟨O, 4, none⟩ = some (.slice dd.lA dd.ls.length dd.lc) := XO2.out.cell 4 _ rfl
        have zz4 : wr.cell? ⟨w.heap.size + 1 + 1, 4, none⟩ = some (.slice none 0 0) := XD2.out.cell 4 _ rfl
        have f4 : wr.frozen? ⟨w.heap.size + 1 + 1, 4, none⟩ = false := XD2.out.frozen 4
        have m5 : wr.cell? ⟨O, 5, none⟩ = some (.int .i64 dd.ep) := XO2.out.cell 5 _ rfl
        have zz5 : wr.cell? ⟨w.heap.size + 1 + 1, 5, none⟩ = some (.int .i64 0) := XD2.out.cell 5 _ rfl
        have f5 : wr.frozen? ⟨w.heap.size + 1 + 1, 5, none⟩ = false := XD2.out.frozen 5
        go_wp2_with fail
        refine (mod_any q1 5 hq1 (by omega) (by omega) _).mono ?_
        rintro e w' ⟨rfl, rfl⟩
        rw [HM.out]
        go_wp2_with fail
        obtain ⟨wz, hwz, XZ, OZ, BZ⟩ := bent_end HO2.out XO2.out XD2.out BY2.out (by have := HSZ.out; omega)
        rw [← hwz]
        have e0 := XZ.cell 0 _ rfl
        have e1 := XZ.cell 1 _ rfl
        have e2 := XZ.cell 2 _ rfl
        have e3 := XZ.cell 3 _ rfl
        have e4 := XZ.cell 4 _ rfl
        have e5 := XZ.cell 5 _ rfl
        exact bodyPost_ret (v := .agg #[.slice dd.iA dd.vs.length dd.ic, .slice dd.cA dd.cs.length dd.cc, .slice dd.hA dd.hs.length dd.hc, .slice dd.fA dd.fs.length dd.fc, .slice dd.lA dd.ls.length dd.lc, .int .i64 dd.ep]) (by simp [results, Tryd.results6, go_sem, e0, e1, e2, e3, e4, e5]) rfl ⟨_, rfl, Lib.hid (OZ.more (by omega)), Lib.hid BZ⟩
  · -- 8
    go_wp2_with fail
    refine (mod_any q1 3 hq1 (by omega) (by omega) _).mono ?_
    rintro e w' ⟨rfl, rfl⟩
    have r2 := Int.emod_nonneg q1 (show (3 : Int) ≠ 0 by omega)
    have r3 := Int.emod_lt_of_pos q1 (show (0 : Int) < 3 by omega)
    generalize q1 % 3 = rr at *
    rcases (show rr = 0 ∨ rr = 1 ∨ rr = 2 by omega) with rfl | rfl | rfl
    · have hmk : ∀ w : World, (Instr.makeSlice 22 (.int .i64 999) (.int .i64 999)).run Tryd.prog w = .ok (.slice (some ⟨w.heap.size, 0, none⟩) 999 999) (w.alloc (.cells (madeCells #[.int .i64 0] 999) 3)) := fun w => by
        have h := run_make (P := Tryd.prog) w 22 3 i0 (.int .i64 0) Tryd.underlying22 hi0 hz0 .i64 .i64 999 999 (by omega) (by omega) (by rw [hz2]; omega) (by omega)
        rw [hz1] at h
        exact h
      have k1 : (w2.alloc (.cells (madeCells #[.int .i64 0] 999) 3)).cell? ⟨O, 1, none⟩ = some (.slice d1.cA d1.cs.length d1.cc) := (XO.out.alloc _).cell 1 _ rfl
      have g1 := (XO.out.alloc (.cells (madeCells #[.int .i64 0] 999) 3)).frozen 1
      have XO5 := Lib.hid ((XO.out.alloc (.cells (madeCells #[.int .i64 0] 999) 3)).set 1 (.slice (some ⟨w2.heap.size, 0, none⟩) 999 999))
      have XD2 := Lib.hid ((XD'.out.alloc (.cells (madeCells #[.int .i64 0] 999) 3)).far (p := ⟨O, 1, none⟩) (by show w.heap.size + 1 + 1 ≠ O; have := HSZ.out; have := HOL.out; omega) (.slice (some ⟨w2.heap.size, 0, none⟩) 999 999))
      have m0 : ((w2.alloc (.cells (madeCells #[.int .i64 0] 999) 3)).setCell ⟨O, 1, none⟩ (.slice (some ⟨w2.heap.size, 0, none⟩) 999 999)).cell? ⟨O, 0, none⟩ = some (.slice d1.iA d1.vs.length d1.ic) := XO5.out.cell 0 _ rfl
      have zz0 : ((w2.alloc (.cells (madeCells #[.int .i64 0] 999) 3)).setCell ⟨O, 1, none⟩ (.slice (some ⟨w2.heap.size, 0, none⟩) 999 999)).cell? ⟨w.heap.size + 1 + 1, 0, none⟩ = some (.slice none 0 0) := XD2.out.cell 0 _ rfl
      have f0 := XD2.out.frozen 0
      have m1 : ((w2.alloc (.cells (madeCells #[.int .i64 0] 999) 3)).setCell ⟨O, 1, none⟩ (.slice (some ⟨w2.heap.size, 0, none⟩) 999 999)).cell? ⟨O, 1, none⟩ = some (.slice (some ⟨w2.heap.size, 0, none⟩) 999 999) := XO5.out.cell 1 _ rfl
      have zz1 : ((w2.alloc (.cells (madeCells #[.int .i64 0] 999) 3)).setCell ⟨O, 1, none⟩ (.slice (some ⟨w2.heap.size, 0, none⟩) 999 999)).cell? ⟨w.heap.size + 1 + 1, 1, none⟩ = some (.slice none 0 0) := XD2.out.cell 1 _ rfl
      have f1 := XD2.out.frozen 1
      have m2 : ((w2.alloc (.cells (madeCells #[.int .i64 0] 999) 3)).setCell ⟨O, 1, none⟩ (.slice (some ⟨w2.heap.size, 0, none⟩) 999 999)).cell? ⟨O, 2, none⟩ = some (.slice d1.hA d1.hs.length d1.hc) := XO5.out.cell 2 _ rfl
      have zz2 : ((w2.alloc (.cells (madeCells #[.int .i64 0] 999) 3)).setCell ⟨O, 1, none⟩ (.slice (some ⟨w2.heap.size, 0, none⟩) 999 999)).cell? ⟨w.heap.size + 1 + 1, 2, none⟩ = some (.slice none 0 0) := XD2.out.cell 2 _ rfl
      have f2 := XD2.out.frozen 2
      have m3 : ((w2.alloc (.cells (madeCells #[.int .i64 0] 999) 3)).setCell ⟨O, 1, none⟩ (.slice (some ⟨w2.heap.size, 0, none⟩) 999 999)).cell? ⟨O, 3, none⟩ = some (.slice d1.fA d1.fs.length d1.fc) := XO5.out.cell 3 _ rfl
      have zz3 : ((w2.alloc (.cells (madeCells #[.int .i64 0] 999) 3)).setCell ⟨O, 1, none⟩ (.slice (some ⟨w2.heap.size, 0, none⟩) 999 999)).cell? ⟨w.heap.size + 1 + 1, 3, none⟩ = some (.slice none 0 0) := XD2.out.cell 3 _ rfl
      have f3 := XD2.out.frozen 3
      have m4 : ((w2.alloc (.cells (madeCells #[.int .i64 0] 999) 3)).setCell ⟨O, 1, none⟩ (.slice (some ⟨w2.heap.size, 0, none⟩) 999 999)).cell? ⟨O, 4, none⟩ = some (.slice d1.lA d1.ls.length d1.lc) := XO5.out.cell 4 _ rfl
      have zz4 : ((w2.alloc (.cells (madeCells #[.int .i64 0] 999) 3)).setCell ⟨O, 1, none⟩ (.slice (some ⟨w2.heap.size, 0, none⟩) 999 999)).cell? ⟨w.heap.size + 1 + 1, 4, none⟩ = some (.slice none 0 0) := XD2.out.cell 4 _ rfl
      have f4 := XD2.out.frozen 4
      have m5 : ((w2.alloc (.cells (madeCells #[.int .i64 0] 999) 3)).setCell ⟨O, 1, none⟩ (.slice (some ⟨w2.heap.size, 0, none⟩) 999 999)).cell? ⟨O, 5, none⟩ = some (.int .i64 d1.ep) := XO5.out.cell 5 _ rfl
      have zz5 : ((w2.alloc (.cells (madeCells #[.int .i64 0] 999) 3)).setCell ⟨O, 1, none⟩ (.slice (some ⟨w2.heap.size, 0, none⟩) 999 999)).cell? ⟨w.heap.size + 1 + 1, 5, none⟩ = some (.int .i64 0) := XD2.out.cell 5 _ rfl
      have f5 := XD2.out.frozen 5
      go_wp2_with fail
      have HN := Lib.hid (HO.out.made1 (w' := (w2.alloc (.cells (madeCells #[.int .i64 0] 999) 3))) (some ⟨w2.heap.size, 0, none⟩) 999 (List.replicate 999 0) (by simp) (by omega) (World.grownBy_alloc w2 _ none) (by
        have h := World.ownsRow_lit (base := W0.heap.size) (e := 3) (size := 1) w2 (madeCells #[.int .i64 0] 999) 999 (by have := HOL.out; have := XO.out.lt; omega) (by unfold maxLen; omega) (by rw [size_madeCells])
        rw [toList_madeCells_one] at h
        rw [List.map_replicate]
        exact h) rfl)
      have HO2 := Lib.hid (HN.out.bk (XO.out.alloc _) (show (52 : TypeId) ≠ 28 by decide) (show (3 : TypeId) ≠ 28 by decide) (grownBy_set (w2.alloc (.cells (madeCells #[.int .i64 0] 999) 3)) O 1 (.slice (some ⟨w2.heap.size, 0, none⟩) 999 999)))
      have XO2 := Lib.hid (show Bk ((w2.alloc (.cells (madeCells #[.int .i64 0] 999) 3)).setCell ⟨O, 1, none⟩ (.slice (some ⟨w2.heap.size, 0, none⟩) 999 999)) O #[.slice ({ d1 with cA := some ⟨w2.heap.size, 0, none⟩, cs := List.replicate 999 0, cc := 999 } : Wd).iA ({ d1 with cA := some ⟨w2.heap.size, 0, none⟩, cs := List.replicate 999 0, cc := 999 } : Wd).vs.length ({ d1 with cA := some ⟨w2.heap.size, 0, none⟩, cs := List.replicate 999 0, cc := 999 } : Wd).ic, .slice ({ d1 with cA := some ⟨w2.heap.size, 0, none⟩, cs := List.replicate 999 0, cc := 999 } : Wd).cA ({ d1 with cA := some ⟨w2.heap.size, 0, none⟩, cs := List.replicate 999 0, cc := 999 } : Wd).cs.length ({ d1 with cA := some ⟨w2.heap.size, 0, none⟩, cs := List.replicate 999 0, cc := 999 } : Wd).cc, .slice ({ d1 with cA := some ⟨w2.heap.size, 0, none⟩, cs := List.replicate 999 0, cc := 999 } : Wd).hA ({ d1 with cA := some ⟨w2.heap.size, 0, none⟩, cs := List.replicate 999 0, cc := 999 } : Wd).hs.length ({ d1 with cA := some ⟨w2.heap.size, 0, none⟩, cs := List.replicate 999 0, cc := 999 } : Wd).hc, .slice ({ d1 with cA := some ⟨w2.heap.size, 0, none⟩, cs := List.replicate 999 0, cc := 999 } : Wd).fA ({ d1 with cA := some ⟨w2.heap.size, 0, none⟩, cs := List.replicate 999 0, cc := 999 } : Wd).fs.length ({ d1 with cA := some ⟨w2.heap.size, 0, none⟩, cs := List.replicate 999 0, cc := 999 } : Wd).fc, .slice ({ d1 with cA := some ⟨w2.heap.size, 0, none⟩, cs := List.replicate 999 0, cc := 999 } : Wd).lA ({ d1 with cA := some ⟨w2.heap.size, 0, none⟩, cs := List.replicate 999 0, cc := 999 } : Wd).ls.length ({ d1 with cA := some ⟨w2.heap.size, 0, none⟩, cs := List.replicate 999 0, cc := 999 } : Wd).lc, .int .i64 ({ d1 with cA := some ⟨w2.heap.size, 0, none⟩, cs := List.replicate 999 0, cc := 999 } : Wd).ep] 28 from by
        have := XO5.out
        simpa using this)
      have BY2 := Lib.hid ((BY.out.alloc BY.out.size (.cells (madeCells #[.int .i64 0] 999) 3)).setCell (p := ⟨O, 1, none⟩) (by show w.heap.size ≤ O; have := HSZ.out; have := HOL.out; omega) (.slice (some ⟨w2.heap.size, 0, none⟩) 999 999))
      obtain ⟨wz, hwz, XZ, OZ, BZ⟩ := bent_end HO2.out XO2.out XD2.out BY2.out (by have := HSZ.out; omega)
      simp only [List.length_replicate] at hwz
      rw [← hwz]
      have e0 := XZ.cell 0 _ rfl
      have e1 := XZ.cell 1 _ rfl
      have e2 := XZ.cell 2 _ rfl
      have e3 := XZ.cell 3 _ rfl
      have e4 := XZ.cell 4 _ rfl
      have e5 := XZ.cell 5 _ rfl
      exact bodyPost_ret (v := .agg #[.slice ({ d1 with cA := some ⟨w2.heap.size, 0, none⟩, cs := List.replicate 999 0, cc := 999 } : Wd).iA ({ d1 with cA := some ⟨w2.heap.size, 0, none⟩, cs := List.replicate 999 0, cc := 999 } : Wd).vs.length ({ d1 with cA := some ⟨w2.heap.size, 0, none⟩, cs := List.replicate 999 0, cc := 999 } : Wd).ic, .slice ({ d1 with cA := some ⟨w2.heap.size, 0, none⟩, cs := List.replicate 999 0, cc := 999 } : Wd).cA ({ d1 with cA := some ⟨w2.heap.size, 0, none⟩, cs := List.replicate 999 0, cc := 999 } : Wd).cs.length ({ d1 with cA := some ⟨w2.heap.size, 0, none⟩, cs := List.replicate 999 0, cc := 999 } : Wd).cc, .slice ({ d1 with cA := some ⟨w2.heap.size, 0, none⟩, cs := List.replicate 999 0, cc := 999 } : Wd).hA ({ d1 with cA := some ⟨w2.heap.size, 0, none⟩, cs := List.replicate 999 0, cc := 999 } : Wd).hs.length ({ d1 with cA := some ⟨w2.heap.size, 0, none⟩, cs := List.replicate 999 0, cc := 999 } : Wd).hc, .slice ({ d1 with cA := some ⟨w2.heap.size, 0, none⟩, cs := List.replicate 999 0, cc := 999 } : Wd).fA ({ d1 with cA := some ⟨w2.heap.size, 0, none⟩, cs := List.replicate 999 0, cc := 999 } : Wd).fs.length ({ d1 with cA := some ⟨w2.heap.size, 0, none⟩, cs := List.replicate 999 0, cc := 999 } : Wd).fc, .slice ({ d1 with cA := some ⟨w2.heap.size, 0, none⟩, cs := List.replicate 999 0, cc := 999 } : Wd).lA ({ d1 with cA := some ⟨w2.heap.size, 0, none⟩, cs := List.replicate 999 0, cc := 999 } : Wd).ls.length ({ d1 with cA := some ⟨w2.heap.size, 0, none⟩, cs := List.replicate 999 0, cc := 999 } : Wd).lc, .int .i64 ({ d1 with cA := some ⟨w2.heap.size, 0, none⟩, cs := List.replicate 999 0, cc := 999 } : Wd).ep]) (by simp [results, Tryd.results6, go_sem, e0, e1, e2, e3, e4, e5]) rfl ⟨_, rfl, Lib.hid (OZ.more (by omega)), Lib.hid BZ⟩
    · have hmk : ∀ w : World, (Instr.makeSlice 22 (.int .i64 1000) (.int .i64 1000)).run Tryd.prog w = .ok (.slice (some ⟨w.heap.size, 0, none⟩) 1000 1000) (w.alloc (.cells (madeCells #[.int .i64 0] 1000) 3)) := fun w => by
        have h := run_make (P := Tryd.prog) w 22 3 i0 (.int .i64 0) Tryd.underlying22 hi0 hz0 .i64 .i64 1000 1000 (by omega) (by omega) (by rw [hz2]; omega) (by omega)
        rw [hz1] at h
        exact h
      have k1 : (w2.alloc (.cells (madeCells #[.int .i64 0] 1000) 3)).cell? ⟨O, 1, none⟩ = some (.slice d1.cA d1.cs.length d1.cc) := (XO.out.alloc _).cell 1 _ rfl
      have g1 := (XO.out.alloc (.cells (madeCells #[.int .i64 0] 1000) 3)).frozen 1
      have XO5 := Lib.hid ((XO.out.alloc (.cells (madeCells #[.int .i64 0] 1000) 3)).set 1 (.slice (some ⟨w2.heap.size, 0, none⟩) 1000 1000))
      have XD2 := Lib.hid ((XD'.out.alloc (.cells (madeCells #[.int .i64 0] 1000) 3)).far (p := ⟨O, 1, none⟩) (by show w.heap.size + 1 + 1 ≠ O; have := HSZ.out; have := HOL.out; omega) (.slice (some ⟨w2.heap.size, 0, none⟩) 1000 1000))
      have m0 : ((w2.alloc (.cells (madeCells #[.int .i64 0] 1000) 3)).setCell ⟨O, 1, none⟩ (.slice (some ⟨w2.heap.size, 0, none⟩) 1000 1000)).cell? ⟨O, 0, none⟩ = some (.slice d1.iA d1.vs.length d1.ic) := XO5.out.cell 0 _ rfl
      have zz0 : ((w2.alloc (.cells (madeCells #[.int .i64 0] 1000) 3)).setCell ⟨O, 1, none⟩ (.slice (some ⟨w2.heap.size, 0, none⟩) 1000 1000)).cell? ⟨w.heap.size + 1 + 1, 0, none⟩ = some (.slice none 0 0) := XD2.out.cell 0 _ rfl
      have f0 := XD2.out.frozen 0
      have m1 : ((w2.alloc (.cells (madeCells #[.int .i64 0] 1000) 3)).setCell ⟨O, 1, none⟩ (.slice (some ⟨w2.heap.size, 0, none⟩) 1000 1000)).cell? ⟨O, 1, none⟩ = some (.slice (some ⟨w2.heap.size, 0, none⟩) 1000 1000) := XO5.out.cell 1 _ rfl
      have zz1 : ((w2.alloc (.cells (madeCells #[.int .i64 0] 1000) 3)).setCell ⟨O, 1, none⟩ (.slice (some ⟨w2.heap.size, 0, none⟩) 1000 1000)).cell? ⟨w.heap.size + 1 + 1, 1, none⟩ = some (.slice none 0 0) := XD2.out.cell 1 _ rfl
      have f1 := XD2.out.frozen 1
      have m2 : ((w2.alloc (.cells (madeCells #[.int .i64 0] 1000) 3)).setCell ⟨O, 1, none⟩ (.slice (some ⟨w2.heap.size, 0, none⟩) 1000 1000)).cell? ⟨O, 2, none⟩ = some (.slice d1.hA d1.hs.length d1.hc) := XO5.out.cell 2 _ rfl
      have zz2 : ((w2.alloc (.cells (madeCells #[.int .i64 0] 1000) 3)).setCell ⟨O, 1, none⟩ (.slice (some ⟨w2.heap.size, 0, none⟩) 1000 1000)).cell? ⟨w.heap.size + 1 + 1, 2, none⟩ = some (.slice none 0 0) := XD2.out.cell 2 _ rfl
      have f2 := XD2.out.frozen 2
      have m3 : ((w2.alloc (.cells (madeCells #[.int .i64 0] 1000) 3)).setCell ⟨O, 1, none⟩ (.slice (some ⟨w2.heap.size, 0, none⟩) 1000 1000)).cell? ⟨O, 3, none⟩ = some (.slice d1.fA d1.fs.length d1.fc) := XO5.out.cell 3 _ rfl
      have zz3 : ((w2.alloc (.cells (madeCells #[.int .i64 0] 1000) 3)).setCell ⟨O, 1, none⟩ (.slice (some ⟨w2.heap.size, 0, none⟩) 1000 1000)).cell? ⟨w.heap.size + 1 + 1, 3, none⟩ = some (.slice none 0 0) := XD2.out.cell 3 _ rfl
      have f3 := XD2.out.frozen 3
      have m4 : ((w2.alloc (.cells (madeCells #[.int .i64 0] 1000) 3)).setCell ⟨O, 1, none⟩ (.slice (some ⟨w2.heap.size, 0, none⟩) 1000 1000)).cell? ⟨O, 4, none⟩ = some (.slice d1.lA d1.ls.length d1.lc) := XO5.out.cell 4 _ rfl
      have zz4 : ((w2.alloc (.cells (madeCells #[.int .i64 0] 1000) 3)).setCell ⟨O, 1, none⟩ (.slice (some ⟨w2.heap.size, 0, none⟩) 1000 1000)).cell? ⟨w.heap.size + 1 + 1, 4, none⟩ = some (.slice none 0 0) := XD2.out.cell 4 _ rfl
      have f4 := XD2.out.frozen 4
      have m5 : ((w2.alloc (.cells (madeCells #[.int .i64 0] 1000) 3)).setCell ⟨O, 1, none⟩ (.slice (some ⟨w2.heap.size, 0, none⟩) 1000 1000)).cell? ⟨O, 5, none⟩ = some (.int .i64 d1.ep) := XO5.out.cell 5 _ rfl
      have zz5 : ((w2.alloc (.cells (madeCells #[.int .i64 0] 1000) 3)).setCell ⟨O, 1, none⟩ (.slice (some ⟨w2.heap.size, 0, none⟩) 1000 1000)).cell? ⟨w.heap.size + 1 + 1, 5, none⟩ = some (.int .i64 0) := XD2.out.cell 5 _ rfl
      have f5 := XD2.out.frozen 5
      go_wp2_with fail
      have HN := Lib.hid (HO.out.made1 (w' := (w2.alloc (.cells (madeCells #[.int .i64 0] 1000) 3))) (some ⟨w2.heap.size, 0, none⟩) 1000 (List.replicate 1000 0) (by simp) (by omega) (World.grownBy_alloc w2 _ none) (by
        have h := World.ownsRow_lit (base := W0.heap.size) (e := 3) (size := 1) w2 (madeCells #[.int .i64 0] 1000) 1000 (by have := HOL.out; have := XO.out.lt; omega) (by unfold maxLen; omega) (by rw [size_madeCells])
        rw [toList_madeCells_one] at h
        rw [List.map_replicate]
        exact h) rfl)
      have HO2 := Lib.hid (HN.out.bk (XO.out.alloc _) (show (52 : TypeId) ≠ 28 by decide) (show (3 : TypeId) ≠ 28 by decide) (grownBy_set (w2.alloc (.cells (madeCells #[.int .i64 0] 1000) 3)) O 1 (.slice (some ⟨w2.heap.size, 0, none⟩) 1000 1000)))
      have XO2 := Lib.hid (show Bk ((w2.alloc (.cells (madeCells #[.int .i64 0] 1000) 3)).setCell ⟨O, 1, none⟩ (.slice (some ⟨w2.heap.size, 0, none⟩) 1000 1000)) O #[.slice ({ d1 with cA := some ⟨w2.heap.size, 0, none⟩, cs := List.replicate 1000 0, cc := 1000 } : Wd).iA ({ d1 with cA := some ⟨w2.heap.size, 0, none⟩, cs := List.replicate 1000 0, cc := 1000 } : Wd).vs.length ({ d1 with cA := some ⟨w2.heap.size, 0, none⟩, cs := List.replicate 1000 0, cc := 1000 } : Wd).ic, .slice ({ d1 with cA := some ⟨w2.heap.size, 0, none⟩, cs := List.replicate 1000 0, cc := 1000 } : Wd).cA ({ d1 with cA := some ⟨w2.heap.size, 0, none⟩, cs := List.replicate 1000 0, cc := 1000 } : Wd).cs.length ({ d1 with cA := some ⟨w2.heap.size, 0, none⟩, cs := List.replicate 1000 0, cc := 1000 } : Wd).cc, .slice ({ d1 with cA := some ⟨w2.heap.size, 0, none⟩, cs := List.replicate 1000 0, cc := 1000 } : Wd).hA ({ d1 with cA := some ⟨w2.heap.size, 0, none⟩, cs := List.replicate 1000 0, cc := 1000 } : Wd).hs.length ({ d1 with cA := some ⟨w2.heap.size, 0, none⟩, cs := List.replicate 1000 0, cc := 1000 } : Wd).hc, .slice ({ d1 with cA := some ⟨w2.heap.size, 0, none⟩, cs := List.replicate 1000 0, cc := 1000 } : Wd).fA ({ d1 with cA := some ⟨w2.heap.size, 0, none⟩, cs := List.replicate 1000 0, cc := 1000 } : Wd).fs.length ({ d1 with cA := some ⟨w2.heap.size, 0, none⟩, cs := List.replicate 1000 0, cc := 1000 } : Wd).fc, .slice ({ d1 with cA := some ⟨w2.heap.size, 0, none⟩, cs := List.replicate 1000 0, cc := 1000 } : Wd).lA ({ d1 with cA := some ⟨w2.heap.size, 0, none⟩, cs := List.replicate 1000 0, cc := 1000 } : Wd).ls.length ({ d1 with cA := some ⟨w2.heap.size, 0, none⟩, cs := List.replicate 1000 0, cc := 1000 } : Wd).lc, .int .i64 ({ d1 with cA := some ⟨w2.heap.size, 0, none⟩, cs := List.replicate 1000 0, cc := 1000 } : Wd).ep] 28 from by
        have := XO5.out
        simpa using this)
      have BY2 := Lib.hid ((BY.out.alloc BY.out.size (.cells (madeCells #[.int .i64 0] 1000) 3)).setCell (p := ⟨O, 1, none⟩) (by show w.heap.size ≤ O; have := HSZ.out; have := HOL.out; omega) (.slice (some ⟨w2.heap.size, 0, none⟩) 1000 1000))
      obtain ⟨wz, hwz, XZ, OZ, BZ⟩ := bent_end HO2.out XO2.out XD2.out BY2.out (by have := HSZ.out; omega)
      simp only [List.length_replicate] at hwz
      rw [← hwz]
      have e0 := XZ.cell 0 _ rfl
      have e1 := XZ.cell 1 _ rfl
      have e2 := XZ.cell 2 _ rfl
      have e3 := XZ.cell 3 _ rfl
      have e4 := XZ.cell 4 _ rfl
      have e5 := XZ.cell 5 _ rfl
      exact bodyPost_ret (v := .agg #[.slice ({ d1 with cA := some ⟨w2.heap.size, 0, none⟩, cs := List.replicate 1000 0, cc := 1000 } : Wd).iA ({ d1 with cA := some ⟨w2.heap.size, 0, none⟩, cs := List.replicate 1000 0, cc := 1000 } : Wd).vs.length ({ d1 with cA := some ⟨w2.heap.size, 0, none⟩, cs := List.replicate 1000 0, cc := 1000 } : Wd).ic, .slice ({ d1 with cA := some ⟨w2.heap.size, 0, none⟩, cs := List.replicate 1000 0, cc := 1000 } : Wd).cA ({ d1 with cA := some ⟨w2.heap.size, 0, none⟩, cs := List.replicate 1000 0, cc := 1000 } : Wd).cs.length ({ d1 with cA := some ⟨w2.heap.size, 0, none⟩, cs := List.replicate 1000 0, cc := 1000 } : Wd).cc, .slice ({ d1 with cA := some ⟨w2.heap.size, 0, none⟩, cs := List.replicate 1000 0, cc := 1000 } : Wd).hA ({ d1 with cA := some ⟨w2.heap.size, 0, none⟩, cs := List.replicate 1000 0, cc := 1000 } : Wd).hs.length ({ d1 with cA := some ⟨w2.heap.size, 0, none⟩, cs := List.replicate 1000 0, cc := 1000 } : Wd).hc, .slice ({ d1 with cA := some ⟨w2.heap.size, 0, none⟩, cs := List.replicate 1000 0, cc := 1000 } : Wd).fA ({ d1 with cA := some ⟨w2.heap.size, 0, none⟩, cs := List.replicate 1000 0, cc := 1000 } : Wd).fs.length ({ d1 with cA := some ⟨w2.heap.size, 0, none⟩, cs := List.replicate 1000 0, cc := 1000 } : Wd).fc, .slice ({ d1 with cA := some ⟨w2.heap.size, 0, none⟩, cs := List.replicate 1000 0, cc := 1000 } : Wd).lA ({ d1 with cA := some ⟨w2.heap.size, 0, none⟩, cs := List.replicate 1000 0, cc := 1000 } : Wd).ls.length ({ d1 with cA := some ⟨w2.heap.size, 0, none⟩, cs := List.replicate 1000 0, cc := 1000 } : Wd).lc, .int .i64 ({ d1 with cA := some ⟨w2.heap.size, 0, none⟩, cs := List.replicate 1000 0, cc := 1000 } : Wd).ep]) (by simp [results, Tryd.results6, go_sem, e0, e1, e2, e3, e4, e5]) rfl ⟨_, rfl, Lib.hid (OZ.more (by omega)), Lib.hid BZ⟩
    · have hmk : ∀ w : World, (Instr.makeSlice 22 (.int .i64 1001) (.int .i64 1001)).run Tryd.prog w = .ok (.slice (some ⟨w.heap.size, 0, none⟩) 1001 1001) (w.alloc (.cells (madeCells #[.int .i64 0] 1001) 3)) := fun w => by
        have h := run_make (P := Tryd.prog) w 22 3 i0 (.int .i64 0) Tryd.underlying22 hi0 hz0 .i64 .i64 1001 1001 (by omega) (by omega) (by rw [hz2]; omega) (by omega)
        rw [hz1] at h
        exact h
      have k1 : (w2.alloc (.cells (madeCells #[.int .i64 0] 1001) 3)).cell? ⟨O, 1, none⟩ = some (.slice d1.cA d1.cs.length d1.cc) := (XO.out.alloc _).cell 1 _ rfl
      have g1 := (XO.out.alloc (.cells (madeCells #[.int .i64 0] 1001) 3)).frozen 1
      have XO5 := Lib.hid ((XO.out.alloc (.cells (madeCells #[.int .i64 0] 1001) 3)).set 1 (.slice (some ⟨w2.heap.size, 0, none⟩) 1001 1001))
      have XD2 := Lib.hid ((XD'.out.alloc (.cells (madeCells #[.int .i64 0] 1001) 3)).far (p := ⟨O, 1, none⟩) (by show w.heap.size + 1 + 1 ≠ O; have := HSZ.out; have := HOL.out; omega) (.slice (some ⟨w2.heap.size, 0, none⟩) 1001 1001))
      have m0 : ((w2.alloc (.cells (madeCells #[.int .i64 0] 1001) 3)).setCell ⟨O, 1, none⟩ (.slice (some ⟨w2.heap.size, 0, none⟩) 1001 1001)).cell? ⟨O, 0, none⟩ = some (.slice d1.iA d1.vs.length d1.ic) := XO5.out.cell 0 _ rfl
      have zz0 : ((w2.alloc (.cells (madeCells #[.int .i64 0] 1001) 3)).setCell ⟨O, 1, none⟩ (.slice (some ⟨w2.heap.size, 0, none⟩) 1001 1001)).cell? ⟨w.heap.size + 1 + 1, 0, none⟩ = some (.slice none 0 0) := XD2.out.cell 0 _ rfl
      have f0 := XD2.out.frozen 0
      have m1 : ((w2.alloc (.cells (madeCells #[.int .i64 0] 1001) 3)).setCell ⟨O, 1, none⟩ (.slice (some ⟨w2.heap.size, 0, none⟩) 1001 1001)).cell? ⟨O, 1, none⟩ = some (.slice (some ⟨w2.heap.size, 0, none⟩) 1001 1001) := XO5.out.cell 1 _ rfl
      have zz1 : ((w2.alloc (.cells (madeCells #[.int .i64 0] 1001) 3)).setCell ⟨O, 1, none⟩ (.slice (some ⟨w2.heap.size, 0, none⟩) 1001 1001)).cell? ⟨w.heap.size + 1 + 1, 1, none⟩ = some (.slice none 0 0) := XD2.out.cell 1 _ rfl
      have f1 := XD2.out.frozen 1
      have m2 : ((w2.alloc (.cells (madeCells #[.int .i64 0] 1001) 3)).setCell ⟨O, 1, none⟩ (.slice (some ⟨w2.heap.size, 0, none⟩) 1001 1001)).cell? ⟨O, 2, none⟩ = some (.slice d1.hA d1.hs.length d1.hc) := XO5.out.cell 2 _ rfl
      have zz2 : ((w2.alloc (.cells (madeCells #[.int .i64 0] 1001) 3)).setCell ⟨O, 1, none⟩ (.slice (some ⟨w2.heap.size, 0, none⟩) 1001 1001)).cell? ⟨w.heap.size + 1 + 1, 2, none⟩ = some (.slice none 0 0) := XD2.out.cell 2 _ rfl
      have f2 := XD2.out.frozen 2
      have m3 : ((w2.alloc (.cells (madeCells #[.int .i64 0] 1001) 3)).setCell ⟨O, 1, none⟩ (.slice (some ⟨w2.heap.size, 0, none⟩) 1001 1001)).cell? ⟨O, 3, none⟩ = some (.slice d1.fA d1.fs.length d1.fc) := XO5.out.cell 3 _ rfl
      have zz3 : ((w2.alloc (.cells (madeCells #[.int .i64 0] 1001) 3)).setCell ⟨O, 1, none⟩ (.slice (some ⟨w2.heap.size, 0, none⟩) 1001 1001)).cell? ⟨w.heap.size + 1 + 1, 3, none⟩ = some (.slice none 0 0) := XD2.out.cell 3 _ rfl
      have f3 := XD2.out.frozen 3
      have m4 : ((w2.alloc (.cells (madeCells #[.int .i64 0] 1001) 3)).setCell ⟨O, 1, none⟩ (.slice (some ⟨w2.heap.size, 0, none⟩) 1001 1001)).cell? ⟨O, 4, none⟩ = some (.slice d1.lA d1.ls.length d1.lc) := XO5.out.cell 4 _ rfl
      have zz4 : ((w2.alloc (.cells (madeCells #[.int .i64 0] 1001) 3)).setCell ⟨O, 1, none⟩ (.slice (some ⟨w2.heap.size, 0, none⟩) 1001 1001)).cell? ⟨w.heap.size + 1 + 1, 4, none⟩ = some (.slice none 0 0) := XD2.out.cell 4 _ rfl
      have f4 := XD2.out.frozen 4
      have m5 : ((w2.alloc (.cells (madeCells #[.int .i64 0] 1001) 3)).setCell ⟨O, 1, none⟩ (.slice (some ⟨w2.heap.size, 0, none⟩) 1001 1001)).cell? ⟨O, 5, none⟩ = some (.int .i64 d1.ep) := XO5.out.cell 5 _ rfl
      have zz5 : ((w2.alloc (.cells (madeCells #[.int .i64 0] 1001) 3)).setCell ⟨O, 1, none⟩ (.slice (some ⟨w2.heap.size, 0, none⟩) 1001 1001)).cell? ⟨w.heap.size + 1 + 1, 5, none⟩ = some (.int .i64 0) := XD2.out.cell 5 _ rfl
      have f5 := XD2.out.frozen 5
      go_wp2_with fail
      have HN := Lib.hid (HO.out.made1 (w' := (w2.alloc (.cells (madeCells #[.int .i64 0] 1001) 3))) (some ⟨w2.heap.size, 0, none⟩) 1001 (List.replicate 1001 0) (by simp) (by omega) (World.grownBy_alloc w2 _ none) (by
        have h := World.ownsRow_lit (base := W0.heap.size) (e := 3) (size := 1) w2 (madeCells #[.int .i64 0] 1001) 1001 (by have := HOL.out; have := XO.out.lt; omega) (by unfold maxLen; omega) (by rw [size_madeCells])
        rw [toList_madeCells_one] at h
        rw [List.map_replicate]
        exact h) rfl)
      have HO2 := Lib.hid (HN.out.bk (XO.out.alloc _) (show (52 : TypeId) ≠ 28 by decide) (show (3 : TypeId) ≠ 28 by decide) (grownBy_set (w2.alloc (.cells (madeCells #[.int .i64 0] 1001) 3)) O 1 (.slice (some ⟨w2.heap.size, 0, none⟩) 1001 1001)))
      have XO2 := Lib.hid (show Bk ((w2.alloc (.cells (madeCells #[.int .i64 0] 1001) 3)).setCell ⟨O, 1, none⟩ (.slice (some ⟨w2.heap.size, 0, none⟩) 1001 1001)) O #[.slice ({ d1 with cA := some ⟨w2.heap.size, 0, none⟩, cs := List.replicate 1001 0, cc := 1001 } : Wd).iA ({ d1 with cA := some ⟨w2.heap.size, 0, none⟩, cs := List.replicate 1001 0, cc := 1001 } : Wd).vs.length ({ d1 with cA := some ⟨w2.heap.size, 0, none⟩, cs := List.replicate 1001 0, cc := 1001 } : Wd).ic, .slice ({ d1 with cA := some ⟨w2.heap.size, 0, none⟩, cs := List.replicate 1001 0, cc := 1001 } : Wd).cA ({ d1 with cA := some ⟨w2.heap.size, 0, none⟩, cs := List.replicate 1001 0, cc := 1001 } : Wd).cs.length ({ d1 with cA := some ⟨w2.heap.size, 0, none⟩, cs := List.replicate 1001 0, cc := 1001 } : Wd).cc, .slice ({ d1 with cA := some ⟨w2.heap.size, 0, none⟩, cs := List.replicate 1001 0, cc := 1001 } : Wd).hA ({ d1 with cA := some ⟨w2.heap.size, 0, none⟩, cs := List.replicate 1001 0, cc := 1001 } : Wd).hs.length ({ d1 with cA := some ⟨w2.heap.size, 0, none⟩, cs := List.replicate 1001 0, cc := 1001 } : Wd).hc, .slice ({ d1 with cA := some ⟨w2.heap.size, 0, none⟩, cs := List.replicate 1001 0, cc := 1001 } : Wd).fA ({ d1 with cA := some ⟨w2.heap.size, 0, none⟩, cs := List.replicate 1001 0, cc := 1001 } : Wd).fs.length ({ d1 with cA := some ⟨w2.heap.size, 0, none⟩, cs := List.replicate 1001 0, cc := 1001 } : Wd).fc, .slice ({ d1 with cA := some ⟨w2.heap.size, 0, none⟩, cs := List.replicate 1001 0, cc := 1001 } : Wd).lA ({ d1 with cA := some ⟨w2.heap.size, 0, none⟩, cs := List.replicate 1001 0, cc := 1001 } : Wd).ls.length ({ d1 with cA := some ⟨w2.heap.size, 0, none⟩, cs := List.replicate 1001 0, cc := 1001 } : Wd).lc, .int .i64 ({ d1 with cA := some ⟨w2.heap.size, 0, none⟩, cs := List.replicate 1001 0, cc := 1001 } : Wd).ep] 28 from by
        have := XO5.out
        simpa using this)
      have BY2 := Lib.hid ((BY.out.alloc BY.out.size (.cells (madeCells #[.int .i64 0] 1001) 3)).setCell (p := ⟨O, 1, none⟩) (by show w.heap.size ≤ O; have := HSZ.out; have := HOL.out; omega) (.slice (some ⟨w2.heap.size, 0, none⟩) 1001 1001))
      obtain ⟨wz, hwz, XZ, OZ, BZ⟩ := bent_end HO2.out XO2.out XD2.out BY2.out (by have := HSZ.out; omega)
      simp only [List.length_replicate] at hwz
      rw [← hwz]
      have e0 := XZ.cell 0 _ rfl
      have e1 := XZ.cell 1 _ rfl
      have e2 := XZ.cell 2 _ rfl
      have e3 := XZ.cell 3 _ rfl
      have e4 := XZ.cell 4 _ rfl
      have e5 := XZ.cell 5 _ rfl
      exact bodyPost_ret (v := .agg #[.slice ({ d1 with cA := some ⟨w2.heap.size, 0, none⟩, cs := List.replicate 1001 0, cc := 1001 } : Wd).iA ({ d1 with cA := some ⟨w2.heap.size, 0, none⟩, cs := List.replicate 1001 0, cc := 1001 } : Wd).vs.length ({ d1 with cA := some ⟨w2.heap.size, 0, none⟩, cs := List.replicate 1001 0, cc := 1001 } : Wd).ic, .slice ({ d1 with cA := some ⟨w2.heap.size, 0, none⟩, cs := List.replicate 1001 0, cc := 1001 } : Wd).cA ({ d1 with cA := some ⟨w2.heap.size, 0, none⟩, cs := List.replicate 1001 0, cc := 1001 } : Wd).cs.length ({ d1 with cA := some ⟨w2.heap.size, 0, none⟩, cs := List.replicate 1001 0, cc := 1001 } : Wd).cc, .slice ({ d1 with cA := some ⟨w2.heap.size, 0, none⟩, cs := List.replicate 1001 0, cc := 1001 } : Wd).hA ({ d1 with cA := some ⟨w2.heap.size, 0, none⟩, cs := List.replicate 1001 0, cc := 1001 } : Wd).hs.length ({ d1 with cA := some ⟨w2.heap.size, 0, none⟩, cs := List.replicate 1001 0, cc := 1001 } : Wd).hc, .slice ({ d1 with cA := some ⟨w2.heap.size, 0, none⟩, cs := List.replicate 1001 0, cc := 1001 } : Wd).fA ({ d1 with cA := some ⟨w2.heap.size, 0, none⟩, cs := List.replicate 1001 0, cc := 1001 } : Wd).fs.length ({ d1 with cA := some ⟨w2.heap.size, 0, none⟩, cs := List.replicate 1001 0, cc := 1001 } : Wd).fc, .slice ({ d1 with cA := some ⟨w2.heap.size, 0, none⟩, cs := List.replicate 1001 0, cc := 1001 } : Wd).lA ({ d1 with cA := some ⟨w2.heap.size, 0, none⟩, cs := List.replicate 1001 0, cc := 1001 } : Wd).ls.length ({ d1 with cA := some ⟨w2.heap.size, 0, none⟩, cs := List.replicate 1001 0, cc := 1001 } : Wd).lc, .int .i64 ({ d1 with cA := some ⟨w2.heap.size, 0, none⟩, cs := List.replicate 1001 0, cc := 1001 } : Wd).ep]) (by simp [results, Tryd.results6, go_sem, e0, e1, e2, e3, e4, e5]) rfl ⟨_, rfl, Lib.hid (OZ.more (by omega)), Lib.hid BZ⟩
end Go.Proofs.YtbpehdpcnnaidaaDoor.Ac
