/-
  The walk of grow of package shape.
-/
import Derived.Test.YtjodmjadpooipaaGreatDoorKe
namespace Go.Proofs.YtjodmjadpooipaaGreatDoor.Sh
open Go Go.RowKit

/-- How a call ends that turns the tree. -/
def CodeTo (w : World) (p : Nat) (F : Nat → Prop) (t' : Tre) (v : Value) (e : Ending) (w' : World) : Prop := ∃ F', e = .returned v ∧ CodeH w' p t' F' ∧ Chg F w w' ∧ Sub F F' w
theorem CodeTo.low {w w' : World} {p : Nat} {t : Tre} {F : Nat → Prop} {v : Value} (h : CodeH w' p t F) (hb : Below w.heap.size w w') : CodeTo w p F t v (.returned v) w' := ⟨F, rfl, h, Chg.of_below hb, fun _ h => .inl h⟩
theorem CodeTo.of {w w1 w' : World} {p : Nat} {t : Tre} {F : Nat → Prop} {v : Value} {e : Ending} (hb : Below w.heap.size w w1) (h : CodeTo w1 p F t v e w') : CodeTo w p F t v e w' := by
  obtain ⟨F', he, h1, h2, h3⟩ := h
  exact ⟨F', he, h1, (Chg.of_below hb).trans h2 fun x hx => .inl hx, fun b hF => (h3 b hF).imp_right fun h => Nat.le_trans hb.size h⟩
set_option maxRecDepth 100000 in
theorem grow_full (w : World) (p : Nat) (t : Tre) (F : Nat → Prop) (h : CodeH w p t F) (h200 : 200 ≤ t.L.length) (few : t.L.length ≤ 200) (k : Int) (x y : Value) :
    Calls Tryz.prog 42 #[.pointer (some ⟨p, 0, none⟩), .int .i64 k, x, y] w fun e w' => e = .returned (mkV (0, 2)) ∧ w = w' := by
  obtain ⟨_, vL, vR, mb, D, hd, h⟩ := h
  have c0 := h.c0
  obtain ⟨A, c, rfl⟩ := h.vlen
  clear h
  go_enter Tryz.func42, Tryz.ntmps42
  go_wp2
  go_ret2
  exact ⟨rfl, rfl⟩
set_option maxRecDepth 100000 in
set_option maxHeartbeats 8000000 in
theorem grow_ok (w : World) (p : Nat) (t : Tre) (F : Nat → Prop) (h : CodeH w p t F) (h200 : ¬ 200 ≤ t.L.length) (k : Nat) (A C : Option Addr) (xs ys ns : List ByteArray) (c d : Nat) (hs : SlS w (· < w.heap.size) A xs) (hs' : SlS w (· < w.heap.size) C ys)
    (hx : xs.length ≤ 2097152) (hy : ys.length ≤ 2097152) (hA : A = none → c = 0) (hC : C = none → d = 0) (hns : xs ++ ys = ns) :
    Calls Tryz.prog 42 #[.pointer (some ⟨p, 0, none⟩), .int .i64 k, .slice A xs.length c, .slice C ys.length d] w (CodeTo w p F (t.push k ns) (mkV ((t.L.length : Int), 0))) := by
  obtain ⟨hsrt, vL, vR, mb, D, hd, h⟩ := h
  have SR := Lib.hid hsrt
  have HA := Lib.hid h
  have c0 := h.c0
  obtain ⟨B, cL, hv⟩ := h.vlen
  have HV := Lib.hid hv
  rw [hv] at c0
  obtain ⟨xl, ho, hx0⟩ := h.rows
  have HO := Lib.hid (show w.ownsRow 0 65 3 vL t.L.length xl from ho)
  have HX := Lib.hid hx0
  obtain ⟨i1, hi1, hy0, hy1, hy2⟩ := info_parts infoL
  have pl : p < w.heap.size := h.hp.lt
  have NA := Lib.hid hA
  have NC := Lib.hid hC
  have NS := Lib.hid hns
  have S1 := Lib.hid (hs.low' (fun _ h => h) (((Below.refl w.heap.size w).alloc (Nat.le_refl _) (.cells #[.slice A xs.length c, .slice C ys.length d] 41)).drew))
  have S2 := Lib.hid (hs'.low' (fun _ h => h) (((Below.refl w.heap.size w).alloc (Nat.le_refl _) (.cells #[.slice A xs.length c, .slice C ys.length d] 41)).drew))
  have BK := Lib.hid (show Bk ((w.alloc (.cells #[.slice A xs.length c, .slice C ys.length d] 41)).drew) w.heap.size #[.slice A xs.length c, .slice C ys.length d] 41 from Bk.new w #[.slice A xs.length c, .slice C ys.length d] 41)
  have pf : w.frozen? ⟨p, 0, none⟩ = false := h.hp.frozen 0
  clear h ho hx0 hA hC hns hs hs' hsrt hv
  go_enter Tryz.func42, Tryz.ntmps42
  go_wp2_with fail
  go_region_law (first
    | (go_simp
       go_at_call 55
       (refine (concat_any (· < w.heap.size) (· < w.heap.size) w.heap.size A C xs ys ns c d ((w.alloc (.cells #[.slice A xs.length c, .slice C ys.length d] 41)).drew) BK.out S1.out S2.out (fun b (h : b < w.heap.size) => by simp; omega) (fun b (h : b < w.heap.size) => by simp; omega) hx hy NA.out NC.out NS.out).mono ?_)
       rintro e w2 ⟨l, rfl, hl, hS, hb⟩
       have LN := Lib.hid hl
       have B2 := Lib.hid (show Below w.heap.size w w2 from ((Below.refl w.heap.size w).alloc (Nat.le_refl _) (.cells #[.slice A xs.length c, .slice C ys.length d] 41)).drew.trans (hb.mono (by simp)))
       have SN := Lib.hid (show SlS w2 (fun b => (w.heap.size ≤ b ∧ b < w2.heap.size) ∧ isStr w2 b) l.at ns from hS.imp fun b hb => ⟨⟨by have := hb.1.1; simp at this; omega, hb.1.2⟩, hb.2⟩)
       have c2 : w2.cell? ⟨p, 0, none⟩ = some (.slice B t.L.length cL) := (B2.out.cell (p := ⟨p, 0, none⟩) pl).trans c0
       have pl2 : p < w2.heap.size := Nat.lt_of_lt_of_le pl B2.out.size
       have HO2 := Lib.hid (own_keep HO.out (w' := w2) fun b hb => B2.out.block b (HO.out.lt b hb).2)
       clear hl hS hb)
    | (refine step_append_lies _ (by rfl) _ _ _ (by rfl) 0 65 i1 _ 3 40 Tryz.underlying67 hi1 hy0 hy1 hy2 rfl (by omega) vL t.L.length xl (by rw [HV.out]; rfl) (World.ownsRow.alloc HO2.out _) ⟨w2.heap.size, 0, none⟩ 1 1 [.int .i64 k, .slice l.at ns.length l.nc, .int .i64 (-1)] (by rfl) (by rfl) (World.news_of_block (cs := #[.int .i64 k, .slice l.at ns.length l.nc, .int .i64 (-1)]) (t := 65) (fr := (0, 0)) (heap_alloc_new w2 _)) (by simp [Value.oneCell']) (by omega) (by unfold maxLen; omega) (by omega) (by omega) (w2.heap.size + 1) (by simp) ?_
       intro g cap w6 hown hgrow hg hglt
       have PH := pushC_hdr HA.out HO.out B2.out hgrow
       have c6 := PH.cell 0 vL rfl
       have f6 := PH.frozen 0
       have FIN := Lib.hid (pushC_done HA.out HO.out B2.out hgrow SR.out HX.out LN.out SN.out hown hg hglt)
       clear HO2 hown hgrow hg hglt PH))
  all_goals
    have G := Lib.hid (show CodeTo w p F (t.push k ns) (mkV ((t.L.length : Int), 0)) (.returned (mkV ((t.L.length : Int), 0))) (w6.setCell ⟨p, 0, none⟩ (.slice (some ⟨g, 0, none⟩) (t.L.length + 1) cap)) from
      ⟨_, rfl, FIN.out.1, FIN.out.2, fun b hb => hb.imp_right And.left⟩)
    have lw : IntKind.i64.wrap ((t.L.length : Int) + 1 - 1) = t.L.length := by rw [IntWalk.i64_in _ ⟨by omega, by omega⟩]; omega
    clear FIN
    go_wp2_with fail
    go_ret2
    exact G.out
end Go.Proofs.YtjodmjadpooipaaGreatDoor.Sh
