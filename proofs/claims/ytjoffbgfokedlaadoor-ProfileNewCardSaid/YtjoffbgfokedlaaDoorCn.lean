/-
  The walk of ProfileNew.
-/
import Derived.Test.YtjoffbgfokedlaaDoorRa
import Derived.Test.YtjoffbgfokedlaaDoorPt
import Derived.Test.YtjoffbgfokedlaaDoorPz
namespace Go.Proofs.YtjoffbgfokedlaaDoor.Pf
open Go Go.RowKit

set_option maxRecDepth 100000 in
set_option maxHeartbeats 8000000 in
theorem new_walk_ok (K : Kit) (Z : NilKit) (a b c d x y : Int) (ha : I64 a) (hb : I64 b) (hc : I64 c) (hd : I64 d) (hx : I64 x) (hy : I64 y) (w : World) (hv : K.V w) (hl : okLim a b c d) :
    Calls Tryd.prog 8 #[.agg #[.int .i64 a, .int .i64 b, .int .i64 c, .int .i64 d], .agg #[.int .i64 x, .int .i64 y]] w fun e w' => e = .returned (.bool true) ∧ Below w.heap.size w w' := by
  have HV := Lib.hid hv
  have AT := Lib.hid (show okP ((x, y) : Plc) from ⟨hx, hy⟩)
  have HL := Lib.hid hl
  have IS := Lib.hid (And.intro ha (And.intro hb (And.intro hc hd)))
  have B0 := Lib.hid (((Below.refl _ w).alloc (Nat.le_refl _) (.cells #[.int .i64 a, .int .i64 b, .int .i64 c, .int .i64 d] 22)).alloc (by simp) (.cells #[.int .i64 x, .int .i64 y] 62))
  have X1 := Lib.hid ((Bk.new w #[.int .i64 a, .int .i64 b, .int .i64 c, .int .i64 d] 22).alloc (.cells #[.int .i64 x, .int .i64 y] 62))
  have X2 := Lib.hid (Bk.new (w.alloc (.cells #[.int .i64 a, .int .i64 b, .int .i64 c, .int .i64 d] 22)) #[.int .i64 x, .int .i64 y] 62)
  rw [World.size_alloc] at X2
  clear hv ha hb hc hd hx hy hl
  go_enter Tryd.func8, Tryd.ntmps8
  go_wp2_with fail
  refine (sanity_any K _ (K.vkeep HV.out B0.out)).mono ?_
  rintro e v1 ⟨rfl, h⟩
  have B1 := Lib.hid (B0.out.trans (h.mono B0.out.size))
  have Y1 := Lib.hid (Bk.low h X1.out)
  have Y2 := Lib.hid (Bk.low h X2.out)
  have c0 := Y1.out.cell 0 (.int .i64 a) rfl
  have c1 := Y1.out.cell 1 (.int .i64 b) rfl
  have c2 := Y1.out.cell 2 (.int .i64 c) rfl
  have c3 := Y1.out.cell 3 (.int .i64 d) rfl
  clear h X1 X2 B0
  go_wp2_with fail
  refine (new_at (K := K) (w0 := w) HV.out B1.out HL.out).mono ?_
  rintro e v2 ⟨p, F, rfl, ht, h, _⟩
  have T2 := Lib.hid ht
  have B2 := Lib.hid (B1.out.trans (h.mono B1.out.size))
  have Z1 := Lib.hid (Bk.low h Y1.out)
  have Z2 := Lib.hid (Bk.low h Y2.out)
  replace c0 := Z1.out.cell 0 (.int .i64 a) rfl
  replace c1 := Z1.out.cell 1 (.int .i64 b) rfl
  replace c2 := Z1.out.cell 2 (.int .i64 c) rfl
  replace c3 := Z1.out.cell 3 (.int .i64 d) rfl
  clear h Y1 Y2 B1 ht
  go_wp2_with fail
  refine (ref_new v2 a b c d HL.out).mono ?_
  rintro e v3 ⟨q, G, rfl, _, h, _⟩
  have T3 := Lib.hid (T2.out.below h)
  have Z3 := Lib.hid (Bk.low h Z2.out)
  clear h T2
  have d0 := Z3.out.cell 0 (.int .i64 x) rfl
  have d1 := Z3.out.cell 1 (.int .i64 y) rfl
  clear c0 c1 c2 c3 Z1 Z2 Z3
  go_wp2_with fail
  clear d0 d1
  obtain ⟨z, hz⟩ : ∃ z, v3.heap.size = z := ⟨_, rfl⟩
  obtain ⟨v4, hv4⟩ : ∃ v, ((v3.alloc (.cells #[.int .i64 x, .int .i64 y] 43)).alloc (.cells #[.int .i64 0, .int .i64 0, .int .i64 0, .int .i64 0, .map none, .slice none 0 0] 67)).alloc (.cells #[.pointer none, .pointer (some ⟨z + 1, 0, none⟩)] 26) = v := ⟨_, rfl⟩
  have B4 := Lib.hid (show Below v3.heap.size v3 v4 by rw [← hv4]; exact (((Below.refl _ v3).alloc (Nat.le_refl _) _).alloc (by simp) _).alloc (by simp; omega) _)
  have XP := Lib.hid (show Bk v4 z #[.int .i64 x, .int .i64 y] 43 by rw [← hv4, ← hz]; exact ((Bk.new v3 _ _).alloc _).alloc _)
  have XZ := Lib.hid (show Bk v4 (z + 1) #[.int .i64 0, .int .i64 0, .int .i64 0, .int .i64 0, .map none, .slice none 0 0] 67 by
    have h := Bk.new (v3.alloc (.cells #[.int .i64 x, .int .i64 y] 43)) #[.int .i64 0, .int .i64 0, .int .i64 0, .int .i64 0, .map none, .slice none 0 0] 67
    rw [World.size_alloc, hz] at h
    rw [← hv4]; exact h.alloc _)
  have XL := Lib.hid (show Bk v4 (z + 1 + 1) #[.pointer none, .pointer (some ⟨z + 1, 0, none⟩)] 26 by
    have h := Bk.new ((v3.alloc (.cells #[.int .i64 x, .int .i64 y] 43)).alloc (.cells #[.int .i64 0, .int .i64 0, .int .i64 0, .int .i64 0, .map none, .slice none 0 0] 67)) #[.pointer none, .pointer (some ⟨z + 1, 0, none⟩)] 26
    rw [World.size_alloc, World.size_alloc, hz] at h
    rw [← hv4]; exact h)
  rw [hz, hv4]
  clear hz hv4
  go_loopw [59] (fun i wr => ∃ k : Nat, k ≤ 2 ∧ i = .int .i64 k ∧ Hid (Below v4.heap.size v4 wr)) (fun i _ => 2 - (intOf i).toNat)
  case atStart => exact ⟨0, by omega, rfl, Lib.hid (Below.refl _ _)⟩
  case round =>
    obtain ⟨k, hk, rfl, hb⟩ := hrel
    have XP := Lib.hid (Bk.low hb.out XP.out)
    have XZ := Lib.hid (Bk.low hb.out XZ.out)
    have XL := Lib.hid (Bk.low hb.out XL.out)
    have c2 := XP.out.cell 0 (.int .i64 x) rfl
    have c3 := XP.out.cell 1 (.int .i64 y) rfl
    rcases (show k = 0 ∨ k = 1 ∨ k = 2 by omega) with rfl | rfl | rfl
    · have c4 := XL.out.cell 0 (.pointer none) rfl
      have NA := Lib.hid (show NilAt wr (.pointer none) from .inl rfl)
      go_wp2_with fail
      refine (Z.failed wr _ (x, y) NA.out AT.out).mono ?_
      rintro e w1 ⟨rfl, h⟩
      have NA1 := Lib.hid (NA.out.low h)
      have XP1 := Lib.hid (Bk.low h XP.out)
      have HB1 := Lib.hid (hb.out.trans (h.mono hb.out.size))
      replace c2 := XP1.out.cell 0 (.int .i64 x) rfl
      replace c3 := XP1.out.cell 1 (.int .i64 y) rfl
      clear h
      go_wp2_with fail
      refine (Z.back w1 _ (x, y) NA1.out AT.out).mono ?_
      rintro e w2 ⟨rfl, h⟩
      have NA2 := Lib.hid (NA1.out.low h)
      have XP2 := Lib.hid (Bk.low h XP1.out)
      have HB2 := Lib.hid (HB1.out.trans (h.mono HB1.out.size))
      replace c2 := XP2.out.cell 0 (.int .i64 x) rfl
      replace c3 := XP2.out.cell 1 (.int .i64 y) rfl
      clear h
      go_wp2_with fail
      refine (Z.left w2 _ (x, y) NA2.out AT.out).mono ?_
      rintro e w3 ⟨rfl, h⟩
      have NA3 := Lib.hid (NA2.out.low h)
      have XP3 := Lib.hid (Bk.low h XP2.out)
      have HB3 := Lib.hid (HB2.out.trans (h.mono HB2.out.size))
      replace c2 := XP3.out.cell 0 (.int .i64 x) rfl
      replace c3 := XP3.out.cell 1 (.int .i64 y) rfl
      clear h
      go_wp2_with fail
      refine (Z.tier w3 _ (x, y) NA3.out AT.out).mono ?_
      rintro e w4 ⟨rfl, h⟩
      have NA4 := Lib.hid (NA3.out.low h)
      have HB4 := Lib.hid (HB3.out.trans (h.mono HB3.out.size))
      clear h c2 c3
      go_wp2_with fail
      refine (Z.decs w4 _ NA4.out).mono ?_
      rintro e w5 ⟨rfl, h⟩
      have NA5 := Lib.hid (NA4.out.low h)
      have HB5 := Lib.hid (HB4.out.trans (h.mono HB4.out.size))
      clear h
      go_wp2_with fail
      refine (Z.text w5 _ NA5.out).mono ?_
      rintro e w6 ⟨rfl, h⟩
      have HB6 := Lib.hid (HB5.out.trans (h.mono HB5.out.size))
      clear h
      go_wp2_with fail
      go_roundw
      case rel => exact ⟨1, by omega, rfl, HB6⟩
      case measure => simp [intOf]
    · have c4 := XL.out.cell 1 (.pointer (some ⟨z + 1, 0, none⟩)) rfl
      have NA := Lib.hid (show NilAt wr (.pointer (some ⟨z + 1, 0, none⟩)) from .inr ⟨z + 1, rfl, XZ.out⟩)
      go_wp2_with fail
      refine (Z.failed wr _ (x, y) NA.out AT.out).mono ?_
      rintro e w1 ⟨rfl, h⟩
      have NA1 := Lib.hid (NA.out.low h)
      have XP1 := Lib.hid (Bk.low h XP.out)
      have HB1 := Lib.hid (hb.out.trans (h.mono hb.out.size))
      replace c2 := XP1.out.cell 0 (.int .i64 x) rfl
      replace c3 := XP1.out.cell 1 (.int .i64 y) rfl
      clear h
      go_wp2_with fail
      refine (Z.back w1 _ (x, y) NA1.out AT.out).mono ?_
      rintro e w2 ⟨rfl, h⟩
      have NA2 := Lib.hid (NA1.out.low h)
      have XP2 := Lib.hid (Bk.low h XP1.out)
      have HB2 := Lib.hid (HB1.out.trans (h.mono HB1.out.size))
      replace c2 := XP2.out.cell 0 (.int .i64 x) rfl
      replace c3 := XP2.out.cell 1 (.int .i64 y) rfl
      clear h
      go_wp2_with fail
      refine (Z.left w2 _ (x, y) NA2.out AT.out).mono ?_
      rintro e w3 ⟨rfl, h⟩
      have NA3 := Lib.hid (NA2.out.low h)
      have XP3 := Lib.hid (Bk.low h XP2.out)
      have HB3 := Lib.hid (HB2.out.trans (h.mono HB2.out.size))
      replace c2 := XP3.out.cell 0 (.int .i64 x) rfl
      replace c3 := XP3.out.cell 1 (.int .i64 y) rfl
      clear h
      go_wp2_with fail
      refine (Z.tier w3 _ (x, y) NA3.out AT.out).mono ?_
      rintro e w4 ⟨rfl, h⟩
      have NA4 := Lib.hid (NA3.out.low h)
      have HB4 := Lib.hid (HB3.out.trans (h.mono HB3.out.size))
      clear h c2 c3
      go_wp2_with fail
      refine (Z.decs w4 _ NA4.out).mono ?_
      rintro e w5 ⟨rfl, h⟩
      have NA5 := Lib.hid (NA4.out.low h)
      have HB5 := Lib.hid (HB4.out.trans (h.mono HB4.out.size))
      clear h
      go_wp2_with fail
      refine (Z.text w5 _ NA5.out).mono ?_
      rintro e w6 ⟨rfl, h⟩
      have HB6 := Lib.hid (HB5.out.trans (h.mono HB5.out.size))
      clear h
      go_wp2_with fail
      go_roundw
      case rel => exact ⟨2, by omega, rfl, HB6⟩
      case measure => simp [intOf]
    · have TR := Lib.hid (T3.out.below (B4.out.trans (hb.out.mono B4.out.size)))
      go_wp2_with fail
      refine (tier_at TR.out AT.out (x := 0) rfl).mono ?_
      rintro e w1 ⟨rfl, h, _⟩
      have T1 := Lib.hid h
      clear h
      go_wp2_with fail
      refine (text_at T1.out (x := ⟨#[]⟩) rfl).mono ?_
      rintro e w2 ⟨rfl, h, _⟩
      have T2 := Lib.hid h
      clear h
      go_wp2_with fail
      refine (decs_at T2.out rfl).mono ?_
      rintro e w3 ⟨vv, rfl, ho, h, _⟩
      obtain ⟨A, c, rfl, _⟩ := ho.form
      have T3 := Lib.hid h
      clear h ho
      go_wp2_with fail
      go_ret
      exact ⟨rfl, T3.out.b⟩
set_option maxRecDepth 100000 in
set_option maxHeartbeats 8000000 in
theorem new_walk_bad (K : Kit) (Z : NilKit) (a b c d x y : Int) (ha : I64 a) (hb : I64 b) (hc : I64 c) (hd : I64 d) (hx : I64 x) (hy : I64 y) (w : World) (hv : K.V w) (hl : ¬ okLim a b c d) :
    Calls Tryd.prog 8 #[.agg #[.int .i64 a, .int .i64 b, .int .i64 c, .int .i64 d], .agg #[.int .i64 x, .int .i64 y]] w fun e w' => e = .returned (.bool true) ∧ Below w.heap.size w w' := by
  have HV := Lib.hid hv
  have AT := Lib.hid (show okP ((x, y) : Plc) from ⟨hx, hy⟩)
  have HL := Lib.hid hl
  have IS := Lib.hid (And.intro ha (And.intro hb (And.intro hc hd)))
  have B0 := Lib.hid (((Below.refl _ w).alloc (Nat.le_refl _) (.cells #[.int .i64 a, .int .i64 b, .int .i64 c, .int .i64 d] 22)).alloc (by simp) (.cells #[.int .i64 x, .int .i64 y] 62))
  have X1 := Lib.hid ((Bk.new w #[.int .i64 a, .int .i64 b, .int .i64 c, .int .i64 d] 22).alloc (.cells #[.int .i64 x, .int .i64 y] 62))
  have X2 := Lib.hid (Bk.new (w.alloc (.cells #[.int .i64 a, .int .i64 b, .int .i64 c, .int .i64 d] 22)) #[.int .i64 x, .int .i64 y] 62)
  rw [World.size_alloc] at X2
  clear hv ha hb hc hd hx hy hl
  go_enter Tryd.func8, Tryd.ntmps8
  go_wp2_with fail
  refine (sanity_any K _ (K.vkeep HV.out B0.out)).mono ?_
  rintro e v1 ⟨rfl, h⟩
  have B1 := Lib.hid (B0.out.trans (h.mono B0.out.size))
  have Y1 := Lib.hid (Bk.low h X1.out)
  have Y2 := Lib.hid (Bk.low h X2.out)
  have c0 := Y1.out.cell 0 (.int .i64 a) rfl
  have c1 := Y1.out.cell 1 (.int .i64 b) rfl
  have c2 := Y1.out.cell 2 (.int .i64 c) rfl
  have c3 := Y1.out.cell 3 (.int .i64 d) rfl
  clear h X1 X2 B0
  go_wp2_with fail
  refine (K.bad v1 a b c d IS.out.1 IS.out.2.1 IS.out.2.2.1 IS.out.2.2.2 HL.out).mono ?_
  rintro e v2 ⟨rfl, h⟩
  have B2 := Lib.hid (B1.out.trans (h.mono B1.out.size))
  have Z1 := Lib.hid (Bk.low h Y1.out)
  have Z2 := Lib.hid (Bk.low h Y2.out)
  replace c0 := Z1.out.cell 0 (.int .i64 a) rfl
  replace c1 := Z1.out.cell 1 (.int .i64 b) rfl
  replace c2 := Z1.out.cell 2 (.int .i64 c) rfl
  replace c3 := Z1.out.cell 3 (.int .i64 d) rfl
  clear h Y1 Y2 B1
  go_wp2_with fail
  refine (ref_bad v2 a b c d HL.out).mono ?_
  rintro e v3 ⟨rfl, h⟩
  subst h
  have B3 := B2
  have Z3 := Z2
  have d0 := Z3.out.cell 0 (.int .i64 x) rfl
  have d1 := Z3.out.cell 1 (.int .i64 y) rfl
  clear c0 c1 c2 c3 Z1 Z2 Z3
  go_wp2_with fail
  clear d0 d1
  obtain ⟨z, hz⟩ : ∃ z, v2.heap.size = z := ⟨_, rfl⟩
  obtain ⟨v4, hv4⟩ : ∃ v, ((v2.alloc (.cells #[.int .i64 x, .int .i64 y] 43)).alloc (.cells #[.int .i64 0, .int .i64 0, .int .i64 0, .int .i64 0, .map none, .slice none 0 0] 67)).alloc (.cells #[.pointer none, .pointer (some ⟨z + 1, 0, none⟩)] 26) = v := ⟨_, rfl⟩
  have B4 := Lib.hid (show Below v2.heap.size v2 v4 by rw [← hv4]; exact (((Below.refl _ v2).alloc (Nat.le_refl _) _).alloc (by simp) _).alloc (by simp; omega) _)
  have XP := Lib.hid (show Bk v4 z #[.int .i64 x, .int .i64 y] 43 by rw [← hv4, ← hz]; exact ((Bk.new v2 _ _).alloc _).alloc _)
  have XZ := Lib.hid (show Bk v4 (z + 1) #[.int .i64 0, .int .i64 0, .int .i64 0, .int .i64 0, .map none, .slice none 0 0] 67 by
    have h := Bk.new (v2.alloc (.cells #[.int .i64 x, .int .i64 y] 43)) #[.int .i64 0, .int .i64 0, .int .i64 0, .int .i64 0, .map none, .slice none 0 0] 67
    rw [World.size_alloc, hz] at h
    rw [← hv4]; exact h.alloc _)
  have XL := Lib.hid (show Bk v4 (z + 1 + 1) #[.pointer none, .pointer (some ⟨z + 1, 0, none⟩)] 26 by
    have h := Bk.new ((v2.alloc (.cells #[.int .i64 x, .int .i64 y] 43)).alloc (.cells #[.int .i64 0, .int .i64 0, .int .i64 0, .int .i64 0, .map none, .slice none 0 0] 67)) #[.pointer none, .pointer (some ⟨z + 1, 0, none⟩)] 26
    rw [World.size_alloc, World.size_alloc, hz] at h
    rw [← hv4]; exact h)
  rw [hz, hv4]
  clear hz hv4
  go_loopw [59] (fun i wr => ∃ k : Nat, k ≤ 2 ∧ i = .int .i64 k ∧ Hid (Below v4.heap.size v4 wr)) (fun i _ => 2 - (intOf i).toNat)
  case atStart => exact ⟨0, by omega, rfl, Lib.hid (Below.refl _ _)⟩
  case round =>
    obtain ⟨k, hk, rfl, hb⟩ := hrel
    have XP := Lib.hid (Bk.low hb.out XP.out)
    have XZ := Lib.hid (Bk.low hb.out XZ.out)
    have XL := Lib.hid (Bk.low hb.out XL.out)
    have c2 := XP.out.cell 0 (.int .i64 x) rfl
    have c3 := XP.out.cell 1 (.int .i64 y) rfl
    rcases (show k = 0 ∨ k = 1 ∨ k = 2 by omega) with rfl | rfl | rfl
    · have c4 := XL.out.cell 0 (.pointer none) rfl
      have NA := Lib.hid (show NilAt wr (.pointer none) from .inl rfl)
      go_wp2_with fail
      refine (Z.failed wr _ (x, y) NA.out AT.out).mono ?_
      rintro e w1 ⟨rfl, h⟩
      have NA1 := Lib.hid (NA.out.low h)
      have XP1 := Lib.hid (Bk.low h XP.out)
      have HB1 := Lib.hid (hb.out.trans (h.mono hb.out.size))
      replace c2 := XP1.out.cell 0 (.int .i64 x) rfl
      replace c3 := XP1.out.cell 1 (.int .i64 y) rfl
      clear h
      go_wp2_with fail
      refine (Z.back w1 _ (x, y) NA1.out AT.out).mono ?_
      rintro e w2 ⟨rfl, h⟩
      have NA2 := Lib.hid (NA1.out.low h)
      have XP2 := Lib.hid (Bk.low h XP1.out)
      have HB2 := Lib.hid (HB1.out.trans (h.mono HB1.out.size))
      replace c2 := XP2.out.cell 0 (.int .i64 x) rfl
      replace c3 := XP2.out.cell 1 (.int .i64 y) rfl
      clear h
      go_wp2_with fail
      refine (Z.left w2 _ (x, y) NA2.out AT.out).mono ?_
      rintro e w3 ⟨rfl, h⟩
      have NA3 := Lib.hid (NA2.out.low h)
      have XP3 := Lib.hid (Bk.low h XP2.out)
      have HB3 := Lib.hid (HB2.out.trans (h.mono HB2.out.size))
      replace c2 := XP3.out.cell 0 (.int .i64 x) rfl
      replace c3 := XP3.out.cell 1 (.int .i64 y) rfl
      clear h
      go_wp2_with fail
      refine (Z.tier w3 _ (x, y) NA3.out AT.out).mono ?_
      rintro e w4 ⟨rfl, h⟩
      have NA4 := Lib.hid (NA3.out.low h)
      have HB4 := Lib.hid (HB3.out.trans (h.mono HB3.out.size))
      clear h c2 c3
      go_wp2_with fail
      refine (Z.decs w4 _ NA4.out).mono ?_
      rintro e w5 ⟨rfl, h⟩
      have NA5 := Lib.hid (NA4.out.low h)
      have HB5 := Lib.hid (HB4.out.trans (h.mono HB4.out.size))
      clear h
      go_wp2_with fail
      refine (Z.text w5 _ NA5.out).mono ?_
      rintro e w6 ⟨rfl, h⟩
      have HB6 := Lib.hid (HB5.out.trans (h.mono HB5.out.size))
      clear h
      go_wp2_with fail
      go_roundw
      case rel => exact ⟨1, by omega, rfl, HB6⟩
      case measure => simp [intOf]
    · have c4 := XL.out.cell 1 (.pointer (some ⟨z + 1, 0, none⟩)) rfl
      have NA := Lib.hid (show NilAt wr (.pointer (some ⟨z + 1, 0, none⟩)) from .inr ⟨z + 1, rfl, XZ.out⟩)
      go_wp2_with fail
      refine (Z.failed wr _ (x, y) NA.out AT.out).mono ?_
      rintro e w1 ⟨rfl, h⟩
      have NA1 := Lib.hid (NA.out.low h)
      have XP1 := Lib.hid (Bk.low h XP.out)
      have HB1 := Lib.hid (hb.out.trans (h.mono hb.out.size))
      replace c2 := XP1.out.cell 0 (.int .i64 x) rfl
      replace c3 := XP1.out.cell 1 (.int .i64 y) rfl
      clear h
      go_wp2_with fail
      refine (Z.back w1 _ (x, y) NA1.out AT.out).mono ?_
      rintro e w2 ⟨rfl, h⟩
      have NA2 := Lib.hid (NA1.out.low h)
      have XP2 := Lib.hid (Bk.low h XP1.out)
      have HB2 := Lib.hid (HB1.out.trans (h.mono HB1.out.size))
      replace c2 := XP2.out.cell 0 (.int .i64 x) rfl
      replace c3 := XP2.out.cell 1 (.int .i64 y) rfl
      clear h
      go_wp2_with fail
      refine (Z.left w2 _ (x, y) NA2.out AT.out).mono ?_
      rintro e w3 ⟨rfl, h⟩
      have NA3 := Lib.hid (NA2.out.low h)
      have XP3 := Lib.hid (Bk.low h XP2.out)
      have HB3 := Lib.hid (HB2.out.trans (h.mono HB2.out.size))
      replace c2 := XP3.out.cell 0 (.int .i64 x) rfl
      replace c3 := XP3.out.cell 1 (.int .i64 y) rfl
      clear h
      go_wp2_with fail
      refine (Z.tier w3 _ (x, y) NA3.out AT.out).mono ?_
      rintro e w4 ⟨rfl, h⟩
      have NA4 := Lib.hid (NA3.out.low h)
      have HB4 := Lib.hid (HB3.out.trans (h.mono HB3.out.size))
      clear h c2 c3
      go_wp2_with fail
      refine (Z.decs w4 _ NA4.out).mono ?_
      rintro e w5 ⟨rfl, h⟩
      have NA5 := Lib.hid (NA4.out.low h)
      have HB5 := Lib.hid (HB4.out.trans (h.mono HB4.out.size))
      clear h
      go_wp2_with fail
      refine (Z.text w5 _ NA5.out).mono ?_
      rintro e w6 ⟨rfl, h⟩
      have HB6 := Lib.hid (HB5.out.trans (h.mono HB5.out.size))
      clear h
      go_wp2_with fail
      go_roundw
      case rel => exact ⟨2, by omega, rfl, HB6⟩
      case measure => simp [intOf]
    · have HB := Lib.hid (B3.out.trans ((B4.out.trans (hb.out.mono B4.out.size)).mono B3.out.size))
      go_wp2_with fail
      go_ret
      exact ⟨rfl, HB.out⟩
theorem new_walk (K : Kit) (Z : NilKit) (a b c d x y : Int) (ha : I64 a) (hb : I64 b) (hc : I64 c) (hd : I64 d) (hx : I64 x) (hy : I64 y) (w : World) (hv : K.V w) :
    Calls Tryd.prog 8 #[.agg #[.int .i64 a, .int .i64 b, .int .i64 c, .int .i64 d], .agg #[.int .i64 x, .int .i64 y]] w fun e w' => e = .returned (.bool true) ∧ Below w.heap.size w w' := by
  by_cases hl : okLim a b c d
  · exact new_walk_ok K Z a b c d x y ha hb hc hd hx hy w hv hl
  · exact new_walk_bad K Z a b c d x y ha hb hc hd hx hy w hv hl
end Go.Proofs.YtjoffbgfokedlaaDoor.Pf
