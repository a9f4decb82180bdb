/-
  Contract of sanity: it returns true.
-/
import Derived.Test.YtibjhcgfjhbgoaaGreatDoorVn
import Derived.Deep.RegionWith
namespace Go.Proofs.YtibjhcgfjhbgoaaGreatDoor.Va
open Go Go.RowKit Mp

theorem small (s : ByteArray) (h : s.size ≤ 100) : s.size ≤ maxLen := by unfold maxLen; omega
theorem gives_lit (op ka na : Int) (sa : ByteArray) (kb nb : Int) (sb : ByteArray) (kc nc : Int) (sc fault : ByteArray) (w : World) (hG : Gl w) (hma : sa.size ≤ maxLen) (hmb : sb.size ≤ maxLen)
    (h : gives3 op (ka, na, sa) (kb, nb, sb) (kc, nc, sc) fault = true) :
    Calls Tryz.prog 21 #[.int .i64 op, vv ka na sa, vv kb nb sb, vv kc nc sc, .string fault] w fun e w' => e = .returned (.bool true) ∧ Below w.heap.size w w' :=
  (gives_any op (ka, na, sa) (kb, nb, sb) (kc, nc, sc) fault hma hmb w hG).mono fun e w' ⟨he, hb⟩ => ⟨by rw [he, h], hb⟩
theorem read_lit (w : World) (hG : Gl w) : Calls Tryz.prog 13 #[.string ⟨#[64, 55]⟩] w fun e w' => e = .returned (.tuple #[vv 5 7 es, .bool true]) ∧ Below w.heap.size w w' :=
  (read_any ⟨#[64, 55]⟩ (by decide) w hG).mono fun e w' ⟨he, hb⟩ => ⟨by rw [he, show read3 ⟨#[64, 55]⟩ = ((5, 7, es), true) by kernel_rfl]; rfl, hb⟩
theorem text_lit (w : World) (hG : Gl w) : Calls Tryz.prog 9 #[vv 4 0 ⟨#[105, 116, 39, 115]⟩] w fun e w' => e = .returned (.string ⟨#[39, 105, 116, 39, 39, 115, 39]⟩) ∧ Below w.heap.size w w' :=
  (text_any (4, 0, ⟨#[105, 116, 39, 115]⟩) (small _ (by decide)) w hG).mono fun e w' ⟨he, hb⟩ => ⟨by rw [he, show text3 (4, 0, ⟨#[105, 116, 39, 115]⟩) = [39, 105, 116, 39, 39, 115, 39] by kernel_rfl]; rfl, hb⟩
structure SS (W : World) (b1 b3 b4 : Nat) (w : World) : Prop where
  gl : Gl w
  be : Below W.heap.size W w
  o1 : Own w b1 #[.int .i64 5, .int .i64 7, .string ⟨#[]⟩] 23
  o3 : Own w b3 #[.int .i64 2, .int .i64 1, .string ⟨#[]⟩] 23
  o4 : Own w b4 #[.int .i64 2, .int .i64 0, .string ⟨#[]⟩] 23
theorem SS.step {W : World} {b1 b3 b4 : Nat} {w w' : World} (h : SS W b1 b3 b4 w) (hb : Below w.heap.size w w') : SS W b1 b3 b4 w' :=
  ⟨h.gl.below hb, h.be.trans (hb.mono h.be.size), h.o1.below hb h.o1.lt, h.o3.below hb h.o3.lt, h.o4.below hb h.o4.lt⟩
theorem SS.start {W w1 : World} (hG : Gl W) (hb : Below W.heap.size W w1) : SS W w1.heap.size (w1.heap.size + 1) (w1.heap.size + 1 + 1)
    (((w1.alloc (.cells #[.int .i64 5, .int .i64 7, .string ⟨#[]⟩] 23)).alloc (.cells #[.int .i64 2, .int .i64 1, .string ⟨#[]⟩] 23)).alloc (.cells #[.int .i64 2, .int .i64 0, .string ⟨#[]⟩] 23)) := by
  refine ⟨hG.below (hb.trans ((below3 w1 _ _ _).mono hb.size)), hb.trans ((below3 w1 _ _ _).mono hb.size), ?_, ?_, ?_⟩
  · exact (three_owns (Below.refl _ _)).1
  · exact (three_owns (Below.refl _ _)).2.1
  · exact (three_owns (Below.refl _ _)).2.2.1

set_option maxRecDepth 5000 in
set_option maxHeartbeats 4000000 in
theorem sanity_any (w : World) (hG : Gl w) : Calls Tryz.prog 7 #[] w fun e w' => e = .returned (.bool true) ∧ Below w.heap.size w w' := by
  have HG := Lib.hid hG
  clear hG
  go_enter Tryz.func7, Tryz.ntmps7
  go_wp2_with fail
  refine (read_lit _ HG.out).mono ?_
  rintro e w1 ⟨rfl, hb1⟩
  have hs := Lib.hid (SS.start HG.out hb1)
  clear hb1 HG
  unfold vv es
  go_wp2_with fail
  refine (lawText_any _ _).mono ?_
  rintro e w2 ⟨rfl, hb⟩
  replace hs := Lib.hid (hs.out.step hb)
  clear hb
  go_wp2_with fail
  refine (text_lit _ hs.out.gl).mono ?_
  rintro e w3 ⟨rfl, hb⟩
  replace hs := Lib.hid (hs.out.step hb)
  clear hb
  obtain ⟨k0, k1, k2, _, _⟩ := hs.out.o1.facts
  go_wp2_with (first | (go_at_call 22; refine (lawNumber_any _ _).mono ?_; rintro e w' ⟨rfl, hb⟩; replace hs := Lib.hid (hs.out.step hb); clear hb) | (go_at_call 20; refine (lawText_any _ _).mono ?_; rintro e w' ⟨rfl, hb⟩; replace hs := Lib.hid (hs.out.step hb); clear hb) | (go_at_call 21; refine (gives_lit _ _ _ _ _ _ _ _ _ _ _ _ hs.out.gl ?_ ?_ ?_).mono ?_; (· exact small _ (by decide)); (· exact small _ (by decide)); (· kernel_rfl); rintro e w' ⟨rfl, hb⟩; replace hs := Lib.hid (hs.out.step hb); clear hb))
  obtain ⟨k0, k1, k2, _, _⟩ := hs.out.o3.facts
  replace hs := Lib.hid (hs.out.step (Below.refl _ _).drew)
  go_region_with (first | (go_at_call 22; refine (lawNumber_any _ _).mono ?_; rintro e w' ⟨rfl, hb⟩; replace hs := Lib.hid (hs.out.step hb); clear hb; obtain ⟨k0, k1, k2, _, _⟩ := hs.out.o3.facts) | (go_at_call 20; refine (lawText_any _ _).mono ?_; rintro e w' ⟨rfl, hb⟩; replace hs := Lib.hid (hs.out.step hb); clear hb; obtain ⟨k0, k1, k2, _, _⟩ := hs.out.o3.facts) | (go_at_call 21; refine (gives_lit _ _ _ _ _ _ _ _ _ _ _ _ hs.out.gl ?_ ?_ ?_).mono ?_; (· exact small _ (by decide)); (· exact small _ (by decide)); (· kernel_rfl); rintro e w' ⟨rfl, hb⟩; replace hs := Lib.hid (hs.out.step hb); clear hb; obtain ⟨k0, k1, k2, _, _⟩ := hs.out.o3.facts))
  all_goals
    clear k0 k1 k2
    obtain ⟨k0, k1, k2, _, _⟩ := hs.out.o4.facts
    go_wp2_with (first | (go_at_call 22; refine (lawNumber_any _ _).mono ?_; rintro e w' ⟨rfl, hb⟩; replace hs := Lib.hid (hs.out.step hb); clear hb; obtain ⟨k0, k1, k2, _, _⟩ := hs.out.o4.facts) | (go_at_call 20; refine (lawText_any _ _).mono ?_; rintro e w' ⟨rfl, hb⟩; replace hs := Lib.hid (hs.out.step hb); clear hb; obtain ⟨k0, k1, k2, _, _⟩ := hs.out.o4.facts) | (go_at_call 21; refine (gives_lit _ _ _ _ _ _ _ _ _ _ _ _ hs.out.gl ?_ ?_ ?_).mono ?_; (· exact small _ (by decide)); (· exact small _ (by decide)); (· kernel_rfl); rintro e w' ⟨rfl, hb⟩; replace hs := Lib.hid (hs.out.step hb); clear hb; obtain ⟨k0, k1, k2, _, _⟩ := hs.out.o4.facts))
    go_ret
    exact ⟨rfl, hs.out.be⟩
end Go.Proofs.YtibjhcgfjhbgoaaGreatDoor.Va
