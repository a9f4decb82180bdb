/-
  The reference's Class.
-/
import Derived.Test.YtjodmjadpooipaaGreatDoorTa
namespace Go.Proofs.YtjodmjadpooipaaGreatDoor.Sh
open Go Go.RowKit

set_option maxHeartbeats 1000000 in
theorem ref_class (w : World) (p : Nat) (t : Tre) (F : Nat → Prop) (s : Int) (h : RefH w p t F) (hs : I64 s) :
    Calls Tryz.prog 19 #[.pointer (some ⟨p, 0, none⟩), .int .i64 s] w fun e w' => e = .returned (.int .i64 (t.clsI s)) ∧ w = w' := by
  have H := Lib.hid h
  obtain ⟨gL, cL, vR, hd, h⟩ := h
  have c0 := h.c0
  have hcap := h.cap
  have HS := Lib.hid hs
  cases hb : t.there s
  · have E := Lib.hid (show t.clsI s = -1 by unfold Tre.clsI; rw [hb]; rfl)
    have HB := Lib.hid hb
    clear h hb hs
    go_enter Tryz.func19, Tryz.ntmps19
    go_wp2_with fail
    refine (ref_there _ p t F s H.out HS.out false HB.out).mono ?_
    rintro e w' ⟨rfl, rfl⟩
    go_wp2_with fail
    go_ret
    exact ⟨by rw [E.out]; rfl, rfl⟩
  · have HB := Lib.hid hb
    obtain ⟨s, rfl⟩ := Int.eq_ofNat_of_zero_le (there_iff.1 hb).1
    have sl : s < t.L.length := (there_iff.1 hb).2
    have E := Lib.hid (clsI_nat sl)
    have c2 := h.r0 sl
    clear h hb hs
    go_enter Tryz.func19, Tryz.ntmps19
    go_wp2_with fail
    refine (ref_there _ p t F _ H.out HS.out true HB.out).mono ?_
    rintro e w' ⟨rfl, rfl⟩
    go_wp2_with fail
    go_ret
    exact ⟨by rw [E.out]; rfl, rfl⟩
end Go.Proofs.YtjodmjadpooipaaGreatDoor.Sh
