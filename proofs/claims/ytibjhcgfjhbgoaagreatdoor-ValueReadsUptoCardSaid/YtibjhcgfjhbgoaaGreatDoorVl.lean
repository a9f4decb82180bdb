/-
  Contract of numbered.
-/
import Derived.Test.YtibjhcgfjhbgoaaGreatDoorVk
namespace Go.Proofs.YtibjhcgfjhbgoaaGreatDoor.Va
open Go Go.RowKit Mp

def num3 (k : Int) (l : List UInt8) : V3 := match Lib.atoiAll l with | .ok n => (k, n, es) | _ => z3
set_option maxRecDepth 3000 in
theorem numbered_ok (k n : Int) (s : ByteArray) (hs : s.size ≤ 140737488351232) (h : Lib.atoiAll s.data.toList = .ok n) (w : World) :
    Calls Tryz.prog 48 #[.int .i64 k, .string s] w fun e w' => e = .returned (vv k n es) ∧ Below w.heap.size w w' := by
  have C := Lib.hid (fun w => Tryz.strconv_Atoi_ok s (by omega) n h w)
  clear h
  go_enter Tryz.func48, Tryz.ntmps48
  go_wp2_with fail
  refine (C.out _).mono ?_
  rintro e w1 ⟨rfl, hw⟩
  have hb1 : Below (w.alloc (.cells #[.int .i64 0, .int .i64 0, .string ⟨#[]⟩] 23)).heap.size (w.alloc (.cells #[.int .i64 0, .int .i64 0, .string ⟨#[]⟩] 23)) w1 := by
    rcases hw with rfl | ⟨t, rfl⟩
    · exact Below.refl _ _
    · exact Lib.bytesWorld_below _ _ _
  obtain ⟨k0, k1, k2, kf, kz⟩ := ((Own.new _ _ _).below hb1 (by simp only [World.size_alloc]; omega)).facts
  have g1 := Lib.hid (((Below.refl w.heap.size w).alloc (Nat.le_refl _) _).trans (hb1.mono (by simp only [World.size_alloc]; omega)))
  clear hb1 hw
  go_wp2_with fail
  exact bodyPost_ret (v := vv k n es) (by simp [results, Tryz.results48, go_sem, vv, es, k0, k1, k2]) rfl ⟨rfl, ((g1.out.setCell (by simp) _).setCell (by simp) _).setCell (by simp) _⟩
def Fails (x : Int) (w : World) (e : Ending) (w' : World) : Prop := ∃ N, e = .returned (.tuple #[.int .i64 x, .iface 123 (.pointer (some ⟨N, 0, none⟩))]) ∧ Below w.heap.size w w'
set_option maxRecDepth 3000 in
theorem numbered_fail (k x : Int) (s : ByteArray) (w : World)
    (hC : Calls Tryz.prog 68 #[.string s] (w.alloc (.cells #[.int .i64 0, .int .i64 0, .string ⟨#[]⟩] 23)) (Fails x (w.alloc (.cells #[.int .i64 0, .int .i64 0, .string ⟨#[]⟩] 23)))) :
    Calls Tryz.prog 48 #[.int .i64 k, .string s] w fun e w' => e = .returned zv ∧ Below w.heap.size w w' := by
  have C := Lib.hid hC
  clear hC
  go_enter Tryz.func48, Tryz.ntmps48
  go_wp2_with fail
  refine C.out.mono ?_
  rintro e w1 ⟨N, rfl, hb1⟩
  obtain ⟨k0, k1, k2, kf, kz⟩ := ((Own.new _ _ _).below hb1 (by simp only [World.size_alloc]; omega)).facts
  have g1 := Lib.hid (((Below.refl w.heap.size w).alloc (Nat.le_refl _) _).trans (hb1.mono (by simp only [World.size_alloc]; omega)))
  clear hb1
  go_wp2_with fail
  exact bodyPost_ret (v := zv) (by simp [results, Tryz.results48, go_sem, es, zv, vv, k0, k1, k2]) rfl ⟨rfl, ((g1.out.setCell (by simp) _).setCell (by simp) _).setCell (by simp) _⟩
theorem numbered_any (k : Int) (s : ByteArray) (hs : s.size ≤ 140737488351232) (w : World) (hG : Gl w) :
    Calls Tryz.prog 48 #[.int .i64 k, .string s] w fun e w' => e = .returned (num3 k s.data.toList).val ∧ Below w.heap.size w w' := by
  have hG1 := hG.below ((Below.refl w.heap.size w).alloc (Nat.le_refl _) (.cells #[.int .i64 0, .int .i64 0, .string ⟨#[]⟩] 23))
  unfold num3
  cases h : Lib.atoiAll s.data.toList
  · exact numbered_ok k _ s hs h w
  · obtain ⟨tp, p, hv⟩ := hG1.esyn
    exact numbered_fail k 0 s w ((Any.strconv_Atoi_syntax_var Tryz.laysC172 s (by omega) h tp p _ hv).mono fun e w' ⟨N, he, _, _, hb⟩ => ⟨N, he, hb⟩)
  · obtain ⟨tp, p, hv⟩ := hG1.eran
    exact numbered_fail k (Lib.atoiSat s.data.toList) s w ((Any.strconv_Atoi_range_var Tryz.laysC172 s (by omega) h tp p _ hv).mono fun e w' ⟨N, he, _, _, hb⟩ => ⟨N, he, hb⟩)
end Go.Proofs.YtibjhcgfjhbgoaaGreatDoor.Va
