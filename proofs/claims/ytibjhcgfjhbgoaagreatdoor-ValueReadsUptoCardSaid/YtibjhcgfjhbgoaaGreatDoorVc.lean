/-
  Contracts of the makers of operators.
-/
import Derived.Test.YtibjhcgfjhbgoaaGreatDoorVb
import Derived.Test.YtibjhcgfjhbgoaaGreatDoorMp
namespace Go.Proofs.YtibjhcgfjhbgoaaGreatDoor.Va
open Go Go.RowKit

open Mp
theorem relation_any (f : Value) (fn : FuncId) (hf : f = .func (.func fn) #[] #[]) (w : World) :
    Calls Tryz.prog 70 #[f] w fun e w' => e = .returned (.func (.func 98) #[] #[.pointer (some ⟨w.heap.size, 0, none⟩)]) ∧ w.alloc (.cells #[f] 91) = w' := by
  subst hf
  go_enter Tryz.func70, Tryz.ntmps70
  go_wp2
  go_ret
  exact ⟨rfl, rfl⟩
/-- A value of the language as Go holds it. -/
def vv (k n : Int) (s : ByteArray) : Value := .agg #[.int .i64 k, .int .i64 n, .string s]
def es : ByteArray := ⟨#[]⟩
def bi (b : Bool) : Int := if b then 1 else 0
def tv (b : Bool) : Value := vv 2 (bi b) es
theorem truth_any (b : Bool) (w : World) :
    Calls Tryz.prog 45 #[.bool b] w fun e w' => e = .returned (tv b) ∧ Below w.heap.size w w' := by
  cases b
  all_goals
    go_enter Tryz.func45, Tryz.ntmps45
    go_wp2
    exact bodyPost_ret (v := tv _) (by simp [results, Tryz.results45, go_sem, tv, vv, es, bi]) rfl ⟨rfl, (Below.refl _ _).alloc (Nat.le_refl _) _⟩
theorem number_any (n : Int) (w : World) :
    Calls Tryz.prog 100 #[.int .i64 n] w fun e w' => e = .returned (vv 3 n es) ∧ Below w.heap.size w w' := by
  go_enter Tryz.func100, Tryz.ntmps100
  go_wp2
  exact bodyPost_ret (v := vv 3 n es) (by simp [results, Tryz.results100, go_sem, vv, es]) rfl ⟨rfl, (Below.refl _ _).alloc (Nat.le_refl _) _⟩
theorem cell3 {w : World} {b o : Nat} {v : Value} (h : w.cell? ⟨b, o, none⟩ = some v) (o1 o2 o3 : Obj) : (((w.alloc o1).alloc o2).alloc o3).cell? ⟨b, o, none⟩ = some v := by
  have hz := cell_lt h
  rw [World.cell?_alloc_past _ _ _ (by simp; omega), World.cell?_alloc_past _ _ _ (by simp; omega), World.cell?_alloc_past _ _ _ hz, h]
theorem own3 {w : World} {o1 o2 : Obj} {T : TypeId} {x0 x1 x2 : Value} {w1 w2 : World}
    (hb1 : Below (((w.alloc o1).alloc o2).alloc (.cells #[x0, x1, x2] T)).heap.size (((w.alloc o1).alloc o2).alloc (.cells #[x0, x1, x2] T)) w1) (hb2 : Below w1.heap.size w1 w2) :
    w2.cell? ⟨w.heap.size + 1 + 1, 0, none⟩ = some x0 ∧ w2.cell? ⟨w.heap.size + 1 + 1, 1, none⟩ = some x1 ∧ w2.cell? ⟨w.heap.size + 1 + 1, 2, none⟩ = some x2 ∧
    (∀ j, w2.frozen? ⟨w.heap.size + 1 + 1, j, none⟩ = false) ∧ w.heap.size + 1 + 1 < w2.heap.size ∧ Below w.heap.size w w2 := by
  have hz := hb1.size
  simp only [World.size_alloc] at hz
  have hb : Below (((w.alloc o1).alloc o2).alloc (.cells #[x0, x1, x2] T)).heap.size (((w.alloc o1).alloc o2).alloc (.cells #[x0, x1, x2] T)) w2 := hb1.trans (hb2.mono (by simp; omega))
  refine ⟨?_, ?_, ?_, ?_, ?_, ?_⟩
  · rw [hb.cell (by simp only [World.size_alloc]; omega), World.cell?_alloc_at (hn := by simp)]; rfl
  · rw [hb.cell (by simp only [World.size_alloc]; omega), World.cell?_alloc_at (hn := by simp)]; rfl
  · rw [hb.cell (by simp only [World.size_alloc]; omega), World.cell?_alloc_at (hn := by simp)]; rfl
  · intro j; rw [hb.frozen (by simp only [World.size_alloc]; omega), World.frozen?_alloc_at (hn := by simp)]
  · have := hb2.size; omega
  · exact Below.trans ((((Below.refl w.heap.size w).alloc (Nat.le_refl _) o1).alloc (by simp) o2).alloc (by simp only [World.size_alloc]; omega) (.cells #[x0, x1, x2] T)) (hb.mono (by simp only [World.size_alloc]; omega))
theorem clo_and (ka na kb nb : Int) (sa sb : ByteArray) (w : World) :
    Calls Tryz.prog 71 #[vv ka na sa, vv kb nb sb] w fun e w' => e = .returned (.bool (decide (na = 1) && decide (nb = 1))) ∧ Below w.heap.size w w' := by
  unfold vv
  go_enter Tryz.func71, Tryz.ntmps71
  go_wp2
  all_goals go_ret
  all_goals refine ⟨ret_bool ?_, ((Below.refl _ _).alloc (Nat.le_refl _) _).alloc (by simp) _⟩
  all_goals first | rfl | (rw [ByteArray.toList_eq, ByteArray.toList_eq]; done) | (rw [Bool.eq_iff_iff]; simp; done) | (rw [Bool.eq_iff_iff]; simp; omega)
set_option maxRecDepth 3000 in
theorem rel_and (ka na kb nb : Int) (sa sb : ByteArray) (pb : Nat) (w : World) (hc : w.cell? ⟨pb, 0, none⟩ = some (.func (.func 71) #[] #[])) :
    Calls Tryz.prog 98 #[vv ka na sa, vv kb nb sb, .pointer (some ⟨pb, 0, none⟩)] w fun e w' => e = .returned (.tuple #[tv (decide (na = 1) && decide (nb = 1)), .string es]) ∧ Below w.heap.size w w' := by
  have hc3 : ∀ o1 o2 o3, (((w.alloc o1).alloc o2).alloc o3).cell? ⟨pb, 0, none⟩ = some (.func (.func 71) #[] #[]) := fun o1 o2 o3 => cell3 hc o1 o2 o3
  clear hc
  unfold vv
  go_enter Tryz.func98, Tryz.ntmps98
  go_wp2_with fail
  refine (clo_and ka na kb nb sa sb _).mono ?_
  rintro e w1 ⟨rfl, hb1⟩
  go_wp2_with fail
  refine (truth_any _ _).mono ?_
  rintro e w2 ⟨rfl, hb2⟩
  obtain ⟨k0, k1, k2, kf, kz, hb⟩ := own3 hb1 hb2
  clear hb1 hb2
  unfold tv vv es
  go_wp2_with fail
  exact bodyPost_ret (v := .tuple #[tv _, .string es]) (by simp [results, Tryz.results98, go_sem, tv, vv, es, k0, k1, k2]) rfl ⟨rfl, ((hb.setCell (by simp; omega) _).setCell (by simp; omega) _).setCell (by simp; omega) _⟩
theorem clo_or (ka na kb nb : Int) (sa sb : ByteArray) (w : World) :
    Calls Tryz.prog 72 #[vv ka na sa, vv kb nb sb] w fun e w' => e = .returned (.bool (decide (na = 1) || decide (nb = 1))) ∧ Below w.heap.size w w' := by
  unfold vv
  go_enter Tryz.func72, Tryz.ntmps72
  go_wp2
  all_goals go_ret
  all_goals refine ⟨ret_bool ?_, ((Below.refl _ _).alloc (Nat.le_refl _) _).alloc (by simp) _⟩
  all_goals first | rfl | (rw [ByteArray.toList_eq, ByteArray.toList_eq]; done) | (rw [Bool.eq_iff_iff]; simp; done) | (rw [Bool.eq_iff_iff]; simp; omega)
set_option maxRecDepth 3000 in
theorem rel_or (ka na kb nb : Int) (sa sb : ByteArray) (pb : Nat) (w : World) (hc : w.cell? ⟨pb, 0, none⟩ = some (.func (.func 72) #[] #[])) :
    Calls Tryz.prog 98 #[vv ka na sa, vv kb nb sb, .pointer (some ⟨pb, 0, none⟩)] w fun e w' => e = .returned (.tuple #[tv (decide (na = 1) || decide (nb = 1)), .string es]) ∧ Below w.heap.size w w' := by
  have hc3 : ∀ o1 o2 o3, (((w.alloc o1).alloc o2).alloc o3).cell? ⟨pb, 0, none⟩ = some (.func (.func 72) #[] #[]) := fun o1 o2 o3 => cell3 hc o1 o2 o3
  clear hc
  unfold vv
  go_enter Tryz.func98, Tryz.ntmps98
  go_wp2_with fail
  refine (clo_or ka na kb nb sa sb _).mono ?_
  rintro e w1 ⟨rfl, hb1⟩
  go_wp2_with fail
  refine (truth_any _ _).mono ?_
  rintro e w2 ⟨rfl, hb2⟩
  obtain ⟨k0, k1, k2, kf, kz, hb⟩ := own3 hb1 hb2
  clear hb1 hb2
  unfold tv vv es
  go_wp2_with fail
  exact bodyPost_ret (v := .tuple #[tv _, .string es]) (by simp [results, Tryz.results98, go_sem, tv, vv, es, k0, k1, k2]) rfl ⟨rfl, ((hb.setCell (by simp; omega) _).setCell (by simp; omega) _).setCell (by simp; omega) _⟩
theorem clo_lt (ka na kb nb : Int) (sa sb : ByteArray) (w : World) :
    Calls Tryz.prog 82 #[vv ka na sa, vv kb nb sb] w fun e w' => e = .returned (.bool (decide (na < nb))) ∧ Below w.heap.size w w' := by
  unfold vv
  go_enter Tryz.func82, Tryz.ntmps82
  go_wp2
  all_goals go_ret
  all_goals refine ⟨ret_bool ?_, ((Below.refl _ _).alloc (Nat.le_refl _) _).alloc (by simp) _⟩
  all_goals first | rfl | (rw [ByteArray.toList_eq, ByteArray.toList_eq]; done) | (rw [Bool.eq_iff_iff]; simp; done) | (rw [Bool.eq_iff_iff]; simp; omega)
set_option maxRecDepth 3000 in
theorem rel_lt (ka na kb nb : Int) (sa sb : ByteArray) (pb : Nat) (w : World) (hc : w.cell? ⟨pb, 0, none⟩ = some (.func (.func 82) #[] #[])) :
    Calls Tryz.prog 98 #[vv ka na sa, vv kb nb sb, .pointer (some ⟨pb, 0, none⟩)] w fun e w' => e = .returned (.tuple #[tv (decide (na < nb)), .string es]) ∧ Below w.heap.size w w' := by
  have hc3 : ∀ o1 o2 o3, (((w.alloc o1).alloc o2).alloc o3).cell? ⟨pb, 0, none⟩ = some (.func (.func 82) #[] #[]) := fun o1 o2 o3 => cell3 hc o1 o2 o3
  clear hc
  unfold vv
  go_enter Tryz.func98, Tryz.ntmps98
  go_wp2_with fail
  refine (clo_lt ka na kb nb sa sb _).mono ?_
  rintro e w1 ⟨rfl, hb1⟩
  go_wp2_with fail
  refine (truth_any _ _).mono ?_
  rintro e w2 ⟨rfl, hb2⟩
  obtain ⟨k0, k1, k2, kf, kz, hb⟩ := own3 hb1 hb2
  clear hb1 hb2
  unfold tv vv es
  go_wp2_with fail
  exact bodyPost_ret (v := .tuple #[tv _, .string es]) (by simp [results, Tryz.results98, go_sem, tv, vv, es, k0, k1, k2]) rfl ⟨rfl, ((hb.setCell (by simp; omega) _).setCell (by simp; omega) _).setCell (by simp; omega) _⟩
theorem clo_before (ka na kb nb : Int) (sa sb : ByteArray) (w : World) :
    Calls Tryz.prog 83 #[vv ka na sa, vv kb nb sb] w fun e w' => e = .returned (.bool (Op.bytesLess sa.data.toList sb.data.toList)) ∧ Below w.heap.size w w' := by
  unfold vv
  go_enter Tryz.func83, Tryz.ntmps83
  go_wp2
  all_goals go_ret
  all_goals refine ⟨ret_bool ?_, ((Below.refl _ _).alloc (Nat.le_refl _) _).alloc (by simp) _⟩
  all_goals first | rfl | (rw [ByteArray.toList_eq, ByteArray.toList_eq]; done) | (rw [Bool.eq_iff_iff]; simp; done) | (rw [Bool.eq_iff_iff]; simp; omega)
set_option maxRecDepth 3000 in
theorem rel_before (ka na kb nb : Int) (sa sb : ByteArray) (pb : Nat) (w : World) (hc : w.cell? ⟨pb, 0, none⟩ = some (.func (.func 83) #[] #[])) :
    Calls Tryz.prog 98 #[vv ka na sa, vv kb nb sb, .pointer (some ⟨pb, 0, none⟩)] w fun e w' => e = .returned (.tuple #[tv (Op.bytesLess sa.data.toList sb.data.toList), .string es]) ∧ Below w.heap.size w w' := by
  have hc3 : ∀ o1 o2 o3, (((w.alloc o1).alloc o2).alloc o3).cell? ⟨pb, 0, none⟩ = some (.func (.func 83) #[] #[]) := fun o1 o2 o3 => cell3 hc o1 o2 o3
  clear hc
  unfold vv
  go_enter Tryz.func98, Tryz.ntmps98
  go_wp2_with fail
  refine (clo_before ka na kb nb sa sb _).mono ?_
  rintro e w1 ⟨rfl, hb1⟩
  go_wp2_with fail
  refine (truth_any _ _).mono ?_
  rintro e w2 ⟨rfl, hb2⟩
  obtain ⟨k0, k1, k2, kf, kz, hb⟩ := own3 hb1 hb2
  clear hb1 hb2
  unfold tv vv es
  go_wp2_with fail
  exact bodyPost_ret (v := .tuple #[tv _, .string es]) (by simp [results, Tryz.results98, go_sem, tv, vv, es, k0, k1, k2]) rfl ⟨rfl, ((hb.setCell (by simp; omega) _).setCell (by simp; omega) _).setCell (by simp; omega) _⟩
end Go.Proofs.YtibjhcgfjhbgoaaGreatDoor.Va
