/-
  Contracts of equal, join, the makers of operators.
-/
import Derived.Test.YtibjhcgfjhbgoaaGreatDoorVd
namespace Go.Proofs.YtibjhcgfjhbgoaaGreatDoor.Va
open Go Go.RowKit Mp

def veq (ka na kb nb : Int) (sa sb : ByteArray) : Bool := decide (ka = kb) && decide (na = nb) && decide (sa.data.toList = sb.data.toList)
theorem run_veq (ka na kb nb : Int) (sa sb : ByteArray) (w : World) : (Op.equalIn 10000 23 (.agg #[.int .i64 ka, .int .i64 na, .string sa]) (.agg #[.int .i64 kb, .int .i64 nb, .string sb])).run Tryz.prog w = .ok (veq ka na kb nb sa sb) w := by
  unfold veq
  rw [← ByteArray.toList_eq, ← ByteArray.toList_eq]
  by_cases h1 : ka = kb <;> by_cases h2 : na = nb <;> by_cases h3 : sa.toList = sb.toList <;> simp [go_sem, h1, h2, h3]
theorem own3' {w : World} {o1 o2 : Obj} {T : TypeId} {x0 x1 x2 : Value} {w2 : World}
    (hb2 : Below (((w.alloc o1).alloc o2).alloc (.cells #[x0, x1, x2] T)).heap.size (((w.alloc o1).alloc o2).alloc (.cells #[x0, x1, x2] T)) w2) :
    w2.cell? ⟨w.heap.size + 1 + 1, 0, none⟩ = some x0 ∧ w2.cell? ⟨w.heap.size + 1 + 1, 1, none⟩ = some x1 ∧ w2.cell? ⟨w.heap.size + 1 + 1, 2, none⟩ = some x2 ∧
    (∀ j, w2.frozen? ⟨w.heap.size + 1 + 1, j, none⟩ = false) ∧ w.heap.size + 1 + 1 < w2.heap.size ∧ Below w.heap.size w w2 :=
  own3 hb2 (Below.refl _ _)

set_option maxRecDepth 3000 in
theorem equal_any (ka na kb nb : Int) (sa sb : ByteArray) (w : World) :
    Calls Tryz.prog 54 #[vv ka na sa, vv kb nb sb] w fun e w' => e = .returned (.tuple #[tv (veq ka na kb nb sa sb), .string es]) ∧ Below w.heap.size w w' := by
  have hq := run_veq ka na kb nb sa sb
  unfold vv
  go_enter Tryz.func54, Tryz.ntmps54
  go_wp2_with fail
  refine (truth_any _ _).mono ?_
  rintro e w2 ⟨rfl, hb2⟩
  obtain ⟨k0, k1, k2, kf, kz, hb⟩ := own3' hb2
  clear hb2
  unfold tv vv es
  go_wp2_with fail
  exact bodyPost_ret (v := .tuple #[tv _, .string es]) (by simp [results, Tryz.results54, go_sem, tv, vv, es, k0, k1, k2]) rfl ⟨rfl, ((hb.setCell (by simp; omega) _).setCell (by simp; omega) _).setCell (by simp; omega) _⟩
set_option maxRecDepth 3000 in
theorem join_yes (ka na kb nb : Int) (sa sb : ByteArray) (w : World) (h : sa.size + sb.size ≤ 200) :
    Calls Tryz.prog 84 #[vv ka na sa, vv kb nb sb] w fun e w' => e = .returned (.tuple #[vv 4 0 (sa ++ sb), .string es]) ∧ Below w.heap.size w w' := by
  unfold vv
  go_enter Tryz.func84, Tryz.ntmps84
  go_wp2_with fail
  exact bodyPost_ret (v := .tuple #[vv 4 0 (sa ++ sb), .string es]) (by simp [results, Tryz.results84, go_sem, vv, es]) rfl ⟨rfl, below3 _ _ _ _⟩
set_option maxRecDepth 3000 in
theorem join_no (ka na kb nb : Int) (sa sb : ByteArray) (w : World) (h1 : sa.size ≤ 200) (h2 : sb.size ≤ 200) (h : 200 < (sa.size : Int) + sb.size) :
    Calls Tryz.prog 84 #[vv ka na sa, vv kb nb sb] w fun e w' => e = .returned (.tuple #[zv, .string rangeS]) ∧ Below w.heap.size w w' := by
  unfold vv
  go_enter Tryz.func84, Tryz.ntmps84
  go_wp2_with fail
  exact bodyPost_ret (v := .tuple #[zv, .string rangeS]) (by simp [results, Tryz.results84, go_sem, vv, es, zv, rangeS]) rfl ⟨rfl, below3 _ _ _ _⟩
end Go.Proofs.YtibjhcgfjhbgoaaGreatDoor.Va
