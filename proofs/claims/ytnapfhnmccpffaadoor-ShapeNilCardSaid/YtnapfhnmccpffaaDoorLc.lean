/-
  Merge at nil and zero trees.
-/
import Derived.Test.YtnapfhnmccpffaaDoorLb
namespace Go.Proofs.YtnapfhnmccpffaaDoor.Sh
open Go Go.RowKit

set_option maxRecDepth 100000 in
set_option maxHeartbeats 600000 in
theorem z_merge (w : World) (v : Value) (s : Int) (h : NilT w v) (hs : I64 s) : Calls Tryd.prog 29 #[v, .int .i64 s, .int .i64 s] w fun e w' => e = .returned (.int .i64 1) ∧ Below w.heap.size w w' := by
  obtain ⟨q, rfl⟩ : ∃ q, v = .pointer q := h.elim (fun e => ⟨_, e⟩) (fun ⟨_, e, _⟩ => ⟨_, e⟩)
  obtain ⟨X, hX⟩ : ∃ X, w.heap.size = X := ⟨_, rfl⟩
  obtain ⟨W1, hW1⟩ : ∃ W1, (w.alloc (.cells #[.int .i64 s] 3)) = W1 := ⟨_, rfl⟩
  have B1 := Lib.hid (show Below w.heap.size w W1 by rw [← hW1]; exact (Below.refl _ w).alloc (Nat.le_refl _) _)
  have X1 := Lib.hid (show Bk W1 X #[.int .i64 s] 3 by rw [← hW1, ← hX]; exact Bk.new w _ _)
  obtain ⟨k, hk⟩ : ∃ k : Int, k = -1 := ⟨_, rfl⟩
  have C := Lib.hid (show Calls Tryd.prog 26 #[.pointer q, .int .i64 s] W1.drew fun e w' => e = .returned (.int .i64 k) ∧ W1.drew = w' by rw [hk]; exact z_canon W1.drew (.pointer q) s ((h.below B1.out).below (Below.refl _ W1).drew) hs)
  have HK := Lib.hid hk
  have e1 : (k == -1) = true := by rw [hk]; rfl
  clear hk
  have x0 := X1.out.cell 0 (.int .i64 s) rfl
  have xf := X1.out.frozen 0
  obtain ⟨W2, hW2⟩ : ∃ W2, W1.drew.setCell ⟨X, 0, none⟩ (.int .i64 k) = W2 := ⟨_, rfl⟩
  have B2 := Lib.hid (show Below w.heap.size w W2 by rw [← hW2]; exact B1.out.drew.setCell (p := ⟨X, 0, none⟩) (by show _ ≤ X; omega) _)
  clear h hs
  go_enter Tryd.func29, Tryd.ntmps29
  go_wp2_with fail
  go_region_law (go_simp; go_at_call 26; (with_reducible refine C.out.mono ?_); rintro e w' ⟨rfl, rfl⟩)
  all_goals
    go_wp2_with fail
    go_ret
    exact ⟨rfl, B2.out⟩
end Go.Proofs.YtnapfhnmccpffaaDoor.Sh
