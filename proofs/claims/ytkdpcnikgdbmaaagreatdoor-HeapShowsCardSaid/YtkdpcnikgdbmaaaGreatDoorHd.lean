/-
  Contracts of formOf.
-/
import Derived.Laws.EntriesVeiled
import Derived.Laws.ResultCell
import Derived.Laws.Rows
import Derived.Laws.Tables
import Derived.Deep.WholeRow
import Derived.Test.YtkdpcnikgdbmaaaGreatDoorHc
namespace Go.Proofs.YtkdpcnikgdbmaaaGreatDoor.Hp
open Go Go.RowKit Go.Maps Va

def formsC : Array Value := #[.nilFunc, .nilFunc, .nilFunc, .nilFunc, .func (.func 102) #[] #[], .func (.func 103) #[] #[], .func (.func 104) #[] #[], .func (.func 105) #[] #[], .func (.func 103) #[] #[], .func (.func 103) #[] #[], .func (.func 106) #[] #[], .func (.func 105) #[] #[], .func (.func 103) #[] #[], .func (.func 102) #[] #[], .func (.func 106) #[] #[], .func (.func 105) #[] #[], .func (.func 103) #[] #[], .func (.func 103) #[] #[], .func (.func 106) #[] #[], .func (.func 107) #[] #[]]
def formsZ : Array Value := #[.nilFunc, .nilFunc, .nilFunc, .nilFunc, .nilFunc, .nilFunc, .nilFunc, .nilFunc, .nilFunc, .nilFunc, .nilFunc, .nilFunc, .nilFunc, .nilFunc, .nilFunc, .nilFunc, .nilFunc, .nilFunc, .nilFunc, .nilFunc]
def formsW (w : World) : World := ((w.alloc (.cells #[.nilFunc, .nilFunc, .nilFunc, .nilFunc] 126)).alloc (.cells #[.nilFunc, .nilFunc, .nilFunc, .nilFunc, .nilFunc, .nilFunc, .nilFunc, .nilFunc, .nilFunc, .nilFunc, .nilFunc, .nilFunc, .nilFunc, .nilFunc, .nilFunc, .nilFunc, .nilFunc, .nilFunc, .nilFunc, .nilFunc] 144)).setRow (w.heap.size + 1) formsC
theorem forms_new (w : World) : Bk (formsW w) (w.heap.size + 1) formsC 144 := setRow_heap _ _ _ _ _ _ (heap_alloc2_new w _ _)
theorem row_other (w : World) (g : Nat) (c : Array Value) (i : Nat) (h : i ≠ g) : (w.setRow g c).heap[i]? = w.heap[i]? := by
  unfold World.setRow
  simp only [Array.getElem?_modify]
  rw [if_neg (fun e => h e.symm)]
theorem forms_ret (w : World) : Bk (formsW w) w.heap.size #[.nilFunc, .nilFunc, .nilFunc, .nilFunc] 126 :=
  (row_other _ _ _ _ (by omega)).trans ((Bk.new w _ _).alloc _)
theorem forms_below (w : World) : Below w.heap.size w (formsW w) :=
  (((Below.refl _ w).alloc (Nat.le_refl _) _).alloc (by simp) _).trans ⟨rfl, rfl, rfl, by simp [formsW, World.setRow], fun k hk => row_other _ _ _ _ (by omega)⟩
theorem formsI : (Tryz.prog.info? 144).map (·.size) = some formsC.size := by kernel_rfl
theorem formsO : formsC.all (·.oneCell') = true := by decide +kernel
theorem formsS : formsZ.size = formsC.size := rfl
theorem formsN (w : World) (A : Obj) : ((w.alloc A).alloc (.cells #[.nilFunc, .nilFunc, .nilFunc, .nilFunc, .nilFunc, .nilFunc, .nilFunc, .nilFunc, .nilFunc, .nilFunc, .nilFunc, .nilFunc, .nilFunc, .nilFunc, .nilFunc, .nilFunc, .nilFunc, .nilFunc, .nilFunc, .nilFunc] 144)).heap[w.heap.size + 1]? = some (.cells formsZ 144 (0, 0)) := heap_alloc2_new w A _
set_option maxRecDepth 100000 in
theorem form_1 (w : World) : Calls Tryz.prog 87 #[.int .i64 1] w fun e w' => e = .returned (.tuple #[.agg #[.func (.func 102) #[] #[], .func (.func 103) #[] #[], .func (.func 104) #[] #[], .func (.func 105) #[] #[]], .bool true]) ∧ Below w.heap.size w w' := by
  go_enter Tryz.func87, Tryz.ntmps87
  go_wp2_with (refine wpList_store_row rfl 144 _ _ rfl (w.heap.size + 1) formsC ?h3 ?h4 144 formsZ (formsN w _) formsI formsS formsO ?_; (case h3 => rfl); (case h4 => rfl); change wpList _ _ _ _ _ (formsW w); (have c4 := (forms_new w).cell 4 (.func (.func 102) #[] #[]) rfl); (have c5 := (forms_new w).cell 5 (.func (.func 103) #[] #[]) rfl); (have c6 := (forms_new w).cell 6 (.func (.func 104) #[] #[]) rfl); (have c7 := (forms_new w).cell 7 (.func (.func 105) #[] #[]) rfl); (have r0 := (forms_ret w).cell 0 .nilFunc rfl); (have z0 := (forms_ret w).frozen 0); (have r1 := (forms_ret w).cell 1 .nilFunc rfl); (have z1 := (forms_ret w).frozen 1); (have r2 := (forms_ret w).cell 2 .nilFunc rfl); (have z2 := (forms_ret w).frozen 2); (have r3 := (forms_ret w).cell 3 .nilFunc rfl); (have z3 := (forms_ret w).frozen 3); (have HB := Lib.hid (forms_below w)); generalize formsW w = w2 at *)
  (try simp only [Exit.inBlock, Exit.then])
  refine bodyPost_ret (v := .tuple #[.agg #[.func (.func 102) #[] #[], .func (.func 103) #[] #[], .func (.func 104) #[] #[], .func (.func 105) #[] #[]], .bool true]) ?_ rfl ?_
  · rw [results_cell_tmp rfl]
    go_simp
  · exact ⟨rfl, by (repeat' (first | exact HB.out | refine Below.setCell ?_ (by simp) _))⟩
set_option maxRecDepth 100000 in
theorem form_2 (w : World) : Calls Tryz.prog 87 #[.int .i64 2] w fun e w' => e = .returned (.tuple #[.agg #[.func (.func 103) #[] #[], .func (.func 103) #[] #[], .func (.func 106) #[] #[], .func (.func 105) #[] #[]], .bool true]) ∧ Below w.heap.size w w' := by
  go_enter Tryz.func87, Tryz.ntmps87
  go_wp2_with (refine wpList_store_row rfl 144 _ _ rfl (w.heap.size + 1) formsC ?h3 ?h4 144 formsZ (formsN w _) formsI formsS formsO ?_; (case h3 => rfl); (case h4 => rfl); change wpList _ _ _ _ _ (formsW w); (have c8 := (forms_new w).cell 8 (.func (.func 103) #[] #[]) rfl); (have c9 := (forms_new w).cell 9 (.func (.func 103) #[] #[]) rfl); (have c10 := (forms_new w).cell 10 (.func (.func 106) #[] #[]) rfl); (have c11 := (forms_new w).cell 11 (.func (.func 105) #[] #[]) rfl); (have r0 := (forms_ret w).cell 0 .nilFunc rfl); (have z0 := (forms_ret w).frozen 0); (have r1 := (forms_ret w).cell 1 .nilFunc rfl); (have z1 := (forms_ret w).frozen 1); (have r2 := (forms_ret w).cell 2 .nilFunc rfl); (have z2 := (forms_ret w).frozen 2); (have r3 := (forms_ret w).cell 3 .nilFunc rfl); (have z3 := (forms_ret w).frozen 3); (have HB := Lib.hid (forms_below w)); generalize formsW w = w2 at *)
  (try simp only [Exit.inBlock, Exit.then])
  refine bodyPost_ret (v := .tuple #[.agg #[.func (.func 103) #[] #[], .func (.func 103) #[] #[], .func (.func 106) #[] #[], .func (.func 105) #[] #[]], .bool true]) ?_ rfl ?_
  · rw [results_cell_tmp rfl]
    go_simp
  · exact ⟨rfl, by (repeat' (first | exact HB.out | refine Below.setCell ?_ (by simp) _))⟩
set_option maxRecDepth 100000 in
theorem form_3 (w : World) : Calls Tryz.prog 87 #[.int .i64 3] w fun e w' => e = .returned (.tuple #[.agg #[.func (.func 103) #[] #[], .func (.func 102) #[] #[], .func (.func 106) #[] #[], .func (.func 105) #[] #[]], .bool true]) ∧ Below w.heap.size w w' := by
  go_enter Tryz.func87, Tryz.ntmps87
  go_wp2_with (refine wpList_store_row rfl 144 _ _ rfl (w.heap.size + 1) formsC ?h3 ?h4 144 formsZ (formsN w _) formsI formsS formsO ?_; (case h3 => rfl); (case h4 => rfl); change wpList _ _ _ _ _ (formsW w); (have c12 := (forms_new w).cell 12 (.func (.func 103) #[] #[]) rfl); (have c13 := (forms_new w).cell 13 (.func (.func 102) #[] #[]) rfl); (have c14 := (forms_new w).cell 14 (.func (.func 106) #[] #[]) rfl); (have c15 := (forms_new w).cell 15 (.func (.func 105) #[] #[]) rfl); (have r0 := (forms_ret w).cell 0 .nilFunc rfl); (have z0 := (forms_ret w).frozen 0); (have r1 := (forms_ret w).cell 1 .nilFunc rfl); (have z1 := (forms_ret w).frozen 1); (have r2 := (forms_ret w).cell 2 .nilFunc rfl); (have z2 := (forms_ret w).frozen 2); (have r3 := (forms_ret w).cell 3 .nilFunc rfl); (have z3 := (forms_ret w).frozen 3); (have HB := Lib.hid (forms_below w)); generalize formsW w = w2 at *)
  (try simp only [Exit.inBlock, Exit.then])
  refine bodyPost_ret (v := .tuple #[.agg #[.func (.func 103) #[] #[], .func (.func 102) #[] #[], .func (.func 106) #[] #[], .func (.func 105) #[] #[]], .bool true]) ?_ rfl ?_
  · rw [results_cell_tmp rfl]
    go_simp
  · exact ⟨rfl, by (repeat' (first | exact HB.out | refine Below.setCell ?_ (by simp) _))⟩
set_option maxRecDepth 100000 in
theorem form_4 (w : World) : Calls Tryz.prog 87 #[.int .i64 4] w fun e w' => e = .returned (.tuple #[.agg #[.func (.func 103) #[] #[], .func (.func 103) #[] #[], .func (.func 106) #[] #[], .func (.func 107) #[] #[]], .bool true]) ∧ Below w.heap.size w w' := by
  go_enter Tryz.func87, Tryz.ntmps87
  go_wp2_with (refine wpList_store_row rfl 144 _ _ rfl (w.heap.size + 1) formsC ?h3 ?h4 144 formsZ (formsN w _) formsI formsS formsO ?_; (case h3 => rfl); (case h4 => rfl); change wpList _ _ _ _ _ (formsW w); (have c16 := (forms_new w).cell 16 (.func (.func 103) #[] #[]) rfl); (have c17 := (forms_new w).cell 17 (.func (.func 103) #[] #[]) rfl); (have c18 := (forms_new w).cell 18 (.func (.func 106) #[] #[]) rfl); (have c19 := (forms_new w).cell 19 (.func (.func 107) #[] #[]) rfl); (have r0 := (forms_ret w).cell 0 .nilFunc rfl); (have z0 := (forms_ret w).frozen 0); (have r1 := (forms_ret w).cell 1 .nilFunc rfl); (have z1 := (forms_ret w).frozen 1); (have r2 := (forms_ret w).cell 2 .nilFunc rfl); (have z2 := (forms_ret w).frozen 2); (have r3 := (forms_ret w).cell 3 .nilFunc rfl); (have z3 := (forms_ret w).frozen 3); (have HB := Lib.hid (forms_below w)); generalize formsW w = w2 at *)
  (try simp only [Exit.inBlock, Exit.then])
  refine bodyPost_ret (v := .tuple #[.agg #[.func (.func 103) #[] #[], .func (.func 103) #[] #[], .func (.func 106) #[] #[], .func (.func 107) #[] #[]], .bool true]) ?_ rfl ?_
  · rw [results_cell_tmp rfl]
    go_simp
  · exact ⟨rfl, by (repeat' (first | exact HB.out | refine Below.setCell ?_ (by simp) _))⟩
set_option maxRecDepth 100000 in
set_option maxHeartbeats 2000000 in
theorem form_no (k : Int) (hk : ¬ (1 ≤ k ∧ k ≤ 4)) (w : World) : Calls Tryz.prog 87 #[.int .i64 k] w fun e w' => e = .returned (.tuple #[.agg #[.nilFunc, .nilFunc, .nilFunc, .nilFunc], .bool false]) ∧ Below w.heap.size w w' := by
  by_cases h1 : k < 1
  · clear hk
    go_enter Tryz.func87, Tryz.ntmps87
    go_wp2_with (refine wpList_store_row rfl 144 _ _ rfl (w.heap.size + 1) formsC ?h3 ?h4 144 formsZ (formsN w _) formsI formsS formsO ?_; (case h3 => rfl); (case h4 => rfl); change wpList _ _ _ _ _ (formsW w); (have r0 := (forms_ret w).cell 0 .nilFunc rfl); (have z0 := (forms_ret w).frozen 0); (have r1 := (forms_ret w).cell 1 .nilFunc rfl); (have z1 := (forms_ret w).frozen 1); (have r2 := (forms_ret w).cell 2 .nilFunc rfl); (have z2 := (forms_ret w).frozen 2); (have r3 := (forms_ret w).cell 3 .nilFunc rfl); (have z3 := (forms_ret w).frozen 3); (have HB := Lib.hid (forms_below w)); generalize formsW w = w2 at *)
    (try simp only [Exit.inBlock, Exit.then])
    refine bodyPost_ret (v := .tuple #[.agg #[.nilFunc, .nilFunc, .nilFunc, .nilFunc], .bool false]) ?_ rfl ?_
    · rw [results_cell_tmp rfl]
      go_simp
    · exact ⟨rfl, by (repeat' (first | exact HB.out | refine Below.setCell ?_ (by simp) _))⟩
  · have h4 : ¬ k < 5 := by omega
    clear hk
    go_enter Tryz.func87, Tryz.ntmps87
    go_wp2_with (refine wpList_store_row rfl 144 _ _ rfl (w.heap.size + 1) formsC ?h3 ?h4 144 formsZ (formsN w _) formsI formsS formsO ?_; (case h3 => rfl); (case h4 => rfl); change wpList _ _ _ _ _ (formsW w); (have r0 := (forms_ret w).cell 0 .nilFunc rfl); (have z0 := (forms_ret w).frozen 0); (have r1 := (forms_ret w).cell 1 .nilFunc rfl); (have z1 := (forms_ret w).frozen 1); (have r2 := (forms_ret w).cell 2 .nilFunc rfl); (have z2 := (forms_ret w).frozen 2); (have r3 := (forms_ret w).cell 3 .nilFunc rfl); (have z3 := (forms_ret w).frozen 3); (have HB := Lib.hid (forms_below w)); generalize formsW w = w2 at *)
    (try simp only [Exit.inBlock, Exit.then])
    refine bodyPost_ret (v := .tuple #[.agg #[.nilFunc, .nilFunc, .nilFunc, .nilFunc], .bool false]) ?_ rfl ?_
    · rw [results_cell_tmp rfl]
      go_simp
    · exact ⟨rfl, by (repeat' (first | exact HB.out | refine Below.setCell ?_ (by simp) _))⟩
end Go.Proofs.YtkdpcnikgdbmaaaGreatDoor.Hp
