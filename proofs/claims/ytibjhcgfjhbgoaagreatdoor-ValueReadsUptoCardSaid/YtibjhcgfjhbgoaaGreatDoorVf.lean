/-
  Contracts of the makers of operators: which map of operators each makes.
-/
import Derived.Test.YtibjhcgfjhbgoaaGreatDoorVe
namespace Go.Proofs.YtibjhcgfjhbgoaaGreatDoor.Va
open Go Go.RowKit Mp

def fn (k : Nat) : Value := .func (.func k) #[] #[]
def clo (k b : Nat) : Value := .func (.func k) #[] #[.pointer (some ⟨b, 0, none⟩)]
def ent (k : Int) (v : Value) (c : Nat) : MapEntry := ⟨.int .i64 k, v, c⟩
def intsE (B : Nat) : Array MapEntry := #[ent 5 (clo 99 (B + 1)) 0, ent 6 (clo 99 (B + 2)) 1, ent 7 (clo 99 (B + 3)) 2, ent 8 (clo 99 (B + 4)) 3, ent 9 (clo 99 (B + 5)) 4, ent 10 (clo 98 (B + 6)) 5, ent 11 (fn 54) 6]
structure intsAt (w : World) (B : Nat) : Prop where
  map : w.heap[B]? = some (.map (intsE B) 7)
  b1 : w.heap[B + 1]? = some (.cells #[fn 73, fn 74] 94)
  b2 : w.heap[B + 2]? = some (.cells #[fn 73, fn 76] 94)
  b3 : w.heap[B + 3]? = some (.cells #[fn 77, fn 78] 94)
  b4 : w.heap[B + 4]? = some (.cells #[fn 79, fn 80] 94)
  b5 : w.heap[B + 5]? = some (.cells #[fn 79, fn 81] 94)
  b6 : w.heap[B + 6]? = some (.cells #[fn 82] 91)
theorem intsAt.below {w w' : World} {B C : Nat} (h : intsAt w B) (hb : Below C w w') (hC : B + 7 ≤ C) : intsAt w' B :=
  ⟨(hb.block _ (by omega)).trans h.map, (hb.block _ (by omega)).trans h.b1, (hb.block _ (by omega)).trans h.b2, (hb.block _ (by omega)).trans h.b3, (hb.block _ (by omega)).trans h.b4, (hb.block _ (by omega)).trans h.b5, (hb.block _ (by omega)).trans h.b6⟩
def boolsE (B : Nat) : Array MapEntry := #[ent 12 (clo 98 (B + 1)) 0, ent 13 (clo 98 (B + 2)) 1, ent 11 (fn 54) 2]
structure boolsAt (w : World) (B : Nat) : Prop where
  map : w.heap[B]? = some (.map (boolsE B) 3)
  b1 : w.heap[B + 1]? = some (.cells #[fn 71] 91)
  b2 : w.heap[B + 2]? = some (.cells #[fn 72] 91)
theorem boolsAt.below {w w' : World} {B C : Nat} (h : boolsAt w B) (hb : Below C w w') (hC : B + 3 ≤ C) : boolsAt w' B :=
  ⟨(hb.block _ (by omega)).trans h.map, (hb.block _ (by omega)).trans h.b1, (hb.block _ (by omega)).trans h.b2⟩
def strsE (B : Nat) : Array MapEntry := #[ent 10 (clo 98 (B + 1)) 0, ent 11 (fn 54) 1, ent 14 (fn 84) 2]
structure strsAt (w : World) (B : Nat) : Prop where
  map : w.heap[B]? = some (.map (strsE B) 3)
  b1 : w.heap[B + 1]? = some (.cells #[fn 83] 91)
theorem strsAt.below {w w' : World} {B C : Nat} (h : strsAt w B) (hb : Below C w w') (hC : B + 2 ≤ C) : strsAt w' B :=
  ⟨(hb.block _ (by omega)).trans h.map, (hb.block _ (by omega)).trans h.b1⟩

theorem heap_at (w : World) (o : Obj) (n : Nat) (hn : n = w.heap.size) : (w.alloc o).heap[n]? = some o := by subst hn; unfold World.alloc; simp
theorem heap_past (w : World) (o : Obj) (n : Nat) (hn : n < w.heap.size) : (w.alloc o).heap[n]? = w.heap[n]? := Below.heap_alloc w o n hn
theorem operator_any (x y : Value) (w : World) :
    Calls Tryz.prog 75 #[.agg #[x, y]] w fun e w' => e = .returned (.func (.func 99) #[] #[.pointer (some ⟨w.heap.size, 0, none⟩)]) ∧ w.alloc (.cells #[x, y] 94) = w' := by
  go_enter Tryz.func75, Tryz.ntmps75
  go_wp2
  go_ret
  exact ⟨rfl, rfl⟩
set_option maxRecDepth 3000 in
theorem ints_any (w : World) :
    Calls Tryz.prog 52 #[] w fun e w' => e = .returned (.map (some w.heap.size)) ∧ intsAt w' w.heap.size ∧ Below w.heap.size w w' := by
  have hmm := @run_makeMap Tryz.prog
  have ri := fun (w : World) (b : Nat) (k : Int) (v : Value) => run_ins_if (P := Tryz.prog) Tryz.underlying62 Tryz.underlying3 w b k v
  go_enter Tryz.func52, Tryz.ntmps52
  go_wp2_with (first | (go_at_call 70; refine (relation_any _ _ rfl _).mono ?_; rintro e w' ⟨rfl, rfl⟩) | (go_at_call 75; refine (operator_any _ _ _).mono ?_; rintro e w' ⟨rfl, rfl⟩))
  go_ret
  exact ⟨rfl, ⟨by rw [heap_past _ _ _ (by simp only [World.size_alloc]; omega), heap_past _ _ _ (by simp only [World.size_alloc]; omega), heap_past _ _ _ (by simp only [World.size_alloc]; omega), heap_past _ _ _ (by simp only [World.size_alloc]; omega), heap_past _ _ _ (by simp only [World.size_alloc]; omega), heap_past _ _ _ (by simp only [World.size_alloc]; omega), heap_at _ _ _ (by first | rfl | simp only [World.size_alloc])]; rfl, by rw [heap_past _ _ _ (by simp only [World.size_alloc]; omega), heap_past _ _ _ (by simp only [World.size_alloc]; omega), heap_past _ _ _ (by simp only [World.size_alloc]; omega), heap_past _ _ _ (by simp only [World.size_alloc]; omega), heap_past _ _ _ (by simp only [World.size_alloc]; omega), heap_at _ _ _ (by first | rfl | simp only [World.size_alloc])]; rfl, by rw [heap_past _ _ _ (by simp only [World.size_alloc]; omega), heap_past _ _ _ (by simp only [World.size_alloc]; omega), heap_past _ _ _ (by simp only [World.size_alloc]; omega), heap_past _ _ _ (by simp only [World.size_alloc]; omega), heap_at _ _ _ (by first | rfl | simp only [World.size_alloc])]; rfl, by rw [heap_past _ _ _ (by simp only [World.size_alloc]; omega), heap_past _ _ _ (by simp only [World.size_alloc]; omega), heap_past _ _ _ (by simp only [World.size_alloc]; omega), heap_at _ _ _ (by first | rfl | simp only [World.size_alloc])]; rfl, by rw [heap_past _ _ _ (by simp only [World.size_alloc]; omega), heap_past _ _ _ (by simp only [World.size_alloc]; omega), heap_at _ _ _ (by first | rfl | simp only [World.size_alloc])]; rfl, by rw [heap_past _ _ _ (by simp only [World.size_alloc]; omega), heap_at _ _ _ (by first | rfl | simp only [World.size_alloc])]; rfl, by rw [heap_at _ _ _ (by first | rfl | simp only [World.size_alloc])]; rfl⟩, (((((((Below.refl w.heap.size w).alloc (Nat.le_refl _) _).alloc (by simp only [World.size_alloc]; omega) _).alloc (by simp only [World.size_alloc]; omega) _).alloc (by simp only [World.size_alloc]; omega) _).alloc (by simp only [World.size_alloc]; omega) _).alloc (by simp only [World.size_alloc]; omega) _).alloc (by simp only [World.size_alloc]; omega) _⟩
set_option maxRecDepth 3000 in
theorem bools_any (w : World) :
    Calls Tryz.prog 51 #[] w fun e w' => e = .returned (.map (some w.heap.size)) ∧ boolsAt w' w.heap.size ∧ Below w.heap.size w w' := by
  have hmm := @run_makeMap Tryz.prog
  have ri := fun (w : World) (b : Nat) (k : Int) (v : Value) => run_ins_if (P := Tryz.prog) Tryz.underlying62 Tryz.underlying3 w b k v
  go_enter Tryz.func51, Tryz.ntmps51
  go_wp2_with (first | (go_at_call 70; refine (relation_any _ _ rfl _).mono ?_; rintro e w' ⟨rfl, rfl⟩) | (go_at_call 75; refine (operator_any _ _ _).mono ?_; rintro e w' ⟨rfl, rfl⟩))
  go_ret
  exact ⟨rfl, ⟨by rw [heap_past _ _ _ (by simp only [World.size_alloc]; omega), heap_past _ _ _ (by simp only [World.size_alloc]; omega), heap_at _ _ _ (by first | rfl | simp only [World.size_alloc])]; rfl, by rw [heap_past _ _ _ (by simp only [World.size_alloc]; omega), heap_at _ _ _ (by first | rfl | simp only [World.size_alloc])]; rfl, by rw [heap_at _ _ _ (by first | rfl | simp only [World.size_alloc])]; rfl⟩, (((Below.refl w.heap.size w).alloc (Nat.le_refl _) _).alloc (by simp only [World.size_alloc]; omega) _).alloc (by simp only [World.size_alloc]; omega) _⟩
set_option maxRecDepth 3000 in
theorem strs_any (w : World) :
    Calls Tryz.prog 53 #[] w fun e w' => e = .returned (.map (some w.heap.size)) ∧ strsAt w' w.heap.size ∧ Below w.heap.size w w' := by
  have hmm := @run_makeMap Tryz.prog
  have ri := fun (w : World) (b : Nat) (k : Int) (v : Value) => run_ins_if (P := Tryz.prog) Tryz.underlying62 Tryz.underlying3 w b k v
  go_enter Tryz.func53, Tryz.ntmps53
  go_wp2_with (first | (go_at_call 70; refine (relation_any _ _ rfl _).mono ?_; rintro e w' ⟨rfl, rfl⟩) | (go_at_call 75; refine (operator_any _ _ _).mono ?_; rintro e w' ⟨rfl, rfl⟩))
  go_ret
  exact ⟨rfl, ⟨by rw [heap_past _ _ _ (by simp only [World.size_alloc]; omega), heap_at _ _ _ (by first | rfl | simp only [World.size_alloc])]; rfl, by rw [heap_at _ _ _ (by first | rfl | simp only [World.size_alloc])]; rfl⟩, ((Below.refl w.heap.size w).alloc (Nat.le_refl _) _).alloc (by simp only [World.size_alloc]; omega) _⟩
end Go.Proofs.YtibjhcgfjhbgoaaGreatDoor.Va
