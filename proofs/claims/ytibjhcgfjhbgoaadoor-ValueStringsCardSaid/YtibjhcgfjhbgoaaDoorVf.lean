/-
  Contracts of the makers of operators: which map of operators each makes.
-/
import Derived.Test.YtibjhcgfjhbgoaaDoorVe
namespace Go.Proofs.YtibjhcgfjhbgoaaDoor.Va
open Go Go.RowKit Mp

def fn (k : Nat) : Value := .func (.func k) #[] #[]
def clo (k b : Nat) : Value := .func (.func k) #[] #[.pointer (some ⟨b, 0, none⟩)]
def ent (k : Int) (v : Value) (c : Nat) : MapEntry := ⟨.int .i64 k, v, c⟩
def intsE (B : Nat) : Array MapEntry := #[ent 5 (clo 56 (B + 1)) 0, ent 6 (clo 56 (B + 2)) 1, ent 7 (clo 56 (B + 3)) 2, ent 8 (clo 56 (B + 4)) 3, ent 9 (clo 56 (B + 5)) 4, ent 10 (clo 55 (B + 6)) 5, ent 11 (fn 22) 6]
structure intsAt (w : World) (B : Nat) : Prop where
  map : w.heap[B]? = some (.map (intsE B) 7)
  b1 : w.heap[B + 1]? = some (.cells #[fn 33, fn 34] 62)
  b2 : w.heap[B + 2]? = some (.cells #[fn 33, fn 36] 62)
  b3 : w.heap[B + 3]? = some (.cells #[fn 37, fn 38] 62)
  b4 : w.heap[B + 4]? = some (.cells #[fn 39, fn 40] 62)
  b5 : w.heap[B + 5]? = some (.cells #[fn 39, fn 41] 62)
  b6 : w.heap[B + 6]? = some (.cells #[fn 42] 58)
theorem intsAt.below {w w' : World} {B C : Nat} (h : intsAt w B) (hb : Below C w w') (hC : B + 7 ≤ C) : intsAt w' B :=
  ⟨(hb.block _ (by omega)).trans h.map, (hb.block _ (by omega)).trans h.b1, (hb.block _ (by omega)).trans h.b2, (hb.block _ (by omega)).trans h.b3, (hb.block _ (by omega)).trans h.b4, (hb.block _ (by omega)).trans h.b5, (hb.block _ (by omega)).trans h.b6⟩
def boolsE (B : Nat) : Array MapEntry := #[ent 12 (clo 55 (B + 1)) 0, ent 13 (clo 55 (B + 2)) 1, ent 11 (fn 22) 2]
structure boolsAt (w : World) (B : Nat) : Prop where
  map : w.heap[B]? = some (.map (boolsE B) 3)
  b1 : w.heap[B + 1]? = some (.cells #[fn 31] 58)
  b2 : w.heap[B + 2]? = some (.cells #[fn 32] 58)
theorem boolsAt.below {w w' : World} {B C : Nat} (h : boolsAt w B) (hb : Below C w w') (hC : B + 3 ≤ C) : boolsAt w' B :=
  ⟨(hb.block _ (by omega)).trans h.map, (hb.block _ (by omega)).trans h.b1, (hb.block _ (by omega)).trans h.b2⟩
def strsE (B : Nat) : Array MapEntry := #[ent 10 (clo 55 (B + 1)) 0, ent 11 (fn 22) 1, ent 14 (fn 44) 2]
structure strsAt (w : World) (B : Nat) : Prop where
  map : w.heap[B]? = some (.map (strsE B) 3)
  b1 : w.heap[B + 1]? = some (.cells #[fn 43] 58)
theorem strsAt.below {w w' : World} {B C : Nat} (h : strsAt w B) (hb : Below C w w') (hC : B + 2 ≤ C) : strsAt w' B :=
  ⟨(hb.block _ (by omega)).trans h.map, (hb.block _ (by omega)).trans h.b1⟩

theorem heap_at (w : World) (o : Obj) (n : Nat) (hn : n = w.heap.size) : (w.alloc o).heap[n]? = some o := by subst hn; unfold World.alloc; simp
theorem heap_past (w : World) (o : Obj) (n : Nat) (hn : n < w.heap.size) : (w.alloc o).heap[n]? = w.heap[n]? := Below.heap_alloc w o n hn
theorem operator_any (x y : Value) (w : World) :
    Calls Tryd.prog 35 #[.agg #[x, y]] w fun e w' => e = .returned (.func (.func 56) #[] #[.pointer (some ⟨w.heap.size, 0, none⟩)]) ∧ w.alloc (.cells #[x, y] 62) = w' := by
  go_enter Tryd.func35, Tryd.ntmps35
  go_wp2
  go_ret
  exact ⟨rfl, rfl⟩
set_option maxRecDepth 3000 in
theorem ints_any (w : World) :
    Calls Tryd.prog 20 #[] w fun e w' => e = .returned (.map (some w.heap.size)) ∧ intsAt w' w.heap.size ∧ Below w.heap.size w w' := by
  have hmm := @run_makeMap Tryd.prog
  have ri := fun (w : World) (b : Nat) (k : Int) (v : Value) => run_ins_if (P := Tryd.prog) Tryd.underlying43 Tryd.underlying3 w b k v
  go_enter Tryd.func20, Tryd.ntmps20
  go_wp2_with (first | (go_at_call 30; refine (relation_any _ _ rfl _).mono ?_; rintro e w' ⟨rfl, rfl⟩) | (go_at_call 35; refine (operator_any _ _ _).mono ?_; rintro e w' ⟨rfl, rfl⟩))
  go_ret
  exact ⟨rfl, ⟨by rw [heap_past _ _ _ (by simp only [World.size_alloc]; omega), heap_past _ _ _ (by simp only [World.size_alloc]; omega), heap_past _ _ _ (by simp only [World.size_alloc]; omega), heap_past _ _ _ (by simp only [World.size_alloc]; omega), heap_past _ _ _ (by simp only [World.size_alloc]; omega), heap_past _ _ _ (by simp only [World.size_alloc]; omega), heap_at _ _ _ (by first | rfl | simp only [World.size_alloc])]; rfl, by rw [heap_past _ _ _ (by simp only [World.size_alloc]; omega), heap_past _ _ _ (by simp only [World.size_alloc]; omega), heap_past _ _ _ (by simp only [World.size_alloc]; omega), heap_past _ _ _ (by simp only [World.size_alloc]; omega), heap_past _ _ _ (by simp only [World.size_alloc]; omega), heap_at _ _ _ (by first | rfl | simp only [World.size_alloc])]; rfl, by rw [heap_past _ _ _ (by simp only [World.size_alloc]; omega), heap_past _ _ _ (by simp only [World.size_alloc]; omega), heap_past _ _ _ (by simp only [World.size_alloc]; omega), heap_past _ _ _ (by simp only [World.size_alloc]; omega), heap_at _ _ _ (by first | rfl | simp only [World.size_alloc])]; rfl, by rw [heap_past _ _ _ (by simp only [World.size_alloc]; omega), heap_past _ _ _ (by simp only [World.size_alloc]; omega), heap_past _ _ _ (by simp only [World.size_alloc]; omega), heap_at _ _ _ (by first | rfl | simp only [World.size_alloc])]; rfl, by rw [heap_past _ _ _ (by simp only [World.size_alloc]; omega), heap_past _ _ _ (by simp only [World.size_alloc]; omega), heap_at _ _ _ (by first | rfl | simp only [World.size_alloc])]; rfl, by rw [heap_past _ _ _ (by simp only [World.size_alloc]; omega), heap_at _ _ _ (by first | rfl | simp only [World.size_alloc])]; rfl, by rw [heap_at _ _ _ (by first | rfl | simp only [World.size_alloc])]; rfl⟩, (((((((Below.refl w.heap.size w).alloc (Nat.le_refl _) _).alloc (by simp only [World.size_alloc]; omega) _).alloc (by simp only [World.size_alloc]; omega) _).alloc (by simp only [World.size_alloc]; omega) _).alloc (by simp only [World.size_alloc]; omega) _).alloc (by simp only [World.size_alloc]; omega) _).alloc (by simp only [World.size_alloc]; omega) _⟩
set_option maxRecDepth 3000 in
theorem bools_any (w : World) :
    Calls Tryd.prog 19 #[] w fun e w' => e = .returned (.map (some w.heap.size)) ∧ boolsAt w' w.heap.size ∧ Below w.heap.size w w' := by
  have hmm := @run_makeMap Tryd.prog
  have ri := fun (w : World) (b : Nat) (k : Int) (v : Value) => run_ins_if (P := Tryd.prog) Tryd.underlying43 Tryd.underlying3 w b k v
  go_enter Tryd.func19, Tryd.ntmps19
  go_wp2_with (first | (go_at_call 30; refine (relation_any _ _ rfl _).mono ?_; rintro e w' ⟨rfl, rfl⟩) | (go_at_call 35; refine (operator_any _ _ _).mono ?_; rintro e w' ⟨rfl, rfl⟩))
  go_ret
  exact ⟨rfl, ⟨by rw [heap_past _ _ _ (by simp only [World.size_alloc]; omega), heap_past _ _ _ (by simp only [World.size_alloc]; omega), heap_at _ _ _ (by first | rfl | simp only [World.size_alloc])]; rfl, by rw [heap_past _ _ _ (by simp only [World.size_alloc]; omega), heap_at _ _ _ (by first | rfl | simp only [World.size_alloc])]; rfl, by rw [heap_at _ _ _ (by first | rfl | simp only [World.size_alloc])]; rfl⟩, (((Below.refl w.heap.size w).alloc (Nat.le_refl _) _).alloc (by simp only [World.size_alloc]; omega) _).alloc (by simp only [World.size_alloc]; omega) _⟩
set_option maxRecDepth 3000 in
theorem strs_any (w : World) :
    Calls Tryd.prog 21 #[] w fun e w' => e = .returned (.map (some w.heap.size)) ∧ strsAt w' w.heap.size ∧ Below w.heap.size w w' := by
  have hmm := @run_makeMap Tryd.prog
  have ri := fun (w : World) (b : Nat) (k : Int) (v : Value) => run_ins_if (P := Tryd.prog) Tryd.underlying43 Tryd.underlying3 w b k v
  go_enter Tryd.func21, Tryd.ntmps21
  go_wp2_with (first | (go_at_call 30; refine (relation_any _ _ rfl _).mono ?_; rintro e w' ⟨rfl, rfl⟩) | (go_at_call 35; refine (operator_any _ _ _).mono ?_; rintro e w' ⟨rfl, rfl⟩))
  go_ret
  exact ⟨rfl, ⟨by rw [heap_past _ _ _ (by simp only [World.size_alloc]; omega), heap_at _ _ _ (by first | rfl | simp only [World.size_alloc])]; rfl, by rw [heap_at _ _ _ (by first | rfl | simp only [World.size_alloc])]; rfl⟩, ((Below.refl w.heap.size w).alloc (Nat.le_refl _) _).alloc (by simp only [World.size_alloc]; omega) _⟩
end Go.Proofs.YtibjhcgfjhbgoaaDoor.Va
