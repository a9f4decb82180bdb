/-
  Slices of entries that are read; what Sums does; the laws' sanity.
-/
import Derived.Test.YtbpehdpcnnaidaaDoorRs
import Derived.Test.YtbpehdpcnnaidaaDoorAa
import Derived.Deep.Draws
namespace Go.Proofs.YtbpehdpcnnaidaaDoor.Ac
open Go Go.RowKit

theorem sums_lit (A : Option Addr) (es : List En) (l c B : Nat) (n : Int) (w : World) (hl : es.length = l) (h : Se w B A es) (hB : B ≤ w.heap.size) (hf : Few es) (hn : I64 n) (ys : List Int) (hy : sumsL es n = ys) :
    Calls Tryd.prog 12 #[.slice A l c, .int .i64 n] w fun e w' => ∃ D d, e = .returned (.slice D ys.length d) ∧ Hid (OwnI w' w.heap.size (.slice D ys.length d) ys ∧ Sl w' w'.heap.size D ys ∧ Below w.heap.size w w') := by
  subst hl
  refine (sums_any A es c B n w h hB hf hn).mono ?_
  rintro e w' ⟨v, rfl, ho, hb⟩
  rw [hy] at ho
  obtain ⟨D, d, rfl, hs⟩ := ho.form
  exact ⟨D, d, rfl, ho, hs, hb⟩
theorem spend_lit (A : Option Addr) (zs : List Int) (l c B : Nat) (k m : Int) (w : World) (hl : zs.length = l) (h : Sl w B A zs) (hB : B ≤ w.heap.size) (hn : zs.length ≤ 17592186044404) (hk : I64 k) (hm : I64 m) (hz : ∀ z ∈ zs, I64 z) (b : Bool) (ys : List Int) (hb : okB zs k m = b) (hy : afterL zs k m = ys) :
    Calls Tryd.prog 9 #[.slice A l c, .int .i64 k, .int .i64 m] w fun e w' => ∃ D d, e = .returned (.tuple #[.slice D ys.length d, .bool b]) ∧ Hid (OwnI w' w.heap.size (.slice D ys.length d) ys ∧ Sl w' w'.heap.size D ys ∧ Below w.heap.size w w') := by
  subst hl
  refine (spend_any A zs c B k m w h hB hn hk hm hz).mono ?_
  rintro e w' ⟨v, rfl, ho, hb'⟩
  rw [hy] at ho
  obtain ⟨D, d, rfl, hs⟩ := ho.form
  exact ⟨D, d, by rw [hb], ho, hs, hb'⟩
theorem equal_lit (A D : Option Addr) (zs ys : List Int) (l m c d B : Nat) (w : World) (hl : zs.length = l) (hl' : ys.length = m) (h : Sl w B A zs) (h' : Sl w B D ys) (hm : zs.length ≤ 17592186044404) (hm' : ys.length ≤ 17592186044404) (b : Bool) (hb : decide (zs = ys) = b) :
    Calls Tryd.prog 13 #[.slice A l c, .slice D m d] w fun e w' => e = .returned (.bool b) ∧ ∃ n, w' = w.drewN n := by
  subst hl hl' hb
  exact equal_any A D zs ys c d B w h h' hm hm'
/-- A new block of ints. -/
theorem Sl.new (w : World) (zs : List Int) (B : Nat) (hB : w.heap.size < B) : Sl (w.alloc (.cells (zs.map (Value.int .i64)).toArray 3)) B (some ⟨w.heap.size, 0, none⟩) zs := fun j z hz => by
  refine ⟨_, rfl, hB, ?_⟩
  have e : (⟨w.heap.size, 0, none⟩ : Addr).add j = ⟨w.heap.size, j, none⟩ := by unfold Addr.add; split <;> simp_all
  rw [e, World.cell?_alloc_new, List.getElem?_toArray, List.getElem?_map, hz]; rfl
theorem due_lit (s e : Int) (w : World) (b : Bool) (hs : I64 s) (he : I64 e) (hb : dueB s e = b) : Calls Tryd.prog 10 #[.int .i64 s, .int .i64 e] w fun r w' => r = .returned (.bool b) ∧ w = w' := by
  subst hb; exact due_any s e hs he w
theorem within_lit (f s e n : Int) (w : World) (b : Bool) (hf : I64 f) (hs : I64 s) (he : I64 e) (hn : I64 n) (hb : withinB f s e n = b) : Calls Tryd.prog 11 #[.int .i64 f, .int .i64 s, .int .i64 e, .int .i64 n] w fun r w' => r = .returned (.bool b) ∧ w = w' := by
  subst hb; exact within_any f s e n hf hs he hn w
theorem fits_lit (u l z : Int) (w : World) (b : Bool) (hu : I64 u) (hl : I64 l) (hz : I64 z) (hb : fitsB u l z = b) : Calls Tryd.prog 14 #[.int .i64 u, .int .i64 l, .int .i64 z] w fun r w' => r = .returned (.bool b) ∧ w = w' := by
  subst hb; exact fits_any u l z hu hl hz w
theorem below_alloc {B : Nat} {a w : World} (h : Below B a w) (hB : B ≤ w.heap.size) (o : Obj) {w' : World} (h' : Below (w.alloc o).heap.size (w.alloc o) w') : Below B a w' :=
  (h.alloc hB o).trans (h'.mono (by rw [World.size_alloc]; omega))
theorem below_drewN {B : Nat} {a w : World} (h : Below B a w) (n : Nat) : Below B a (w.drewN n) := ⟨h.os, h.tape, h.output, h.size, h.block⟩
theorem Se.one (w : World) (id kind cls fn ten : Int) (nA iA : Option Addr) (nn nc m ic : Nat) (b B : Nat) (hb : w.heap.size = b) (hB : b < B) :
    Se (w.alloc (.cells #[.int .i64 id, .int .i64 kind, .int .i64 cls, .int .i64 fn, .int .i64 ten, .slice nA nn nc, .slice iA m ic] 43)) B (some ⟨b, 0, none⟩) [⟨id, kind, cls, fn, ten, nA, nn, nc, iA, m, ic⟩] := fun j f hf => by
  rcases j with _ | j
  · injection hf with hf
    subst hf hb
    refine ⟨_, rfl, hB, fun i u hu => ?_⟩
    rw [Nat.zero_mul, Nat.zero_add, World.cell?_alloc_new]
    rw [← hu]; unfold En.cells; simp
  · simp at hf
set_option maxHeartbeats 4000000 in
set_option maxRecDepth 5000 in
theorem sanity_any (w : World) : Calls Tryd.prog 4 #[] w fun e w' => e = .returned (.bool true) ∧ Below w.heap.size w w' := by
  have hmk : ∀ w : World, (Instr.makeSlice 26 (.int .i64 2) (.int .i64 2)).run Tryd.prog w = .ok (.slice (some ⟨w.heap.size, 0, none⟩) 2 2) (w.alloc (.cells #[.int .i64 0, .int .i64 0, .string ⟨#[]⟩, .int .i64 0, .int .i64 0, .string ⟨#[]⟩] 52)) := fun _ => by kernel_rfl
  go_enter Tryd.func4, Tryd.ntmps4
  go_wp2_with fail
  refine (spend_lit _ [5, 7] 2 _ (w.heap.size + 1) 1 3 _ rfl (Sl.new w [5, 7] _ (by omega)) (by simp) (by decide) ⟨by omega, by omega⟩ ⟨by omega, by omega⟩ (by intro z hz; simp at hz; rcases hz with rfl | rfl <;> exact ⟨by omega, by omega⟩) true [5, 4] (by decide) (by decide)).mono ?_
  rintro e w1 ⟨D1, d1, rfl, h1⟩
  have B1 := Lib.hid (below_alloc (Below.refl _ w) (Nat.le_refl _) _ h1.out.2.2)
  have S1 := Lib.hid h1.out.2.1
  clear h1
  go_wp2_with fail
  refine (spend_lit _ [5, 7] 2 _ (w1.heap.size + 1) 0 6 _ rfl (Sl.new w1 [5, 7] _ (by omega)) (by simp) (by decide) ⟨by omega, by omega⟩ ⟨by omega, by omega⟩ (by intro z hz; simp at hz; rcases hz with rfl | rfl <;> exact ⟨by omega, by omega⟩) false [] (by decide) (by decide)).mono ?_
  rintro e w2 ⟨D2, d2, rfl, h2⟩
  have B2 := Lib.hid (below_alloc B1.out B1.out.size _ h2.out.2.2)
  have T2 := Lib.hid (below_alloc (Below.refl _ w1) (Nat.le_refl _) _ h2.out.2.2)
  clear h2
  go_wp2_with fail
  refine (due_lit 20 10 _ true ⟨by omega, by omega⟩ ⟨by omega, by omega⟩ (by decide)).mono ?_
  rintro e w' ⟨rfl, rfl⟩
  go_wp2_with fail
  refine (due_lit 0 10 _ false ⟨by omega, by omega⟩ ⟨by omega, by omega⟩ (by decide)).mono ?_
  rintro e w' ⟨rfl, rfl⟩
  go_wp2_with fail
  refine (due_lit 20 0 _ false ⟨by omega, by omega⟩ ⟨by omega, by omega⟩ (by decide)).mono ?_
  rintro e w' ⟨rfl, rfl⟩
  go_wp2_with fail
  refine (within_lit 5 7 10 2 _ true ⟨by omega, by omega⟩ ⟨by omega, by omega⟩ ⟨by omega, by omega⟩ ⟨by omega, by omega⟩ (by decide)).mono ?_
  rintro e w' ⟨rfl, rfl⟩
  go_wp2_with fail
  refine (within_lit 5 7 10 3 _ false ⟨by omega, by omega⟩ ⟨by omega, by omega⟩ ⟨by omega, by omega⟩ ⟨by omega, by omega⟩ (by decide)).mono ?_
  rintro e w' ⟨rfl, rfl⟩
  go_wp2_with fail
  refine (within_lit 5 7 0 5 _ true ⟨by omega, by omega⟩ ⟨by omega, by omega⟩ ⟨by omega, by omega⟩ ⟨by omega, by omega⟩ (by decide)).mono ?_
  rintro e w' ⟨rfl, rfl⟩
  go_wp2_with fail
  refine (within_lit 5 7 0 6 _ false ⟨by omega, by omega⟩ ⟨by omega, by omega⟩ ⟨by omega, by omega⟩ ⟨by omega, by omega⟩ (by decide)).mono ?_
  rintro e w' ⟨rfl, rfl⟩
  go_wp2_with fail
  refine (sums_lit (some ⟨w2.heap.size + 1, 0, none⟩) [⟨1, 1, 0, 0, 1, none, 0, 0, some ⟨w2.heap.size, 0, none⟩, 2, 2⟩] 1 1 (w2.heap.size + 2) 2 _ rfl (Se.one _ 1 1 0 0 1 none (some ⟨w2.heap.size, 0, none⟩) 0 0 2 2 (w2.heap.size + 1) _ (World.size_alloc ..) (by omega)) (by simp) (Few.one _ (show (2 : Nat) ≤ 1000 by omega)) ⟨by omega, by omega⟩ [0, 32] rfl).mono ?_
  rintro e w3 ⟨D3, d3, rfl, h3⟩
  have B3 := Lib.hid (below_alloc (B2.out.alloc B2.out.size _) (by rw [World.size_alloc]; have := B2.out.size; omega) _ h3.out.2.2)
  have T3 := Lib.hid (below_alloc (T2.out.alloc T2.out.size _) (by rw [World.size_alloc]; have := T2.out.size; omega) _ h3.out.2.2)
  have S3 := Lib.hid h3.out.2.1
  have S1' := Lib.hid (S1.out.below T3.out (Nat.le_refl _))
  clear h3 S1
  go_wp2_with fail
  refine (equal_lit D1 _ [5, 4] [5, 4] 2 2 _ _ (w3.heap.size + 1) _ rfl rfl ((S1'.out.below ((Below.refl _ _).alloc (Nat.le_refl _) _) T3.out.size).up (by have := T3.out.size; omega)) (Sl.new w3 [5, 4] _ (by omega)) (by decide) (by decide) true (by decide)).mono ?_
  rintro e w' ⟨rfl, n4, rfl⟩
  go_wp2_with fail
  refine (fits_lit 100 124 24 _ true ⟨by omega, by omega⟩ ⟨by omega, by omega⟩ ⟨by omega, by omega⟩ (by decide)).mono ?_
  rintro e w' ⟨rfl, rfl⟩
  go_wp2_with fail
  refine (fits_lit 100 123 24 _ false ⟨by omega, by omega⟩ ⟨by omega, by omega⟩ ⟨by omega, by omega⟩ (by decide)).mono ?_
  rintro e w' ⟨rfl, rfl⟩
  have S3' := Lib.hid ((((S3.out.below ((Below.refl _ _).alloc (Nat.le_refl _) (.cells #[.int .i64 5, .int .i64 4] 3)) (Nat.le_refl _)).drewN n4)))
  have B4 := Lib.hid (below_drewN (B3.out.alloc B3.out.size (.cells #[.int .i64 5, .int .i64 4] 3)) n4)
  clear S3 S1' B3 T3
  obtain ⟨w4, hw4⟩ : ∃ w4 : World, w4 = (w3.alloc (.cells #[.int .i64 5, .int .i64 4] 3)).drewN n4 := ⟨_, rfl⟩
  have hsz : w3.heap.size + 1 = w4.heap.size := by rw [hw4]; simp
  rw [← hw4] at S3' B4 ⊢
  clear hw4
  have HSZ := Lib.hid hsz
  clear hsz
  go_wp2_with fail
  refine (equal_lit D3 _ [0, 32] [0, 32] 2 2 _ _ (w4.heap.size + 1) _ rfl rfl ((S3'.out.below ((Below.refl _ _).alloc (Nat.le_refl _) _) (by have := HSZ.out; omega)).up (by have := HSZ.out; omega)) (Sl.new w4 [0, 32] _ (by omega)) (by decide) (by decide) true (by decide)).mono ?_
  rintro e w' ⟨rfl, n5, rfl⟩
  go_wp2_with fail
  go_ret
  exact ⟨rfl, below_drewN (B4.out.alloc B4.out.size _) n5⟩
end Go.Proofs.YtbpehdpcnnaidaaDoor.Ac
