/-
  Contracts of the reference's Binary and what it calls: they compute what package value computes.
-/
import Derived.Test.YtibjhcgfjhbgoaaGreatDoorRr
import Derived.Test.YtibjhcgfjhbgoaaGreatDoorSx
import Derived.Test.YtibjhcgfjhbgoaaGreatDoorTr
import Derived.IntWalk
import Derived.Deep.QuietTactic
import Derived.BigQuiet
namespace Go.Proofs.YtibjhcgfjhbgoaaGreatDoor.Va
open Go Go.RowKit Mp

theorem setr {w w1 : World} (g1 : Below w.heap.size w w1) (b : Nat) (hb : w.heap.size ≤ b) (y0 y1 y2 : Value) : Below w.heap.size w (((w1.setCell ⟨b, 0, none⟩ y0).setCell ⟨b, 1, none⟩ y1).setCell ⟨b, 2, none⟩ y2) :=
  ((g1.setCell (p := ⟨b, 0, none⟩) hb _).setCell (p := ⟨b, 1, none⟩) hb _).setCell (p := ⟨b, 2, none⟩) hb _
theorem Sx.res {W : World} {L : List (Nat × Array Value × TypeId)} {w : World} (h : Sx W L w) (b : Nat) (x y z : Value) (T : TypeId) (hp : (b, #[x, y, z], T) ∈ L) :
    w.cell? ⟨b, 0, none⟩ = some x ∧ w.cell? ⟨b, 1, none⟩ = some y ∧ w.cell? ⟨b, 2, none⟩ = some z ∧ (∀ j, w.frozen? ⟨b, j, none⟩ = false) ∧ b < w.heap.size := (h.own _ hp).facts
theorem refStr_any (s : ByteArray) (w : World) :
    Calls Tryz.prog 58 #[.string s] w fun e w' => e = .returned (vv 4 0 s) ∧ Below w.heap.size w w' := by
  go_enter Tryz.func58, Tryz.ntmps58
  go_wp2
  exact bodyPost_ret (v := vv 4 0 s) (by simp [results, Tryz.results58, go_sem, vv]) rfl ⟨rfl, (Below.refl _ _).alloc (Nat.le_refl _) _⟩
/-- What a walk carries that needs no variables. -/
structure Sx0 (W : World) (L : List (Nat × Array Value × TypeId)) (w : World) : Prop where
  be : Below W.heap.size W w
  own : ∀ p, p ∈ L → Own w p.1 p.2.1 p.2.2
theorem Sx0.init (W : World) : Sx0 W [] W := ⟨Below.refl _ _, fun _ h => by cases h⟩
theorem Sx0.step {W : World} {L : List (Nat × Array Value × TypeId)} {w w' : World} (h : Sx0 W L w) (hb : Below w.heap.size w w') : Sx0 W L w' :=
  ⟨h.be.trans (hb.mono h.be.size), fun p hp => (h.own p hp).below hb (h.own p hp).lt⟩
theorem Sx0.add {W : World} {L : List (Nat × Array Value × TypeId)} {w : World} (h : Sx0 W L w) (c : Array Value) (T : TypeId) : Sx0 W ((w.heap.size, c, T) :: L) (w.alloc (.cells c T)) := by
  have hb : Below w.heap.size w (w.alloc (.cells c T)) := (Below.refl _ _).alloc (Nat.le_refl _) _
  refine ⟨h.be.trans (hb.mono h.be.size), fun p hp => ?_⟩
  rcases List.mem_cons.1 hp with rfl | hp
  · exact Own.new _ _ _
  · exact (h.own p hp).below hb (h.own p hp).lt
theorem Sx0.res {W : World} {L : List (Nat × Array Value × TypeId)} {w : World} (h : Sx0 W L w) (b : Nat) (x y z : Value) (T : TypeId) (hp : (b, #[x, y, z], T) ∈ L) :
    w.cell? ⟨b, 0, none⟩ = some x ∧ w.cell? ⟨b, 1, none⟩ = some y ∧ w.cell? ⟨b, 2, none⟩ = some z ∧ (∀ j, w.frozen? ⟨b, j, none⟩ = false) ∧ b < w.heap.size := (h.own _ hp).facts
set_option maxRecDepth 3000 in
theorem refWithin_no (n : Int) (w : World) (h : ok15 n = false) :
    Calls Tryz.prog 55 #[.int .i64 n] w fun e w' => e = .returned (.tuple #[zv, .string rangeS]) ∧ Below w.heap.size w w' := by
  have hk : n < -1000000000000000 ∨ (-1000000000000000 ≤ n ∧ 1000000000000000 < n) := by unfold ok15 at h; simp at h; omega
  clear h
  rcases hk with h | ⟨h, h'⟩
  all_goals
    go_enter Tryz.func55, Tryz.ntmps55
    go_wp2_with fail
    exact bodyPost_ret (v := .tuple #[zv, .string rangeS]) (by simp [results, Tryz.results55, go_sem, vv, es, zv, rangeS]) rfl ⟨rfl, (Below.refl w.heap.size w).alloc (Nat.le_refl _) _⟩
set_option maxRecDepth 3000 in
theorem refWithin_yes (n : Int) (w : World) (h : ok15 n = true) :
    Calls Tryz.prog 55 #[.int .i64 n] w fun e w' => e = .returned (.tuple #[vv 3 n es, .string es]) ∧ Below w.heap.size w w' := by
  obtain ⟨h1, h2⟩ : -1000000000000000 ≤ n ∧ n ≤ 1000000000000000 := by unfold ok15 at h; simpa using h
  clear h
  have hs := Lib.hid ((Sx0.init w).add #[.int .i64 0, .int .i64 0, .string ⟨#[]⟩] 23)
  go_enter Tryz.func55, Tryz.ntmps55
  go_wp2_with fail
  refine (refInt_any _ _).mono ?_
  rintro e w1 ⟨rfl, hb⟩
  replace hs := Lib.hid (hs.out.step hb)
  clear hb
  obtain ⟨k0, k1, k2, kf, kz⟩ := hs.out.res _ _ _ _ _ (.head _)
  unfold vv es
  go_wp2_with fail
  exact bodyPost_ret (v := .tuple #[vv 3 n es, .string es]) (by simp [results, Tryz.results55, go_sem, vv, es, k0, k1, k2]) rfl ⟨rfl, setr hs.out.be _ (by first | exact Nat.le_refl _ | (simp; done) | (simp only [World.size_alloc]; omega)) _ _ _⟩
theorem refWithin_any (n : Int) (w : World) : Calls Tryz.prog 55 #[.int .i64 n] w (Gives (within3 n) w) := by
  unfold within3
  cases h : ok15 n
  · rw [if_neg (by simp)]; exact refWithin_no n w h
  · rw [if_pos rfl]; exact refWithin_yes n w h
set_option maxRecDepth 3000 in
theorem refProduct_zero (a b : Int) (w : World) (h : a = 0 ∨ b = 0) :
    Calls Tryz.prog 56 #[.int .i64 a, .int .i64 b] w fun e w' => e = .returned (.tuple #[vv 3 0 es, .string es]) ∧ Below w.heap.size w w' := by
  have hk : (a == 0) = true ∨ (a == 0) = false ∧ (b == 0) = true := by simp; omega
  clear h
  have hs := Lib.hid ((Sx0.init w).add #[.int .i64 0, .int .i64 0, .string ⟨#[]⟩] 23)
  rcases hk with h | ⟨h, h'⟩
  all_goals
    go_enter Tryz.func56, Tryz.ntmps56
    go_wp2_with fail
    refine (refInt_any _ _).mono ?_
    rintro e w1 ⟨rfl, hb⟩
    replace hs := Lib.hid (hs.out.step hb)
    clear hb
    obtain ⟨k0, k1, k2, kf, kz⟩ := hs.out.res _ _ _ _ _ (.head _)
    unfold vv es
    go_wp2_with fail
    exact bodyPost_ret (v := .tuple #[vv 3 0 es, .string es]) (by simp [results, Tryz.results56, go_sem, vv, es, k0, k1, k2]) rfl ⟨rfl, setr hs.out.be _ (by first | exact Nat.le_refl _ | (simp; done) | (simp only [World.size_alloc]; omega)) _ _ _⟩
set_option maxRecDepth 3000 in
theorem refProduct_no (a b : Int) (w : World) (ha : -1000000000000000 ≤ a ∧ a ≤ 1000000000000000) (hb : -1000000000000000 ≤ b ∧ b ≤ 1000000000000000) (h0 : a ≠ 0 ∧ b ≠ 0) (h : 1000000000000000 / (b.natAbs : Int) < (a.natAbs : Int)) :
    Calls Tryz.prog 56 #[.int .i64 a, .int .i64 b] w fun e w' => e = .returned (.tuple #[zv, .string rangeS]) ∧ Below w.heap.size w w' := by
  obtain ⟨a1, a2⟩ := ha
  obtain ⟨b1, b2⟩ := hb
  have e1 : (a == 0) = false := by simpa using h0.1
  have e2 : (b == 0) = false := by simpa using h0.2
  have hb0 := h0.2
  clear h0
  rw [show (a.natAbs : Int) = max a (-a) by omega, show (b.natAbs : Int) = max b (-b) by omega] at h
  have hm : 0 < max b (-b) := by omega
  clear hb0
  go_enter Tryz.func56, Tryz.ntmps56
  go_wp2_with fail
  exact bodyPost_ret (v := .tuple #[zv, .string rangeS]) (by simp [results, Tryz.results56, go_sem, vv, es, zv, rangeS]) rfl ⟨rfl, (Below.refl w.heap.size w).alloc (Nat.le_refl _) _⟩
set_option maxRecDepth 3000 in
theorem refProduct_yes (a b : Int) (w : World) (ha : -1000000000000000 ≤ a ∧ a ≤ 1000000000000000) (hb : -1000000000000000 ≤ b ∧ b ≤ 1000000000000000) (h0 : a ≠ 0 ∧ b ≠ 0) (h : (a.natAbs : Int) ≤ 1000000000000000 / (b.natAbs : Int)) (hp : ok15 (a * b) = true) :
    Calls Tryz.prog 56 #[.int .i64 a, .int .i64 b] w fun e w' => e = .returned (.tuple #[vv 3 (a * b) es, .string es]) ∧ Below w.heap.size w w' := by
  obtain ⟨a1, a2⟩ := ha
  obtain ⟨b1, b2⟩ := hb
  have e1 : (a == 0) = false := by simpa using h0.1
  have e2 : (b == 0) = false := by simpa using h0.2
  have hb0 := h0.2
  obtain ⟨p1, p2⟩ : -1000000000000000 ≤ a * b ∧ a * b ≤ 1000000000000000 := by unfold ok15 at hp; simpa using hp
  clear h0 hp
  have hs := Lib.hid ((Sx0.init w).add #[.int .i64 0, .int .i64 0, .string ⟨#[]⟩] 23)
  rw [show (a.natAbs : Int) = max a (-a) by omega, show (b.natAbs : Int) = max b (-b) by omega] at h
  have hm : 0 < max b (-b) := by omega
  clear hb0
  go_enter Tryz.func56, Tryz.ntmps56
  go_wp2_with fail
  refine (refInt_any _ _).mono ?_
  rintro e w1 ⟨rfl, hb⟩
  replace hs := Lib.hid (hs.out.step hb)
  clear hb
  obtain ⟨k0, k1, k2, kf, kz⟩ := hs.out.res _ _ _ _ _ (.head _)
  unfold vv es
  go_wp2_with fail
  exact bodyPost_ret (v := .tuple #[vv 3 (a * b) es, .string es]) (by simp [results, Tryz.results56, go_sem, vv, es, k0, k1, k2]) rfl ⟨rfl, setr hs.out.be _ (by first | exact Nat.le_refl _ | (simp; done) | (simp only [World.size_alloc]; omega)) _ _ _⟩
set_option maxRecDepth 3000 in
theorem refInts_add (a b : Int) (w : World) (ha : -1000000000000000 ≤ a ∧ a ≤ 1000000000000000) (hb : -1000000000000000 ≤ b ∧ b ≤ 1000000000000000) : Calls Tryz.prog 38 #[.int .i64 5, .int .i64 a, .int .i64 b] w (Gives (within3 (a + b)) w) := by
  have C := Lib.hid (fun w => refWithin_any (a + b) w)
  generalize within3 (a + b) = r at *
  obtain ⟨⟨p, q, s⟩, f⟩ := r
  obtain ⟨a1, a2⟩ := ha
  obtain ⟨b1, b2⟩ := hb
  have hs := Lib.hid ((Sx0.init w).add #[.int .i64 0, .int .i64 0, .string ⟨#[]⟩] 23)
  go_enter Tryz.func38, Tryz.ntmps38
  go_wp2_with fail
  refine (C.out _).mono ?_
  rintro e w1 ⟨rfl, hb⟩
  replace hs := Lib.hid (hs.out.step hb)
  clear hb
  obtain ⟨k0, k1, k2, kf, kz⟩ := hs.out.res _ _ _ _ _ (.head _)
  unfold V3.val vv
  simp only
  go_wp2_with fail
  exact bodyPost_ret (v := .tuple #[vv p q s, .string f]) (by simp [results, Tryz.results38, go_sem, vv, k0, k1, k2]) rfl ⟨rfl, setr hs.out.be _ (by first | exact Nat.le_refl _ | (simp; done) | (simp only [World.size_alloc]; omega)) _ _ _⟩
set_option maxRecDepth 3000 in
theorem refInts_sub (a b : Int) (w : World) (ha : -1000000000000000 ≤ a ∧ a ≤ 1000000000000000) (hb : -1000000000000000 ≤ b ∧ b ≤ 1000000000000000) : Calls Tryz.prog 38 #[.int .i64 6, .int .i64 a, .int .i64 b] w (Gives (within3 (a - b)) w) := by
  have C := Lib.hid (fun w => refWithin_any (a - b) w)
  generalize within3 (a - b) = r at *
  obtain ⟨⟨p, q, s⟩, f⟩ := r
  obtain ⟨a1, a2⟩ := ha
  obtain ⟨b1, b2⟩ := hb
  have hs := Lib.hid ((Sx0.init w).add #[.int .i64 0, .int .i64 0, .string ⟨#[]⟩] 23)
  go_enter Tryz.func38, Tryz.ntmps38
  go_wp2_with fail
  refine (C.out _).mono ?_
  rintro e w1 ⟨rfl, hb⟩
  replace hs := Lib.hid (hs.out.step hb)
  clear hb
  obtain ⟨k0, k1, k2, kf, kz⟩ := hs.out.res _ _ _ _ _ (.head _)
  unfold V3.val vv
  simp only
  go_wp2_with fail
  exact bodyPost_ret (v := .tuple #[vv p q s, .string f]) (by simp [results, Tryz.results38, go_sem, vv, k0, k1, k2]) rfl ⟨rfl, setr hs.out.be _ (by first | exact Nat.le_refl _ | (simp; done) | (simp only [World.size_alloc]; omega)) _ _ _⟩
theorem refProduct_any (a b : Int) (w : World) (ha : -1000000000000000 ≤ a ∧ a ≤ 1000000000000000) (hb : -1000000000000000 ≤ b ∧ b ≤ 1000000000000000) : Calls Tryz.prog 56 #[.int .i64 a, .int .i64 b] w (Gives (ints3 7 a b) w) := by
  unfold ints3
  rw [if_neg (by decide), if_neg (by decide), if_pos rfl]
  by_cases h0 : b = 0
  · rw [if_pos h0]; exact refProduct_zero a b w (.inr h0)
  rw [if_neg h0]
  by_cases ha0 : a = 0
  · subst ha0
    rw [if_pos (show ((0 : Int).natAbs : Int) ≤ 1000000000000000 / (b.natAbs : Int) from Int.ediv_nonneg (by decide) (by omega)), Int.zero_mul]
    exact refProduct_zero 0 b w (.inl rfl)
  by_cases hl : (a.natAbs : Int) ≤ 1000000000000000 / (b.natAbs : Int)
  · rw [if_pos hl]; exact refProduct_yes a b w ha hb ⟨ha0, h0⟩ hl (ok_mul h0 hl)
  · rw [if_neg hl]; exact refProduct_no a b w ha hb ⟨ha0, h0⟩ (by omega)
set_option maxRecDepth 3000 in
theorem refInts_mul (a b : Int) (w : World) (ha : -1000000000000000 ≤ a ∧ a ≤ 1000000000000000) (hb : -1000000000000000 ≤ b ∧ b ≤ 1000000000000000) : Calls Tryz.prog 38 #[.int .i64 7, .int .i64 a, .int .i64 b] w (Gives (ints3 7 a b) w) := by
  have C := Lib.hid (fun w => refProduct_any a b w ha hb)
  generalize ints3 7 a b = r at *
  obtain ⟨⟨p, q, s⟩, f⟩ := r
  obtain ⟨a1, a2⟩ := ha
  obtain ⟨b1, b2⟩ := hb
  have hs := Lib.hid ((Sx0.init w).add #[.int .i64 0, .int .i64 0, .string ⟨#[]⟩] 23)
  go_enter Tryz.func38, Tryz.ntmps38
  go_wp2_with fail
  refine (C.out _).mono ?_
  rintro e w1 ⟨rfl, hb⟩
  replace hs := Lib.hid (hs.out.step hb)
  clear hb
  obtain ⟨k0, k1, k2, kf, kz⟩ := hs.out.res _ _ _ _ _ (.head _)
  unfold V3.val vv
  simp only
  go_wp2_with fail
  exact bodyPost_ret (v := .tuple #[vv p q s, .string f]) (by simp [results, Tryz.results38, go_sem, vv, k0, k1, k2]) rfl ⟨rfl, setr hs.out.be _ (by first | exact Nat.le_refl _ | (simp; done) | (simp only [World.size_alloc]; omega)) _ _ _⟩
set_option maxRecDepth 3000 in
theorem refInts_less (a b : Int) (w : World) (ha : -1000000000000000 ≤ a ∧ a ≤ 1000000000000000) (hb : -1000000000000000 ≤ b ∧ b ≤ 1000000000000000) : Calls Tryz.prog 38 #[.int .i64 10, .int .i64 a, .int .i64 b] w fun e w' => e = .returned (.tuple #[tv (decide (a < b)), .string es]) ∧ Below w.heap.size w w' := by
  obtain ⟨a1, a2⟩ := ha
  obtain ⟨b1, b2⟩ := hb
  have hs := Lib.hid ((Sx0.init w).add #[.int .i64 0, .int .i64 0, .string ⟨#[]⟩] 23)
  go_enter Tryz.func38, Tryz.ntmps38
  go_wp2_with fail
  refine (refBool_any _ _).mono ?_
  rintro e w1 ⟨rfl, hb⟩
  replace hs := Lib.hid (hs.out.step hb)
  clear hb
  obtain ⟨k0, k1, k2, kf, kz⟩ := hs.out.res _ _ _ _ _ (.head _)
  unfold tv vv es
  go_wp2_with fail
  exact bodyPost_ret (v := .tuple #[tv (decide (a < b)), .string es]) (by simp [results, Tryz.results38, go_sem, tv, vv, es, k0, k1, k2]) rfl ⟨rfl, setr hs.out.be _ (by first | exact Nat.le_refl _ | (simp; done) | (simp only [World.size_alloc]; omega)) _ _ _⟩
set_option maxRecDepth 3000 in
theorem refInts_div_no (a b : Int) (w : World) (ha : -1000000000000000 ≤ a ∧ a ≤ 1000000000000000) (hb : -1000000000000000 ≤ b ∧ b ≤ 1000000000000000) (h : b = 0) : Calls Tryz.prog 38 #[.int .i64 8, .int .i64 a, .int .i64 b] w fun e w' => e = .returned (.tuple #[zv, .string zeroS]) ∧ Below w.heap.size w w' := by
  obtain ⟨a1, a2⟩ := ha
  obtain ⟨b1, b2⟩ := hb
  subst h
  have hs := Lib.hid ((Sx0.init w).add #[.int .i64 0, .int .i64 0, .string ⟨#[]⟩] 23)
  go_enter Tryz.func38, Tryz.ntmps38
  go_wp2_with fail
  exact bodyPost_ret (v := .tuple #[zv, .string zeroS]) (by simp [results, Tryz.results38, go_sem, vv, es, zv, zeroS]) rfl ⟨rfl, (Below.refl w.heap.size w).alloc (Nat.le_refl _) _⟩
set_option maxRecDepth 3000 in
theorem refInts_mod_no (a b : Int) (w : World) (ha : -1000000000000000 ≤ a ∧ a ≤ 1000000000000000) (hb : -1000000000000000 ≤ b ∧ b ≤ 1000000000000000) (h : b = 0) : Calls Tryz.prog 38 #[.int .i64 9, .int .i64 a, .int .i64 b] w fun e w' => e = .returned (.tuple #[zv, .string zeroS]) ∧ Below w.heap.size w w' := by
  obtain ⟨a1, a2⟩ := ha
  obtain ⟨b1, b2⟩ := hb
  subst h
  have hs := Lib.hid ((Sx0.init w).add #[.int .i64 0, .int .i64 0, .string ⟨#[]⟩] 23)
  go_enter Tryz.func38, Tryz.ntmps38
  go_wp2_with fail
  exact bodyPost_ret (v := .tuple #[zv, .string zeroS]) (by simp [results, Tryz.results38, go_sem, vv, es, zv, zeroS]) rfl ⟨rfl, (Below.refl w.heap.size w).alloc (Nat.le_refl _) _⟩
set_option maxRecDepth 3000 in
theorem refInts_div_yes (a b : Int) (w : World) (ha : -1000000000000000 ≤ a ∧ a ≤ 1000000000000000) (hb : -1000000000000000 ≤ b ∧ b ≤ 1000000000000000) (h : b ≠ 0) : Calls Tryz.prog 38 #[.int .i64 8, .int .i64 a, .int .i64 b] w fun e w' => e = .returned (.tuple #[vv 3 (a.tdiv b) es, .string es]) ∧ Below w.heap.size w w' := by
  obtain ⟨a1, a2⟩ := ha
  obtain ⟨b1, b2⟩ := hb
  have hok : ok15 (a.tdiv b) = true := ok_div b ⟨a1, a2⟩
  obtain ⟨d1, d2⟩ : -1000000000000000 ≤ a.tdiv b ∧ a.tdiv b ≤ 1000000000000000 := by unfold ok15 at hok; simpa using hok
  have e2 : (b == 0) = false := by simpa using h
  clear hok
  have hs := Lib.hid ((Sx0.init w).add #[.int .i64 0, .int .i64 0, .string ⟨#[]⟩] 23)
  go_enter Tryz.func38, Tryz.ntmps38
  go_wp2_with fail
  refine (refInt_any _ _).mono ?_
  rintro e w1 ⟨rfl, hb⟩
  replace hs := Lib.hid (hs.out.step hb)
  clear hb
  obtain ⟨k0, k1, k2, kf, kz⟩ := hs.out.res _ _ _ _ _ (.head _)
  unfold vv es
  go_wp2_with fail
  exact bodyPost_ret (v := .tuple #[vv 3 (a.tdiv b) es, .string es]) (by simp [results, Tryz.results38, go_sem, vv, es, k0, k1, k2]) rfl ⟨rfl, setr hs.out.be _ (by first | exact Nat.le_refl _ | (simp; done) | (simp only [World.size_alloc]; omega)) _ _ _⟩
set_option maxRecDepth 3000 in
theorem refInts_mod_yes (a b : Int) (w : World) (ha : -1000000000000000 ≤ a ∧ a ≤ 1000000000000000) (hb : -1000000000000000 ≤ b ∧ b ≤ 1000000000000000) (h : b ≠ 0) : Calls Tryz.prog 38 #[.int .i64 9, .int .i64 a, .int .i64 b] w fun e w' => e = .returned (.tuple #[vv 3 (a.tmod b) es, .string es]) ∧ Below w.heap.size w w' := by
  obtain ⟨a1, a2⟩ := ha
  obtain ⟨b1, b2⟩ := hb
  have hok : ok15 (a.tdiv b) = true := ok_div b ⟨a1, a2⟩
  have hom : ok15 (a.tmod b) = true := ok_mod b ⟨a1, a2⟩
  obtain ⟨d1, d2⟩ : -1000000000000000 ≤ a.tdiv b ∧ a.tdiv b ≤ 1000000000000000 := by unfold ok15 at hok; simpa using hok
  obtain ⟨m1, m2⟩ : -1000000000000000 ≤ a.tmod b ∧ a.tmod b ≤ 1000000000000000 := by unfold ok15 at hom; simpa using hom
  have hda := Int.mul_tdiv_add_tmod a b
  have p1 : -2000000000000000 ≤ b * a.tdiv b := by omega
  have p2 : b * a.tdiv b ≤ 2000000000000000 := by omega
  have hm : a - b * a.tdiv b = a.tmod b := by omega
  have q1 : -1000000000000000 ≤ a - b * a.tdiv b := by omega
  have q2 : a - b * a.tdiv b ≤ 1000000000000000 := by omega
  have e2 : (b == 0) = false := by simpa using h
  have HM := Lib.hid hm
  clear hok hom hda hm m1 m2
  rw [← HM.out]
  have hs := Lib.hid ((Sx0.init w).add #[.int .i64 0, .int .i64 0, .string ⟨#[]⟩] 23)
  go_enter Tryz.func38, Tryz.ntmps38
  go_wp2_with fail
  refine (refInt_any _ _).mono ?_
  rintro e w1 ⟨rfl, hb⟩
  replace hs := Lib.hid (hs.out.step hb)
  clear hb
  obtain ⟨k0, k1, k2, kf, kz⟩ := hs.out.res _ _ _ _ _ (.head _)
  unfold vv es
  go_wp2_with fail
  exact bodyPost_ret (v := .tuple #[vv 3 (a - b * a.tdiv b) es, .string es]) (by simp [results, Tryz.results38, go_sem, vv, es, k0, k1, k2]) rfl ⟨rfl, setr hs.out.be _ (by first | exact Nat.le_refl _ | (simp; done) | (simp only [World.size_alloc]; omega)) _ _ _⟩
set_option maxRecDepth 3000 in
theorem refInts_other (op a b : Int) (w : World) (h5 : op ≠ 5) (h6 : op ≠ 6) (h7 : op ≠ 7) (h8 : op ≠ 8) (h9 : op ≠ 9) (h10 : op ≠ 10) : Calls Tryz.prog 38 #[.int .i64 op, .int .i64 a, .int .i64 b] w fun e w' => e = .returned (.tuple #[zv, .string typeS]) ∧ Below w.heap.size w w' := by
  have e5 : (op == 5) = false := by simpa using h5
  have e6 : (op == 6) = false := by simpa using h6
  have e7 : (op == 7) = false := by simpa using h7
  have e8 : (op == 8) = false := by simpa using h8
  have e9 : (op == 9) = false := by simpa using h9
  have e10 : (op == 10) = false := by simpa using h10
  clear h5 h6 h7 h8 h9 h10
  go_enter Tryz.func38, Tryz.ntmps38
  go_wp2_with fail
  exact bodyPost_ret (v := .tuple #[zv, .string typeS]) (by simp [results, Tryz.results38, go_sem, vv, es, zv, typeS]) rfl ⟨rfl, (Below.refl w.heap.size w).alloc (Nat.le_refl _) _⟩
theorem refInts_any (op a b : Int) (w : World) (ha : -1000000000000000 ≤ a ∧ a ≤ 1000000000000000) (hb : -1000000000000000 ≤ b ∧ b ≤ 1000000000000000) : Calls Tryz.prog 38 #[.int .i64 op, .int .i64 a, .int .i64 b] w (Gives (ints3 op a b) w) := by
  by_cases h5 : op = 5
  · subst h5; exact refInts_add a b w ha hb
  by_cases h6 : op = 6
  · subst h6; exact refInts_sub a b w ha hb
  by_cases h7 : op = 7
  · subst h7; exact refInts_mul a b w ha hb
  by_cases h8 : op = 8
  · subst h8
    by_cases h0 : b = 0
    · rw [show ints3 8 a b = (z3, zeroS) by unfold ints3; rw [if_neg (by decide), if_neg (by decide), if_neg (by decide), if_pos rfl, if_pos h0]]
      exact refInts_div_no a b w ha hb h0
    · rw [show ints3 8 a b = (i3 (a.tdiv b), es) by unfold ints3; rw [if_neg (by decide), if_neg (by decide), if_neg (by decide), if_pos rfl, if_neg h0]]
      exact refInts_div_yes a b w ha hb h0
  by_cases h9 : op = 9
  · subst h9
    by_cases h0 : b = 0
    · rw [show ints3 9 a b = (z3, zeroS) by unfold ints3; rw [if_neg (by decide), if_neg (by decide), if_neg (by decide), if_neg (by decide), if_pos rfl, if_pos h0]]
      exact refInts_mod_no a b w ha hb h0
    · rw [show ints3 9 a b = (i3 (a.tmod b), es) by unfold ints3; rw [if_neg (by decide), if_neg (by decide), if_neg (by decide), if_neg (by decide), if_pos rfl, if_neg h0]]
      exact refInts_mod_yes a b w ha hb h0
  by_cases h10 : op = 10
  · subst h10
    rw [show ints3 10 a b = (b3 (decide (a < b)), es) by unfold ints3; rw [if_neg (by decide), if_neg (by decide), if_neg (by decide), if_neg (by decide), if_neg (by decide), if_pos rfl]]
    exact refInts_less a b w ha hb
  · rw [show ints3 op a b = (z3, typeS) by unfold ints3; rw [if_neg h5, if_neg h6, if_neg h7, if_neg h8, if_neg h9, if_neg h10]]
    exact refInts_other op a b w h5 h6 h7 h8 h9 h10
theorem less_step (a b : ByteArray) (k : Nat) (ha : k < a.size) (hb : k < b.size) (he : a[k] = b[k]) : Op.bytesLess (a.data.toList.drop k) (b.data.toList.drop k) = Op.bytesLess (a.data.toList.drop (k + 1)) (b.data.toList.drop (k + 1)) := by
  rw [drop_data a k ha, drop_data b k hb, he]
  have hi : ¬ b[k] < b[k] := UInt8.lt_irrefl _
  simp [Op.bytesLess]
theorem less_stop (a b : ByteArray) (k : Nat) (ha : k < a.size) (hb : k < b.size) (he : a[k] ≠ b[k]) : Op.bytesLess (a.data.toList.drop k) (b.data.toList.drop k) = decide ((a[k].toNat : Int) < b[k].toNat) := by
  rw [drop_data a k ha, drop_data b k hb]
  have hi : (a[k] == b[k]) = false := by simpa using he
  simp only [Op.bytesLess, hi, Bool.false_and, Bool.or_false]
  rw [Bool.eq_iff_iff]
  simp [UInt8.lt_iff_toNat_lt]
theorem less_end (a b : ByteArray) (k : Nat) (hk : k ≤ a.size) (hk' : k ≤ b.size) (h : k = a.size ∨ k = b.size) : Op.bytesLess (a.data.toList.drop k) (b.data.toList.drop k) = decide ((a.size : Int) < b.size) := by
  have la : a.data.toList.length = a.size := Array.length_toList
  have lb : b.data.toList.length = b.size := Array.length_toList
  rcases h with h | h
  · have e : a.data.toList.drop k = [] := List.drop_of_length_le (by omega)
    rw [e]
    by_cases hb : k < b.size
    · rw [drop_data b k hb]
      have : (a.size : Int) < b.size := by omega
      simp [Op.bytesLess, this]
    · have e' : b.data.toList.drop k = [] := List.drop_of_length_le (by omega)
      rw [e']
      have : ¬ (a.size : Int) < b.size := by omega
      simp [Op.bytesLess, this]
  · have e : b.data.toList.drop k = [] := List.drop_of_length_le (by omega)
    rw [e]
    have : ¬ (a.size : Int) < b.size := by omega
    simp [Op.bytesLess, this]
theorem below_drewN {B : Nat} {a w : World} (h : Below B a w) (n : Nat) : Below B a (w.drewN n) := ⟨h.os, h.tape, h.output, h.size, h.block⟩
theorem refBefore_any (a b : ByteArray) (ha : a.size ≤ maxLen) (_hb : b.size ≤ maxLen) (w : World) :
    Calls Tryz.prog 57 #[.string a, .string b] w fun e w' => e = .returned (.bool (Op.bytesLess a.data.toList b.data.toList)) ∧ Below w.heap.size w w' := by
  unfold maxLen at ha
  go_enter Tryz.func57, Tryz.ntmps57
  go_wp2_with fail
  go_loopw [5] (fun i wr => ∃ k : Nat, k ≤ a.size ∧ k ≤ b.size ∧ i = .int .i64 k ∧ Hid (Op.bytesLess a.data.toList b.data.toList = Op.bytesLess (a.data.toList.drop k) (b.data.toList.drop k)) ∧ Hid (Below w.heap.size w wr)) (fun i _ => a.size - (intOf i).toNat)
  case atStart => exact ⟨0, Nat.zero_le _, Nat.zero_le _, rfl, Lib.hid (by simp), Lib.hid (Below.refl _ _)⟩
  case round =>
    obtain ⟨k, hk, hk', rfl, hr, hB⟩ := hrel
    by_cases h1 : k < a.size
    · by_cases h2 : k < b.size
      · have i1 : (0 : Int) ≤ k := by omega
        have i2 : (k : Int) < a.size := by omega
        have i3 : (k : Int) < b.size := by omega
        by_cases he : a[k] = b[k]
        · have hs := Lib.hid (less_step a b k h1 h2 he)
          have hne : ((a[k].toNat : Int) != (b[k].toNat : Int)) = false := by rw [he]; simp
          clear he
          go_wp2_with fail
          go_quiet (fail)
          go_wp2_with fail
          refine ⟨⟨k + 1, by omega, by omega, by go_num, Lib.hid (hr.out.trans hs.out), Lib.hid ?_⟩, ?_⟩
          · first | exact below_drewN hB.out _ | exact hB.out
          · simp [intOf]; omega
        · have hs := Lib.hid (less_stop a b k h1 h2 he)
          have hne : ((a[k].toNat : Int) != (b[k].toNat : Int)) = true := bne_iff_ne.2 (fun h => he (UInt8.toNat_inj.1 (by exact_mod_cast h)))
          clear he
          go_wp2_with fail
          go_quiet (fail)
          go_wp2_with fail
          go_quiet (fail)
          go_wp2_with fail
          go_ret
          refine ⟨ret_bool (by rw [hr.out, hs.out]; simp), ?_⟩
          first | exact below_drewN hB.out _ | exact below_drewN (below_drewN hB.out _) _
      · have hs := Lib.hid (less_end a b k hk hk' (.inr (by omega)))
        go_wp2_with fail
        go_ret
        exact ⟨ret_bool (by rw [hr.out, hs.out]; simp), hB.out⟩
    · have hs := Lib.hid (less_end a b k hk hk' (.inl (by omega)))
      go_wp2_with fail
      go_ret
      exact ⟨ret_bool (by rw [hr.out, hs.out]; simp), hB.out⟩
set_option maxRecDepth 3000 in
theorem refStrings_less (a b : ByteArray) (w : World) (ha : a.size ≤ 200) (hb : b.size ≤ 200) : Calls Tryz.prog 39 #[.int .i64 10, .string a, .string b] w fun e w' => e = .returned (.tuple #[tv (Op.bytesLess a.data.toList b.data.toList), .string es]) ∧ Below w.heap.size w w' := by
  have hs := Lib.hid ((Sx0.init w).add #[.int .i64 0, .int .i64 0, .string ⟨#[]⟩] 23)
  have C := Lib.hid (fun w => refBefore_any a b (by unfold maxLen; omega) (by unfold maxLen; omega) w)
  clear ha hb
  generalize Op.bytesLess a.data.toList b.data.toList = l at *
  go_enter Tryz.func39, Tryz.ntmps39
  go_wp2_with fail
  refine (C.out _).mono ?_
  rintro e w1 ⟨rfl, hb⟩
  replace hs := Lib.hid (hs.out.step hb)
  clear hb
  go_wp2_with fail
  refine (refBool_any _ _).mono ?_
  rintro e w2 ⟨rfl, hb⟩
  replace hs := Lib.hid (hs.out.step hb)
  clear hb
  obtain ⟨k0, k1, k2, kf, kz⟩ := hs.out.res _ _ _ _ _ (.head _)
  unfold tv vv es
  go_wp2_with fail
  exact bodyPost_ret (v := .tuple #[tv l, .string es]) (by simp [results, Tryz.results39, go_sem, tv, vv, es, k0, k1, k2]) rfl ⟨rfl, setr hs.out.be _ (by first | exact Nat.le_refl _ | (simp; done) | (simp only [World.size_alloc]; omega)) _ _ _⟩
set_option maxRecDepth 3000 in
theorem refStrings_other (op : Int) (a b : ByteArray) (w : World) (_ha : a.size ≤ 200) (_hb : b.size ≤ 200) (h10 : op ≠ 10) (h14 : op ≠ 14) : Calls Tryz.prog 39 #[.int .i64 op, .string a, .string b] w fun e w' => e = .returned (.tuple #[zv, .string typeS]) ∧ Below w.heap.size w w' := by
  have e1 : (op == 10) = false := by simpa using h10
  have e2 : (op != 14) = true := by simpa using h14
  clear _ha _hb h10 h14
  go_enter Tryz.func39, Tryz.ntmps39
  go_wp2_with fail
  exact bodyPost_ret (v := .tuple #[zv, .string typeS]) (by simp [results, Tryz.results39, go_sem, vv, es, zv, typeS]) rfl ⟨rfl, (Below.refl w.heap.size w).alloc (Nat.le_refl _) _⟩
set_option maxRecDepth 3000 in
theorem refStrings_no (a b : ByteArray) (w : World) (ha : a.size ≤ 200) (hb : b.size ≤ 200) (h : ¬ a.size + b.size ≤ 200) : Calls Tryz.prog 39 #[.int .i64 14, .string a, .string b] w fun e w' => e = .returned (.tuple #[zv, .string rangeS]) ∧ Below w.heap.size w w' := by
  have h1 : 200 < (a.size : Int) + b.size := by omega
  have a1 : (a.size : Int) ≤ 200 := by omega
  have b1 : (b.size : Int) ≤ 200 := by omega
  clear h
  go_enter Tryz.func39, Tryz.ntmps39
  go_wp2_with fail
  exact bodyPost_ret (v := .tuple #[zv, .string rangeS]) (by simp [results, Tryz.results39, go_sem, vv, es, zv, rangeS]) rfl ⟨rfl, (Below.refl w.heap.size w).alloc (Nat.le_refl _) _⟩
set_option maxRecDepth 3000 in
theorem refStrings_yes (a b : ByteArray) (w : World) (ha : a.size ≤ 200) (hb : b.size ≤ 200) (h : a.size + b.size ≤ 200) : Calls Tryz.prog 39 #[.int .i64 14, .string a, .string b] w fun e w' => e = .returned (.tuple #[vv 4 0 (a ++ b), .string es]) ∧ Below w.heap.size w w' := by
  have hs := Lib.hid ((Sx0.init w).add #[.int .i64 0, .int .i64 0, .string ⟨#[]⟩] 23)
  have h1 : (a.size : Int) + b.size ≤ 200 := by omega
  go_enter Tryz.func39, Tryz.ntmps39
  go_wp2_with fail
  refine (refStr_any _ _).mono ?_
  rintro e w1 ⟨rfl, hb⟩
  replace hs := Lib.hid (hs.out.step hb)
  clear hb
  obtain ⟨k0, k1, k2, kf, kz⟩ := hs.out.res _ _ _ _ _ (.head _)
  unfold vv
  go_wp2_with fail
  exact bodyPost_ret (v := .tuple #[vv 4 0 (a ++ b), .string es]) (by simp [results, Tryz.results39, go_sem, vv, es, k0, k1, k2]) rfl ⟨rfl, setr hs.out.be _ (by first | exact Nat.le_refl _ | (simp; done) | (simp only [World.size_alloc]; omega)) _ _ _⟩
theorem refStrings_any (op : Int) (a b : ByteArray) (w : World) (ha : a.size ≤ 200) (hb : b.size ≤ 200) : Calls Tryz.prog 39 #[.int .i64 op, .string a, .string b] w (Gives (strs3 op a b) w) := by
  unfold strs3
  by_cases h10 : op = 10
  · subst h10; rw [if_pos rfl]; exact refStrings_less a b w ha hb
  rw [if_neg h10]
  by_cases h14 : op = 14
  · subst h14
    rw [if_pos rfl]
    by_cases h : a.size + b.size ≤ 200
    · rw [if_pos h]; exact refStrings_yes a b w ha hb h
    · rw [if_neg h]; exact refStrings_no a b w ha hb h
  rw [if_neg h14]
  exact refStrings_other op a b w ha hb h10 h14
theorem facts2 {n : Int} {s : ByteArray} (h : rightB 2 n s = true) : (0 ≤ n ∧ n ≤ 1) ∧ True := by
  unfold rightB bndB at h; simp at h; exact ⟨by omega, trivial⟩
set_option maxRecDepth 5000 in
theorem refBinary_unset (op ka na kb nb : Int) (sa sb : ByteArray) (w : World) (h : (ka == 0) = true ∨ (ka == 0) = false ∧ (kb == 0) = true) :
    Calls Tryz.prog 17 #[.int .i64 op, vv ka na sa, vv kb nb sb] w fun e w' => e = .returned (.tuple #[zv, .string unsetS]) ∧ Below w.heap.size w w' := by
  unfold vv
  rcases h with h | ⟨h, h'⟩
  all_goals
    go_enter Tryz.func17, Tryz.ntmps17
    go_wp2_with fail
    exact bodyPost_ret (v := .tuple #[zv, .string unsetS]) (by simp [results, Tryz.results17, go_sem, vv, es, zv, unsetS]) rfl ⟨rfl, below3 _ _ _ _⟩
set_option maxRecDepth 5000 in
theorem refBinary_wrong_a (op ka na kb nb : Int) (rb : Bool) (sa sb : ByteArray) (w : World) (hma : sa.size ≤ maxLen) (hmb : sb.size ≤ maxLen) (ha0 : (ka == 0) = false) (hb0 : (kb == 0) = false) (ha : rightB ka na sa = false) (hb : rightB kb nb sb = rb) :
    Calls Tryz.prog 17 #[.int .i64 op, vv ka na sa, vv kb nb sb] w fun e w' => e = .returned (.tuple #[zv, .string typeS]) ∧ Below w.heap.size w w' := by
  have CA := Lib.hid (fun w => refRight_at ka na sa false ha hma w)
  have CB := Lib.hid (fun w => refRight_at kb nb sb rb hb hmb w)
  clear ha hb hma hmb
  have hs := Lib.hid ((((Sx0.init w).add #[.int .i64 ka, .int .i64 na, .string sa] 23).add #[.int .i64 kb, .int .i64 nb, .string sb] 23).add #[.int .i64 0, .int .i64 0, .string ⟨#[]⟩] 23)
  unfold vv
  go_enter Tryz.func17, Tryz.ntmps17
  go_wp2_with fail
  refine (CA.out _).mono ?_
  rintro e x1 ⟨rfl, hb⟩
  replace hs := Lib.hid (hs.out.step hb)
  clear hb
  obtain ⟨b0, b1, b2, _, _⟩ := hs.out.res _ _ _ _ _ (.tail _ (.head _))
  simp only [World.size_alloc] at b0 b1 b2
  go_wp2_with fail
  refine (CB.out _).mono ?_
  rintro e x2 ⟨rfl, hb⟩
  replace hs := Lib.hid (hs.out.step hb)
  clear hb b0 b1 b2
  obtain ⟨a0, a1, a2, _, _⟩ := hs.out.res _ _ _ _ _ (.tail _ (.tail _ (.head _)))
  obtain ⟨b0, b1, b2, _, _⟩ := hs.out.res _ _ _ _ _ (.tail _ (.head _))
  obtain ⟨k0, k1, k2, kf, kz⟩ := hs.out.res _ _ _ _ _ (.head _)
  simp only [World.size_alloc] at a0 a1 a2 b0 b1 b2 k0 k1 k2 kf kz
  go_wp2_with fail
  exact bodyPost_ret (v := .tuple #[zv, .string typeS]) (by simp [results, Tryz.results17, go_sem, vv, es, zv, typeS, k0, k1, k2]) rfl ⟨rfl, setr hs.out.be _ (by omega) _ _ _⟩
set_option maxRecDepth 5000 in
theorem refBinary_wrong_b (op ka na kb nb : Int) (sa sb : ByteArray) (w : World) (hma : sa.size ≤ maxLen) (hmb : sb.size ≤ maxLen) (ha0 : (ka == 0) = false) (hb0 : (kb == 0) = false) (ha : rightB ka na sa = true) (hb : rightB kb nb sb = false) :
    Calls Tryz.prog 17 #[.int .i64 op, vv ka na sa, vv kb nb sb] w fun e w' => e = .returned (.tuple #[zv, .string typeS]) ∧ Below w.heap.size w w' := by
  have CA := Lib.hid (fun w => refRight_at ka na sa true ha hma w)
  have CB := Lib.hid (fun w => refRight_at kb nb sb false hb hmb w)
  clear ha hb hma hmb
  have hs := Lib.hid ((((Sx0.init w).add #[.int .i64 ka, .int .i64 na, .string sa] 23).add #[.int .i64 kb, .int .i64 nb, .string sb] 23).add #[.int .i64 0, .int .i64 0, .string ⟨#[]⟩] 23)
  unfold vv
  go_enter Tryz.func17, Tryz.ntmps17
  go_wp2_with fail
  refine (CA.out _).mono ?_
  rintro e x1 ⟨rfl, hb⟩
  replace hs := Lib.hid (hs.out.step hb)
  clear hb
  obtain ⟨b0, b1, b2, _, _⟩ := hs.out.res _ _ _ _ _ (.tail _ (.head _))
  simp only [World.size_alloc] at b0 b1 b2
  go_wp2_with fail
  refine (CB.out _).mono ?_
  rintro e x2 ⟨rfl, hb⟩
  replace hs := Lib.hid (hs.out.step hb)
  clear hb b0 b1 b2
  obtain ⟨a0, a1, a2, _, _⟩ := hs.out.res _ _ _ _ _ (.tail _ (.tail _ (.head _)))
  obtain ⟨b0, b1, b2, _, _⟩ := hs.out.res _ _ _ _ _ (.tail _ (.head _))
  obtain ⟨k0, k1, k2, kf, kz⟩ := hs.out.res _ _ _ _ _ (.head _)
  simp only [World.size_alloc] at a0 a1 a2 b0 b1 b2 k0 k1 k2 kf kz
  go_wp2_with fail
  exact bodyPost_ret (v := .tuple #[zv, .string typeS]) (by simp [results, Tryz.results17, go_sem, vv, es, zv, typeS, k0, k1, k2]) rfl ⟨rfl, setr hs.out.be _ (by omega) _ _ _⟩
set_option maxRecDepth 5000 in
theorem refBinary_equal (ka na kb nb : Int) (sa sb : ByteArray) (w : World) (hma : sa.size ≤ maxLen) (hmb : sb.size ≤ maxLen) (ha0 : (ka == 0) = false) (hb0 : (kb == 0) = false) (ha : rightB ka na sa = true) (hb : rightB kb nb sb = true) :
    Calls Tryz.prog 17 #[.int .i64 11, vv ka na sa, vv kb nb sb] w fun e w' => e = .returned (.tuple #[tv (veq ka na kb nb sa sb), .string es]) ∧ Below w.heap.size w w' := by
  have hq := run_veq ka na kb nb sa sb
  generalize veq ka na kb nb sa sb = b at *
  have CA := Lib.hid (fun w => refRight_at ka na sa true ha hma w)
  have CB := Lib.hid (fun w => refRight_at kb nb sb true hb hmb w)
  clear ha hb hma hmb
  have hs := Lib.hid ((((Sx0.init w).add #[.int .i64 ka, .int .i64 na, .string sa] 23).add #[.int .i64 kb, .int .i64 nb, .string sb] 23).add #[.int .i64 0, .int .i64 0, .string ⟨#[]⟩] 23)
  unfold vv
  go_enter Tryz.func17, Tryz.ntmps17
  go_wp2_with fail
  refine (CA.out _).mono ?_
  rintro e x1 ⟨rfl, hb⟩
  replace hs := Lib.hid (hs.out.step hb)
  clear hb
  obtain ⟨b0, b1, b2, _, _⟩ := hs.out.res _ _ _ _ _ (.tail _ (.head _))
  simp only [World.size_alloc] at b0 b1 b2
  go_wp2_with fail
  refine (CB.out _).mono ?_
  rintro e x2 ⟨rfl, hb⟩
  replace hs := Lib.hid (hs.out.step hb)
  clear hb b0 b1 b2
  obtain ⟨a0, a1, a2, _, _⟩ := hs.out.res _ _ _ _ _ (.tail _ (.tail _ (.head _)))
  obtain ⟨b0, b1, b2, _, _⟩ := hs.out.res _ _ _ _ _ (.tail _ (.head _))
  obtain ⟨k0, k1, k2, kf, kz⟩ := hs.out.res _ _ _ _ _ (.head _)
  simp only [World.size_alloc] at a0 a1 a2 b0 b1 b2 k0 k1 k2 kf kz
  go_wp2_with fail
  clear a0 a1 a2 b0 b1 b2 k0 k1 k2 kf kz
  refine (refBool_any _ _).mono ?_
  rintro e x3 ⟨rfl, hb⟩
  replace hs := Lib.hid (hs.out.step hb)
  clear hb
  obtain ⟨k0, k1, k2, kf, kz⟩ := hs.out.res _ _ _ _ _ (.head _)
  simp only [World.size_alloc] at k0 k1 k2 kf kz
  unfold tv vv es
  go_wp2_with fail
  exact bodyPost_ret (v := .tuple #[tv b, .string es]) (by simp [results, Tryz.results17, go_sem, vv, es, tv, k0, k1, k2]) rfl ⟨rfl, setr hs.out.be _ (by omega) _ _ _⟩
set_option maxRecDepth 5000 in
theorem refBinary_apart (op ka na kb nb : Int) (sa sb : ByteArray) (w : World) (hma : sa.size ≤ maxLen) (hmb : sb.size ≤ maxLen) (ha0 : (ka == 0) = false) (hb0 : (kb == 0) = false) (ha : rightB ka na sa = true) (hb : rightB kb nb sb = true) (h11 : (op == 11) = false) (hk : (ka != kb) = true) :
    Calls Tryz.prog 17 #[.int .i64 op, vv ka na sa, vv kb nb sb] w fun e w' => e = .returned (.tuple #[zv, .string typeS]) ∧ Below w.heap.size w w' := by
  have CA := Lib.hid (fun w => refRight_at ka na sa true ha hma w)
  have CB := Lib.hid (fun w => refRight_at kb nb sb true hb hmb w)
  clear ha hb hma hmb
  have hs := Lib.hid ((((Sx0.init w).add #[.int .i64 ka, .int .i64 na, .string sa] 23).add #[.int .i64 kb, .int .i64 nb, .string sb] 23).add #[.int .i64 0, .int .i64 0, .string ⟨#[]⟩] 23)
  unfold vv
  go_enter Tryz.func17, Tryz.ntmps17
  go_wp2_with fail
  refine (CA.out _).mono ?_
  rintro e x1 ⟨rfl, hb⟩
  replace hs := Lib.hid (hs.out.step hb)
  clear hb
  obtain ⟨b0, b1, b2, _, _⟩ := hs.out.res _ _ _ _ _ (.tail _ (.head _))
  simp only [World.size_alloc] at b0 b1 b2
  go_wp2_with fail
  refine (CB.out _).mono ?_
  rintro e x2 ⟨rfl, hb⟩
  replace hs := Lib.hid (hs.out.step hb)
  clear hb b0 b1 b2
  obtain ⟨a0, a1, a2, _, _⟩ := hs.out.res _ _ _ _ _ (.tail _ (.tail _ (.head _)))
  obtain ⟨b0, b1, b2, _, _⟩ := hs.out.res _ _ _ _ _ (.tail _ (.head _))
  obtain ⟨k0, k1, k2, kf, kz⟩ := hs.out.res _ _ _ _ _ (.head _)
  simp only [World.size_alloc] at a0 a1 a2 b0 b1 b2 k0 k1 k2 kf kz
  go_wp2_with fail
  exact bodyPost_ret (v := .tuple #[zv, .string typeS]) (by simp [results, Tryz.results17, go_sem, vv, es, zv, typeS, k0, k1, k2]) rfl ⟨rfl, setr hs.out.be _ (by omega) _ _ _⟩
set_option maxRecDepth 5000 in
theorem refBinary_kind (op ka na nb : Int) (sa sb : ByteArray) (w : World) (hma : sa.size ≤ maxLen) (hmb : sb.size ≤ maxLen) (ha0 : (ka == 0) = false) (ha : rightB ka na sa = true) (hb : rightB ka nb sb = true) (h11 : (op == 11) = false) (h3 : (ka == 3) = false) (h4 : (ka == 4) = false) (h : (ka == 2) = false ∨ (ka == 2) = true ∧ (op == 12) = false ∧ (op == 13) = false) :
    Calls Tryz.prog 17 #[.int .i64 op, vv ka na sa, vv ka nb sb] w fun e w' => e = .returned (.tuple #[zv, .string typeS]) ∧ Below w.heap.size w w' := by
  have CA := Lib.hid (fun w => refRight_at ka na sa true ha hma w)
  have CB := Lib.hid (fun w => refRight_at ka nb sb true hb hmb w)
  clear ha hb hma hmb
  have hs := Lib.hid ((((Sx0.init w).add #[.int .i64 ka, .int .i64 na, .string sa] 23).add #[.int .i64 ka, .int .i64 nb, .string sb] 23).add #[.int .i64 0, .int .i64 0, .string ⟨#[]⟩] 23)
  unfold vv
  rcases h with h | ⟨h, h12, h13⟩
  all_goals
    go_enter Tryz.func17, Tryz.ntmps17
    go_wp2_with fail
    refine (CA.out _).mono ?_
    rintro e x1 ⟨rfl, hb⟩
    replace hs := Lib.hid (hs.out.step hb)
    clear hb
    obtain ⟨b0, b1, b2, _, _⟩ := hs.out.res _ _ _ _ _ (.tail _ (.head _))
    simp only [World.size_alloc] at b0 b1 b2
    go_wp2_with fail
    refine (CB.out _).mono ?_
    rintro e x2 ⟨rfl, hb⟩
    replace hs := Lib.hid (hs.out.step hb)
    clear hb b0 b1 b2
    obtain ⟨a0, a1, a2, _, _⟩ := hs.out.res _ _ _ _ _ (.tail _ (.tail _ (.head _)))
    obtain ⟨b0, b1, b2, _, _⟩ := hs.out.res _ _ _ _ _ (.tail _ (.head _))
    obtain ⟨k0, k1, k2, kf, kz⟩ := hs.out.res _ _ _ _ _ (.head _)
    simp only [World.size_alloc] at a0 a1 a2 b0 b1 b2 k0 k1 k2 kf kz
    go_wp2_with fail
    exact bodyPost_ret (v := .tuple #[zv, .string typeS]) (by simp [results, Tryz.results17, go_sem, vv, es, zv, typeS, k0, k1, k2]) rfl ⟨rfl, setr hs.out.be _ (by omega) _ _ _⟩
set_option maxRecDepth 5000 in
theorem refBinary_ints (op na nb : Int) (sa sb : ByteArray) (w : World) (hma : sa.size ≤ maxLen) (hmb : sb.size ≤ maxLen) (ha : rightB 3 na sa = true) (hb : rightB 3 nb sb = true) (h11 : (op == 11) = false) :
    Calls Tryz.prog 17 #[.int .i64 op, vv 3 na sa, vv 3 nb sb] w (Gives (ints3 op na nb) w) := by
  have C := Lib.hid (fun w => refInts_any op na nb w (int_bd ha) (int_bd hb))
  generalize ints3 op na nb = r at *
  obtain ⟨⟨p, q, s⟩, f⟩ := r
  have CA := Lib.hid (fun w => refRight_at 3 na sa true ha hma w)
  have CB := Lib.hid (fun w => refRight_at 3 nb sb true hb hmb w)
  clear ha hb hma hmb
  have hs := Lib.hid ((((Sx0.init w).add #[.int .i64 3, .int .i64 na, .string sa] 23).add #[.int .i64 3, .int .i64 nb, .string sb] 23).add #[.int .i64 0, .int .i64 0, .string ⟨#[]⟩] 23)
  unfold vv
  go_enter Tryz.func17, Tryz.ntmps17
  go_wp2_with fail
  refine (CA.out _).mono ?_
  rintro e x1 ⟨rfl, hb⟩
  replace hs := Lib.hid (hs.out.step hb)
  clear hb
  obtain ⟨b0, b1, b2, _, _⟩ := hs.out.res _ _ _ _ _ (.tail _ (.head _))
  simp only [World.size_alloc] at b0 b1 b2
  go_wp2_with fail
  refine (CB.out _).mono ?_
  rintro e x2 ⟨rfl, hb⟩
  replace hs := Lib.hid (hs.out.step hb)
  clear hb b0 b1 b2
  obtain ⟨a0, a1, a2, _, _⟩ := hs.out.res _ _ _ _ _ (.tail _ (.tail _ (.head _)))
  obtain ⟨b0, b1, b2, _, _⟩ := hs.out.res _ _ _ _ _ (.tail _ (.head _))
  obtain ⟨k0, k1, k2, kf, kz⟩ := hs.out.res _ _ _ _ _ (.head _)
  simp only [World.size_alloc] at a0 a1 a2 b0 b1 b2 k0 k1 k2 kf kz
  go_wp2_with fail
  clear a0 a1 a2 b0 b1 b2 k0 k1 k2 kf kz
  refine (C.out _).mono ?_
  rintro e x3 ⟨rfl, hb⟩
  replace hs := Lib.hid (hs.out.step hb)
  clear hb
  obtain ⟨k0, k1, k2, kf, kz⟩ := hs.out.res _ _ _ _ _ (.head _)
  simp only [World.size_alloc] at k0 k1 k2 kf kz
  unfold V3.val vv
  simp only
  go_wp2_with fail
  exact bodyPost_ret (v := .tuple #[vv p q s, .string f]) (by simp [results, Tryz.results17, go_sem, vv, k0, k1, k2]) rfl ⟨rfl, setr hs.out.be _ (by omega) _ _ _⟩
set_option maxRecDepth 5000 in
theorem refBinary_strings (op na nb : Int) (sa sb : ByteArray) (w : World) (hma : sa.size ≤ maxLen) (hmb : sb.size ≤ maxLen) (ha : rightB 4 na sa = true) (hb : rightB 4 nb sb = true) (h11 : (op == 11) = false) :
    Calls Tryz.prog 17 #[.int .i64 op, vv 4 na sa, vv 4 nb sb] w (Gives (strs3 op sa sb) w) := by
  have C := Lib.hid (fun w => refStrings_any op sa sb w (str_bd ha) (str_bd hb))
  generalize strs3 op sa sb = r at *
  obtain ⟨⟨p, q, s⟩, f⟩ := r
  have CA := Lib.hid (fun w => refRight_at 4 na sa true ha hma w)
  have CB := Lib.hid (fun w => refRight_at 4 nb sb true hb hmb w)
  clear ha hb hma hmb
  have hs := Lib.hid ((((Sx0.init w).add #[.int .i64 4, .int .i64 na, .string sa] 23).add #[.int .i64 4, .int .i64 nb, .string sb] 23).add #[.int .i64 0, .int .i64 0, .string ⟨#[]⟩] 23)
  unfold vv
  go_enter Tryz.func17, Tryz.ntmps17
  go_wp2_with fail
  refine (CA.out _).mono ?_
  rintro e x1 ⟨rfl, hb⟩
  replace hs := Lib.hid (hs.out.step hb)
  clear hb
  obtain ⟨b0, b1, b2, _, _⟩ := hs.out.res _ _ _ _ _ (.tail _ (.head _))
  simp only [World.size_alloc] at b0 b1 b2
  go_wp2_with fail
  refine (CB.out _).mono ?_
  rintro e x2 ⟨rfl, hb⟩
  replace hs := Lib.hid (hs.out.step hb)
  clear hb b0 b1 b2
  obtain ⟨a0, a1, a2, _, _⟩ := hs.out.res _ _ _ _ _ (.tail _ (.tail _ (.head _)))
  obtain ⟨b0, b1, b2, _, _⟩ := hs.out.res _ _ _ _ _ (.tail _ (.head _))
  obtain ⟨k0, k1, k2, kf, kz⟩ := hs.out.res _ _ _ _ _ (.head _)
  simp only [World.size_alloc] at a0 a1 a2 b0 b1 b2 k0 k1 k2 kf kz
  go_wp2_with fail
  clear a0 a1 a2 b0 b1 b2 k0 k1 k2 kf kz
  refine (C.out _).mono ?_
  rintro e x3 ⟨rfl, hb⟩
  replace hs := Lib.hid (hs.out.step hb)
  clear hb
  obtain ⟨k0, k1, k2, kf, kz⟩ := hs.out.res _ _ _ _ _ (.head _)
  simp only [World.size_alloc] at k0 k1 k2 kf kz
  unfold V3.val vv
  simp only
  go_wp2_with fail
  exact bodyPost_ret (v := .tuple #[vv p q s, .string f]) (by simp [results, Tryz.results17, go_sem, vv, k0, k1, k2]) rfl ⟨rfl, setr hs.out.be _ (by omega) _ _ _⟩
set_option maxRecDepth 5000 in
theorem refBinary_and (na nb : Int) (sa sb : ByteArray) (w : World) (hma : sa.size ≤ maxLen) (hmb : sb.size ≤ maxLen) (ha : rightB 2 na sa = true) (hb : rightB 2 nb sb = true) :
    Calls Tryz.prog 17 #[.int .i64 12, vv 2 na sa, vv 2 nb sb] w fun e w' => e = .returned (.tuple #[tv (decide (na = 1) && decide (nb = 1)), .string es]) ∧ Below w.heap.size w w' := by
  have ha' : na = 0 ∨ na = 1 := by have := (facts2 ha).1; omega
  have hb' : nb = 0 ∨ nb = 1 := by have := (facts2 hb).1; omega
  have CA := Lib.hid (fun w => refRight_at 2 na sa true ha hma w)
  have CB := Lib.hid (fun w => refRight_at 2 nb sb true hb hmb w)
  clear ha hb hma hmb
  have hs := Lib.hid ((((Sx0.init w).add #[.int .i64 2, .int .i64 na, .string sa] 23).add #[.int .i64 2, .int .i64 nb, .string sb] 23).add #[.int .i64 0, .int .i64 0, .string ⟨#[]⟩] 23)
  unfold vv
  rcases ha' with rfl | rfl <;> rcases hb' with rfl | rfl
  all_goals
    go_enter Tryz.func17, Tryz.ntmps17
    go_wp2_with fail
    refine (CA.out _).mono ?_
    rintro e x1 ⟨rfl, hb⟩
    replace hs := Lib.hid (hs.out.step hb)
    clear hb
    obtain ⟨b0, b1, b2, _, _⟩ := hs.out.res _ _ _ _ _ (.tail _ (.head _))
    simp only [World.size_alloc] at b0 b1 b2
    go_wp2_with fail
    refine (CB.out _).mono ?_
    rintro e x2 ⟨rfl, hb⟩
    replace hs := Lib.hid (hs.out.step hb)
    clear hb b0 b1 b2
    obtain ⟨a0, a1, a2, _, _⟩ := hs.out.res _ _ _ _ _ (.tail _ (.tail _ (.head _)))
    obtain ⟨b0, b1, b2, _, _⟩ := hs.out.res _ _ _ _ _ (.tail _ (.head _))
    obtain ⟨k0, k1, k2, kf, kz⟩ := hs.out.res _ _ _ _ _ (.head _)
    simp only [World.size_alloc] at a0 a1 a2 b0 b1 b2 k0 k1 k2 kf kz
    go_wp2_with fail
    clear a0 a1 a2 b0 b1 b2 k0 k1 k2 kf kz
    refine (refBool_any _ _).mono ?_
    rintro e x3 ⟨rfl, hb⟩
    replace hs := Lib.hid (hs.out.step hb)
    clear hb
    obtain ⟨k0, k1, k2, kf, kz⟩ := hs.out.res _ _ _ _ _ (.head _)
    simp only [World.size_alloc] at k0 k1 k2 kf kz
    unfold tv vv es
    go_wp2_with fail
    exact bodyPost_ret (v := .tuple #[tv _, .string es]) (by simp [results, Tryz.results17, go_sem, vv, es, tv, k0, k1, k2]) rfl ⟨rfl, setr hs.out.be _ (by omega) _ _ _⟩
set_option maxRecDepth 5000 in
theorem refBinary_or (na nb : Int) (sa sb : ByteArray) (w : World) (hma : sa.size ≤ maxLen) (hmb : sb.size ≤ maxLen) (ha : rightB 2 na sa = true) (hb : rightB 2 nb sb = true) :
    Calls Tryz.prog 17 #[.int .i64 13, vv 2 na sa, vv 2 nb sb] w fun e w' => e = .returned (.tuple #[tv (decide (na = 1) || decide (nb = 1)), .string es]) ∧ Below w.heap.size w w' := by
  have ha' : na = 0 ∨ na = 1 := by have := (facts2 ha).1; omega
  have hb' : nb = 0 ∨ nb = 1 := by have := (facts2 hb).1; omega
  have CA := Lib.hid (fun w => refRight_at 2 na sa true ha hma w)
  have CB := Lib.hid (fun w => refRight_at 2 nb sb true hb hmb w)
  clear ha hb hma hmb
  have hs := Lib.hid ((((Sx0.init w).add #[.int .i64 2, .int .i64 na, .string sa] 23).add #[.int .i64 2, .int .i64 nb, .string sb] 23).add #[.int .i64 0, .int .i64 0, .string ⟨#[]⟩] 23)
  unfold vv
  rcases ha' with rfl | rfl <;> rcases hb' with rfl | rfl
  all_goals
    go_enter Tryz.func17, Tryz.ntmps17
    go_wp2_with fail
    refine (CA.out _).mono ?_
    rintro e x1 ⟨rfl, hb⟩
    replace hs := Lib.hid (hs.out.step hb)
    clear hb
    obtain ⟨b0, b1, b2, _, _⟩ := hs.out.res _ _ _ _ _ (.tail _ (.head _))
    simp only [World.size_alloc] at b0 b1 b2
    go_wp2_with fail
    refine (CB.out _).mono ?_
    rintro e x2 ⟨rfl, hb⟩
    replace hs := Lib.hid (hs.out.step hb)
    clear hb b0 b1 b2
    obtain ⟨a0, a1, a2, _, _⟩ := hs.out.res _ _ _ _ _ (.tail _ (.tail _ (.head _)))
    obtain ⟨b0, b1, b2, _, _⟩ := hs.out.res _ _ _ _ _ (.tail _ (.head _))
    obtain ⟨k0, k1, k2, kf, kz⟩ := hs.out.res _ _ _ _ _ (.head _)
    simp only [World.size_alloc] at a0 a1 a2 b0 b1 b2 k0 k1 k2 kf kz
    go_wp2_with fail
    clear a0 a1 a2 b0 b1 b2 k0 k1 k2 kf kz
    refine (refBool_any _ _).mono ?_
    rintro e x3 ⟨rfl, hb⟩
    replace hs := Lib.hid (hs.out.step hb)
    clear hb
    obtain ⟨k0, k1, k2, kf, kz⟩ := hs.out.res _ _ _ _ _ (.head _)
    simp only [World.size_alloc] at k0 k1 k2 kf kz
    unfold tv vv es
    go_wp2_with fail
    exact bodyPost_ret (v := .tuple #[tv _, .string es]) (by simp [results, Tryz.results17, go_sem, vv, es, tv, k0, k1, k2]) rfl ⟨rfl, setr hs.out.be _ (by omega) _ _ _⟩
theorem refBinary_any (op : Int) (a b : V3) (w : World) (hma : a.2.2.size ≤ maxLen) (hmb : b.2.2.size ≤ maxLen) :
    Calls Tryz.prog 17 #[.int .i64 op, a.val, b.val] w (Gives (bin op a b) w) := by
  obtain ⟨ka, na, sa⟩ := a
  obtain ⟨kb, nb, sb⟩ := b
  simp only at hma hmb
  show Calls Tryz.prog 17 #[.int .i64 op, vv ka na sa, vv kb nb sb] w _
  unfold bin right3
  simp only
  by_cases h0 : ka = 0 ∨ kb = 0
  · rw [if_pos h0]
    exact refBinary_unset op ka na kb nb sa sb w (by
      by_cases h : ka = 0
      · exact .inl (by simpa using h)
      · exact .inr ⟨by simpa using h, by simpa using h0.resolve_left h⟩)
  rw [if_neg h0]
  have ha0 : (ka == 0) = false := by simp; omega
  have hb0 : (kb == 0) = false := by simp; omega
  cases ha : rightB ka na sa
  · rw [if_pos (.inl rfl)]
    exact refBinary_wrong_a op ka na kb nb (rightB kb nb sb) sa sb w hma hmb ha0 hb0 ha rfl
  cases hb : rightB kb nb sb
  · rw [if_pos (.inr rfl)]
    exact refBinary_wrong_b op ka na kb nb sa sb w hma hmb ha0 hb0 ha hb
  rw [if_neg (by simp)]
  by_cases h11 : op = 11
  · subst h11
    rw [if_pos rfl]
    exact refBinary_equal ka na kb nb sa sb w hma hmb ha0 hb0 ha hb
  rw [if_neg h11]
  have e11 : (op == 11) = false := by simpa using h11
  by_cases hk : ka = kb
  · subst hk
    rw [if_neg (by simp)]
    by_cases h2 : ka = 2
    · subst h2
      rw [if_pos rfl]
      unfold bools3
      by_cases h12 : op = 12
      · subst h12; rw [if_pos rfl]; exact refBinary_and na nb sa sb w hma hmb ha hb
      rw [if_neg h12]
      by_cases h13 : op = 13
      · subst h13; rw [if_pos rfl]; exact refBinary_or na nb sa sb w hma hmb ha hb
      rw [if_neg h13]
      exact refBinary_kind op 2 na nb sa sb w hma hmb ha0 ha hb e11 rfl rfl (.inr ⟨rfl, by simpa using h12, by simpa using h13⟩)
    rw [if_neg h2]
    by_cases h3 : ka = 3
    · subst h3; rw [if_pos rfl]; exact refBinary_ints op na nb sa sb w hma hmb ha hb e11
    rw [if_neg h3]
    by_cases h4 : ka = 4
    · subst h4; rw [if_pos rfl]; exact refBinary_strings op na nb sa sb w hma hmb ha hb e11
    rw [if_neg h4]
    exact refBinary_kind op ka na nb sa sb w hma hmb ha0 ha hb e11 (by simpa using h3) (by simpa using h4) (.inl (by simpa using h2))
  · rw [if_pos hk]
    exact refBinary_apart op ka na kb nb sa sb w hma hmb ha0 hb0 ha hb e11 (by simpa using hk)
end Go.Proofs.YtibjhcgfjhbgoaaGreatDoor.Va
