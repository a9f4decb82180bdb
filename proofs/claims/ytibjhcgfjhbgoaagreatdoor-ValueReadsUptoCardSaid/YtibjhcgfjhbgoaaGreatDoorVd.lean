/-
  Contracts of the operators of ints.
-/
import Derived.Test.YtibjhcgfjhbgoaaGreatDoorVc
import Derived.IntWalk
namespace Go.Proofs.YtibjhcgfjhbgoaaGreatDoor.Va
open Go Go.RowKit Mp

def ok15 (n : Int) : Bool := decide (-1000000000000000 ≤ n) && decide (n ≤ 1000000000000000)
theorem right_yes (n : Int) (h : ok15 n = true) (w : World) (hB : Bnds w) :
    Calls Tryz.prog 10 #[vv 3 n es] w fun e w' => e = .returned (.bool true) ∧ Below w.heap.size w w' :=
  (right_any 3 n es w (by unfold maxLen es; decide) hB).mono fun e w' ⟨he, hb⟩ => ⟨by rw [he]; congr 1; congr 1; unfold ok15 at h; simp at h; unfold rightB bndB es prtB allB; simp; omega, hb⟩
theorem right_no (n : Int) (h : ok15 n = false) (w : World) (hB : Bnds w) :
    Calls Tryz.prog 10 #[vv 3 n es] w fun e w' => e = .returned (.bool false) ∧ Below w.heap.size w w' :=
  (right_any 3 n es w (by unfold maxLen es; decide) hB).mono fun e w' ⟨he, hb⟩ => ⟨by rw [he]; congr 1; congr 1; unfold ok15 at h; simp at h; unfold rightB bndB es prtB allB; simp; omega, hb⟩
def rangeS : ByteArray := ⟨#[114, 97, 110, 103, 101]⟩
def zeroS : ByteArray := ⟨#[122, 101, 114, 111]⟩
def typeS : ByteArray := ⟨#[116, 121, 112, 101]⟩
def unsetS : ByteArray := ⟨#[117, 110, 115, 101, 116]⟩
def zv : Value := vv 0 0 es
theorem Bnds.below {w w' : World} {B : Nat} (h : Bnds w) (hb : Below B w w') (hB : 0 < B) : Bnds w' := fun i hi => by rw [hb.cell (p := ⟨_, i, none⟩) hB]; exact h i hi

/-- Block b is one of the call's own, and holds c. -/
def Own (w : World) (b : Nat) (c : Array Value) (T : TypeId) : Prop := w.heap[b]? = some (.cells c T)
theorem Own.new (w : World) (c : Array Value) (T : TypeId) : Own (w.alloc (.cells c T)) w.heap.size c T := by unfold Own World.alloc; simp
theorem Own.lt {w : World} {b : Nat} {c : Array Value} {T : TypeId} (h : Own w b c T) : b < w.heap.size := (Array.getElem?_eq_some_iff.1 h).1
theorem Own.alloc {w : World} {b : Nat} {c : Array Value} {T : TypeId} (h : Own w b c T) (o : Obj) : Own (w.alloc o) b c T := by
  unfold Own; rw [Below.heap_alloc _ _ _ h.lt]; exact h
theorem Own.below {w w' : World} {b B : Nat} {c : Array Value} {T : TypeId} (h : Own w b c T) (hb : Below B w w') (hB : b < B) : Own w' b c T := by
  unfold Own; rw [hb.block b hB]; exact h
theorem Own.cell {w : World} {b : Nat} {c : Array Value} {T : TypeId} (h : Own w b c T) (j : Nat) : w.cell? ⟨b, j, none⟩ = c[j]? := by
  unfold World.cell?; rw [show w.heap[b]? = _ from h]; rfl
theorem Own.frozen {w : World} {b : Nat} {c : Array Value} {T : TypeId} (h : Own w b c T) (j : Nat) : w.frozen? ⟨b, j, none⟩ = false := by
  unfold World.frozen?; rw [show w.heap[b]? = _ from h]; simp
theorem Own.facts {w : World} {b : Nat} {x0 x1 x2 : Value} {T : TypeId} (h : Own w b #[x0, x1, x2] T) :
    w.cell? ⟨b, 0, none⟩ = some x0 ∧ w.cell? ⟨b, 1, none⟩ = some x1 ∧ w.cell? ⟨b, 2, none⟩ = some x2 ∧ (∀ j, w.frozen? ⟨b, j, none⟩ = false) ∧ b < w.heap.size :=
  ⟨h.cell 0, h.cell 1, h.cell 2, h.frozen, h.lt⟩
theorem below3 (w : World) (o1 o2 o3 : Obj) : Below w.heap.size w (((w.alloc o1).alloc o2).alloc o3) :=
  (((Below.refl w.heap.size w).alloc (Nat.le_refl _) o1).alloc (by simp) o2).alloc (by simp only [World.size_alloc]; omega) o3

theorem size_any (n : Int) (h : -1000000000000000 ≤ n ∧ n ≤ 1000000000000000) (w : World) :
    Calls Tryz.prog 101 #[.int .i64 n] w fun e w' => e = .returned (.int .i64 (n.natAbs : Int)) ∧ w = w' := by
  obtain ⟨h1, h2⟩ := h
  by_cases h0 : 0 ≤ n
  all_goals
    go_enter Tryz.func101, Tryz.ntmps101
    go_wp2
    all_goals go_ret
    all_goals exact ⟨ret_int (by omega), rfl⟩
theorem tooLarge_zero (na : Int) (w : World) :
    Calls Tryz.prog 77 #[.int .i64 na, .int .i64 0] w fun e w' => e = .returned (.string es) ∧ w = w' := by
  go_enter Tryz.func77, Tryz.ntmps77
  go_wp2
  go_ret
  exact ⟨rfl, rfl⟩
theorem tooLarge_no (na nb : Int) (ha : -1000000000000000 ≤ na ∧ na ≤ 1000000000000000) (hb : -1000000000000000 ≤ nb ∧ nb ≤ 1000000000000000) (h0 : nb ≠ 0) (h : (na.natAbs : Int) ≤ 1000000000000000 / (nb.natAbs : Int)) (w : World) :
    Calls Tryz.prog 77 #[.int .i64 na, .int .i64 nb] w fun e w' => e = .returned (.string es) ∧ w = w' := by
  have c1 := size_any na ha
  have c2 := size_any nb hb
  have z1 : 0 < (nb.natAbs : Int) := by omega
  have z2 : (nb.natAbs : Int) ≤ 1000000000000000 := by omega
  have C1 := Lib.hid c1
  have C2 := Lib.hid c2
  have hn : (nb != 0) = true := by simpa using h0
  clear c1 c2 ha hb h0
  generalize (na.natAbs : Int) = x at *
  generalize (nb.natAbs : Int) = y at *
  go_enter Tryz.func77, Tryz.ntmps77
  go_wp2_with fail
  refine (C1.out _).mono ?_
  rintro e w1 ⟨rfl, rfl⟩
  go_wp2_with fail
  refine (C2.out _).mono ?_
  rintro e w1 ⟨rfl, rfl⟩
  go_wp2_with fail
  go_ret
  exact ⟨rfl, rfl⟩
theorem tooLarge_yes (na nb : Int) (ha : -1000000000000000 ≤ na ∧ na ≤ 1000000000000000) (hb : -1000000000000000 ≤ nb ∧ nb ≤ 1000000000000000) (h0 : nb ≠ 0) (h : 1000000000000000 / (nb.natAbs : Int) < (na.natAbs : Int)) (w : World) :
    Calls Tryz.prog 77 #[.int .i64 na, .int .i64 nb] w fun e w' => e = .returned (.string rangeS) ∧ w = w' := by
  have c1 := size_any na ha
  have c2 := size_any nb hb
  have z1 : 0 < (nb.natAbs : Int) := by omega
  have z2 : (nb.natAbs : Int) ≤ 1000000000000000 := by omega
  have C1 := Lib.hid c1
  have C2 := Lib.hid c2
  have hn : (nb != 0) = true := by simpa using h0
  clear c1 c2 ha hb h0
  generalize (na.natAbs : Int) = x at *
  generalize (nb.natAbs : Int) = y at *
  go_enter Tryz.func77, Tryz.ntmps77
  go_wp2_with fail
  refine (C1.out _).mono ?_
  rintro e w1 ⟨rfl, rfl⟩
  go_wp2_with fail
  refine (C2.out _).mono ?_
  rintro e w1 ⟨rfl, rfl⟩
  go_wp2_with fail
  go_ret
  exact ⟨rfl, rfl⟩
set_option maxRecDepth 3000 in
theorem add_yes (ka na kb nb : Int) (sa sb : ByteArray) (pb : Nat) (w : World) (hB : Bnds w)
    (hc : w.cell? ⟨pb, 0, none⟩ = some (.func (.func 73) #[] #[])) (hd : w.cell? ⟨pb, 1, none⟩ = some (.func (.func 74) #[] #[]))
    (ha : -1000000000000000 ≤ na ∧ na ≤ 1000000000000000) (hb : -1000000000000000 ≤ nb ∧ nb ≤ 1000000000000000) (ho : ok15 (na + nb) = true) :
    Calls Tryz.prog 99 #[vv ka na sa, vv kb nb sb, .pointer (some ⟨pb, 0, none⟩)] w fun e w' => e = .returned (.tuple #[vv 3 (na + nb) es, .string es]) ∧ Below w.heap.size w w' := by
  obtain ⟨a1, a2⟩ := ha
  obtain ⟨b1, b2⟩ := hb
  have hc3 : ∀ o1 o2 o3, (((w.alloc o1).alloc o2).alloc o3).cell? ⟨pb, 0, none⟩ = _ := fun o1 o2 o3 => cell3 hc o1 o2 o3
  have hd3 : ∀ o1 o2 o3, (((w.alloc o1).alloc o2).alloc o3).cell? ⟨pb, 1, none⟩ = _ := fun o1 o2 o3 => cell3 hd o1 o2 o3
  have HO := Lib.hid ho
  have HB := Lib.hid hB
  clear hc hd ho hB
  unfold vv
  go_enter Tryz.func99, Tryz.ntmps99
  go_wp2_with (first | (go_at_call 73; go_in) | (go_at_call 74; go_in))
  refine (number_any _ _).mono ?_
  rintro e w1 ⟨rfl, hb1⟩
  have o1 := Lib.hid ((Own.new _ _ _).below hb1 (by simp only [World.size_alloc]; omega))
  have g1 := (below3 _ _ _ _).trans (hb1.mono (by simp only [World.size_alloc]; omega))
  have s1 := o1.out.lt
  simp only [World.size_alloc] at s1
  clear hb1
  unfold vv
  go_wp2_with fail
  refine (right_yes _ HO.out _ (HB.out.below ((g1.alloc g1.size _)) HB.out.size)).mono ?_
  rintro e w2 ⟨rfl, hb2⟩
  obtain ⟨k0, k1, k2, kf, kz⟩ := ((o1.out.alloc _).below hb2 (by simp only [World.size_alloc]; omega)).facts
  obtain ⟨m0, m1, m2, _, mz⟩ := ((Own.new w1 _ _).below hb2 (by simp only [World.size_alloc]; omega)).facts
  have g2 := (g1.alloc g1.size _).trans (hb2.mono (by have := g1.size; simp only [World.size_alloc]; omega))
  clear hb2 g1 HB HO
  simp only [World.size_alloc] at k0 k1 k2 kf kz
  go_wp2_with fail
  exact bodyPost_ret (v := .tuple #[vv 3 (na + nb) es, .string es]) (by simp [results, Tryz.results99, go_sem, vv, es, k0, k1, k2]) rfl ⟨rfl, ((g2.setCell (by simp; omega) _).setCell (by simp; omega) _).setCell (by simp; omega) _⟩
set_option maxRecDepth 3000 in
theorem add_no (ka na kb nb : Int) (sa sb : ByteArray) (pb : Nat) (w : World) (hB : Bnds w)
    (hc : w.cell? ⟨pb, 0, none⟩ = some (.func (.func 73) #[] #[])) (hd : w.cell? ⟨pb, 1, none⟩ = some (.func (.func 74) #[] #[]))
    (ha : -1000000000000000 ≤ na ∧ na ≤ 1000000000000000) (hb : -1000000000000000 ≤ nb ∧ nb ≤ 1000000000000000) (ho : ok15 (na + nb) = false) :
    Calls Tryz.prog 99 #[vv ka na sa, vv kb nb sb, .pointer (some ⟨pb, 0, none⟩)] w fun e w' => e = .returned (.tuple #[zv, .string rangeS]) ∧ Below w.heap.size w w' := by
  obtain ⟨a1, a2⟩ := ha
  obtain ⟨b1, b2⟩ := hb
  have hc3 : ∀ o1 o2 o3, (((w.alloc o1).alloc o2).alloc o3).cell? ⟨pb, 0, none⟩ = _ := fun o1 o2 o3 => cell3 hc o1 o2 o3
  have hd3 : ∀ o1 o2 o3, (((w.alloc o1).alloc o2).alloc o3).cell? ⟨pb, 1, none⟩ = _ := fun o1 o2 o3 => cell3 hd o1 o2 o3
  have HO := Lib.hid ho
  have HB := Lib.hid hB
  clear hc hd ho hB
  unfold vv
  go_enter Tryz.func99, Tryz.ntmps99
  go_wp2_with (first | (go_at_call 73; go_in) | (go_at_call 74; go_in))
  refine (number_any _ _).mono ?_
  rintro e w1 ⟨rfl, hb1⟩
  have o1 := Lib.hid ((Own.new _ _ _).below hb1 (by simp only [World.size_alloc]; omega))
  have g1 := (below3 _ _ _ _).trans (hb1.mono (by simp only [World.size_alloc]; omega))
  have s1 := o1.out.lt
  simp only [World.size_alloc] at s1
  clear hb1
  unfold vv
  go_wp2_with fail
  refine (right_no _ HO.out _ (HB.out.below ((g1.alloc g1.size _)) HB.out.size)).mono ?_
  rintro e w2 ⟨rfl, hb2⟩
  obtain ⟨k0, k1, k2, kf, kz⟩ := ((o1.out.alloc _).below hb2 (by simp only [World.size_alloc]; omega)).facts
  obtain ⟨m0, m1, m2, _, mz⟩ := ((Own.new w1 _ _).below hb2 (by simp only [World.size_alloc]; omega)).facts
  have g2 := (g1.alloc g1.size _).trans (hb2.mono (by have := g1.size; simp only [World.size_alloc]; omega))
  clear hb2 g1 HB HO
  simp only [World.size_alloc] at k0 k1 k2 kf kz
  go_wp2_with fail
  exact bodyPost_ret (v := .tuple #[zv, .string rangeS]) (by simp [results, Tryz.results99, go_sem, vv, es, zv, rangeS, k0, k1, k2]) rfl ⟨rfl, ((g2.setCell (by simp; omega) _).setCell (by simp; omega) _).setCell (by simp; omega) _⟩
set_option maxRecDepth 3000 in
theorem sub_yes (ka na kb nb : Int) (sa sb : ByteArray) (pb : Nat) (w : World) (hB : Bnds w)
    (hc : w.cell? ⟨pb, 0, none⟩ = some (.func (.func 73) #[] #[])) (hd : w.cell? ⟨pb, 1, none⟩ = some (.func (.func 76) #[] #[]))
    (ha : -1000000000000000 ≤ na ∧ na ≤ 1000000000000000) (hb : -1000000000000000 ≤ nb ∧ nb ≤ 1000000000000000) (ho : ok15 (na - nb) = true) :
    Calls Tryz.prog 99 #[vv ka na sa, vv kb nb sb, .pointer (some ⟨pb, 0, none⟩)] w fun e w' => e = .returned (.tuple #[vv 3 (na - nb) es, .string es]) ∧ Below w.heap.size w w' := by
  obtain ⟨a1, a2⟩ := ha
  obtain ⟨b1, b2⟩ := hb
  have hc3 : ∀ o1 o2 o3, (((w.alloc o1).alloc o2).alloc o3).cell? ⟨pb, 0, none⟩ = _ := fun o1 o2 o3 => cell3 hc o1 o2 o3
  have hd3 : ∀ o1 o2 o3, (((w.alloc o1).alloc o2).alloc o3).cell? ⟨pb, 1, none⟩ = _ := fun o1 o2 o3 => cell3 hd o1 o2 o3
  have HO := Lib.hid ho
  have HB := Lib.hid hB
  clear hc hd ho hB
  unfold vv
  go_enter Tryz.func99, Tryz.ntmps99
  go_wp2_with (first | (go_at_call 73; go_in) | (go_at_call 76; go_in))
  refine (number_any _ _).mono ?_
  rintro e w1 ⟨rfl, hb1⟩
  have o1 := Lib.hid ((Own.new _ _ _).below hb1 (by simp only [World.size_alloc]; omega))
  have g1 := (below3 _ _ _ _).trans (hb1.mono (by simp only [World.size_alloc]; omega))
  have s1 := o1.out.lt
  simp only [World.size_alloc] at s1
  clear hb1
  unfold vv
  go_wp2_with fail
  refine (right_yes _ HO.out _ (HB.out.below ((g1.alloc g1.size _)) HB.out.size)).mono ?_
  rintro e w2 ⟨rfl, hb2⟩
  obtain ⟨k0, k1, k2, kf, kz⟩ := ((o1.out.alloc _).below hb2 (by simp only [World.size_alloc]; omega)).facts
  obtain ⟨m0, m1, m2, _, mz⟩ := ((Own.new w1 _ _).below hb2 (by simp only [World.size_alloc]; omega)).facts
  have g2 := (g1.alloc g1.size _).trans (hb2.mono (by have := g1.size; simp only [World.size_alloc]; omega))
  clear hb2 g1 HB HO
  simp only [World.size_alloc] at k0 k1 k2 kf kz
  go_wp2_with fail
  exact bodyPost_ret (v := .tuple #[vv 3 (na - nb) es, .string es]) (by simp [results, Tryz.results99, go_sem, vv, es, k0, k1, k2]) rfl ⟨rfl, ((g2.setCell (by simp; omega) _).setCell (by simp; omega) _).setCell (by simp; omega) _⟩
set_option maxRecDepth 3000 in
theorem sub_no (ka na kb nb : Int) (sa sb : ByteArray) (pb : Nat) (w : World) (hB : Bnds w)
    (hc : w.cell? ⟨pb, 0, none⟩ = some (.func (.func 73) #[] #[])) (hd : w.cell? ⟨pb, 1, none⟩ = some (.func (.func 76) #[] #[]))
    (ha : -1000000000000000 ≤ na ∧ na ≤ 1000000000000000) (hb : -1000000000000000 ≤ nb ∧ nb ≤ 1000000000000000) (ho : ok15 (na - nb) = false) :
    Calls Tryz.prog 99 #[vv ka na sa, vv kb nb sb, .pointer (some ⟨pb, 0, none⟩)] w fun e w' => e = .returned (.tuple #[zv, .string rangeS]) ∧ Below w.heap.size w w' := by
  obtain ⟨a1, a2⟩ := ha
  obtain ⟨b1, b2⟩ := hb
  have hc3 : ∀ o1 o2 o3, (((w.alloc o1).alloc o2).alloc o3).cell? ⟨pb, 0, none⟩ = _ := fun o1 o2 o3 => cell3 hc o1 o2 o3
  have hd3 : ∀ o1 o2 o3, (((w.alloc o1).alloc o2).alloc o3).cell? ⟨pb, 1, none⟩ = _ := fun o1 o2 o3 => cell3 hd o1 o2 o3
  have HO := Lib.hid ho
  have HB := Lib.hid hB
  clear hc hd ho hB
  unfold vv
  go_enter Tryz.func99, Tryz.ntmps99
  go_wp2_with (first | (go_at_call 73; go_in) | (go_at_call 76; go_in))
  refine (number_any _ _).mono ?_
  rintro e w1 ⟨rfl, hb1⟩
  have o1 := Lib.hid ((Own.new _ _ _).below hb1 (by simp only [World.size_alloc]; omega))
  have g1 := (below3 _ _ _ _).trans (hb1.mono (by simp only [World.size_alloc]; omega))
  have s1 := o1.out.lt
  simp only [World.size_alloc] at s1
  clear hb1
  unfold vv
  go_wp2_with fail
  refine (right_no _ HO.out _ (HB.out.below ((g1.alloc g1.size _)) HB.out.size)).mono ?_
  rintro e w2 ⟨rfl, hb2⟩
  obtain ⟨k0, k1, k2, kf, kz⟩ := ((o1.out.alloc _).below hb2 (by simp only [World.size_alloc]; omega)).facts
  obtain ⟨m0, m1, m2, _, mz⟩ := ((Own.new w1 _ _).below hb2 (by simp only [World.size_alloc]; omega)).facts
  have g2 := (g1.alloc g1.size _).trans (hb2.mono (by have := g1.size; simp only [World.size_alloc]; omega))
  clear hb2 g1 HB HO
  simp only [World.size_alloc] at k0 k1 k2 kf kz
  go_wp2_with fail
  exact bodyPost_ret (v := .tuple #[zv, .string rangeS]) (by simp [results, Tryz.results99, go_sem, vv, es, zv, rangeS, k0, k1, k2]) rfl ⟨rfl, ((g2.setCell (by simp; omega) _).setCell (by simp; omega) _).setCell (by simp; omega) _⟩
set_option maxRecDepth 3000 in
theorem mul_zero (ka na kb nb : Int) (sa sb : ByteArray) (pb : Nat) (w : World) (hB : Bnds w)
    (hc : w.cell? ⟨pb, 0, none⟩ = some (.func (.func 77) #[] #[])) (hd : w.cell? ⟨pb, 1, none⟩ = some (.func (.func 78) #[] #[]))
    (ha : -1000000000000000 ≤ na ∧ na ≤ 1000000000000000) (hb : -1000000000000000 ≤ nb ∧ nb ≤ 1000000000000000) (h0 : nb = 0) :
    Calls Tryz.prog 99 #[vv ka na sa, vv kb nb sb, .pointer (some ⟨pb, 0, none⟩)] w fun e w' => e = .returned (.tuple #[vv 3 0 es, .string es]) ∧ Below w.heap.size w w' := by
  subst h0
  obtain ⟨a1, a2⟩ := ha
  clear hb
  have hc3 : ∀ o1 o2 o3, (((w.alloc o1).alloc o2).alloc o3).cell? ⟨pb, 0, none⟩ = _ := fun o1 o2 o3 => cell3 hc o1 o2 o3
  have hd3 : ∀ o1 o2 o3, (((w.alloc o1).alloc o2).alloc o3).cell? ⟨pb, 1, none⟩ = _ := fun o1 o2 o3 => cell3 hd o1 o2 o3
  have HO := Lib.hid (show ok15 0 = true from rfl)
  have HB := Lib.hid hB
  clear hc hd hB
  unfold vv
  go_enter Tryz.func99, Tryz.ntmps99
  go_wp2_with fail
  refine (tooLarge_zero _ _).mono ?_
  rintro e w0 ⟨rfl, rfl⟩
  unfold es
  go_wp2_with (go_at_call 78; go_in)
  refine (number_any _ _).mono ?_
  rintro e w1 ⟨rfl, hb1⟩
  have o1 := Lib.hid ((Own.new _ _ _).below hb1 (by simp only [World.size_alloc]; omega))
  have g1 := (below3 _ _ _ _).trans (hb1.mono (by simp only [World.size_alloc]; omega))
  have s1 := o1.out.lt
  simp only [World.size_alloc] at s1
  clear hb1
  unfold vv
  go_wp2_with fail
  refine (right_yes _ HO.out _ (HB.out.below ((g1.alloc g1.size _)) HB.out.size)).mono ?_
  rintro e w2 ⟨rfl, hb2⟩
  obtain ⟨k0, k1, k2, kf, kz⟩ := ((o1.out.alloc _).below hb2 (by simp only [World.size_alloc]; omega)).facts
  obtain ⟨m0, m1, m2, _, mz⟩ := ((Own.new w1 _ _).below hb2 (by simp only [World.size_alloc]; omega)).facts
  have g2 := (g1.alloc g1.size _).trans (hb2.mono (by have := g1.size; simp only [World.size_alloc]; omega))
  clear hb2 g1 HB HO
  simp only [World.size_alloc] at k0 k1 k2 kf kz
  go_wp2_with fail
  exact bodyPost_ret (v := .tuple #[vv 3 0 es, .string es]) (by simp [results, Tryz.results99, go_sem, vv, es, k0, k1, k2]) rfl ⟨rfl, ((g2.setCell (by simp; omega) _).setCell (by simp; omega) _).setCell (by simp; omega) _⟩
set_option maxRecDepth 3000 in
theorem mul_yes (ka na kb nb : Int) (sa sb : ByteArray) (pb : Nat) (w : World) (hB : Bnds w)
    (hc : w.cell? ⟨pb, 0, none⟩ = some (.func (.func 77) #[] #[])) (hd : w.cell? ⟨pb, 1, none⟩ = some (.func (.func 78) #[] #[]))
    (ha : -1000000000000000 ≤ na ∧ na ≤ 1000000000000000) (hb : -1000000000000000 ≤ nb ∧ nb ≤ 1000000000000000) (h0 : nb ≠ 0) (hl : (na.natAbs : Int) ≤ 1000000000000000 / (nb.natAbs : Int)) (ho : ok15 (na * nb) = true) :
    Calls Tryz.prog 99 #[vv ka na sa, vv kb nb sb, .pointer (some ⟨pb, 0, none⟩)] w fun e w' => e = .returned (.tuple #[vv 3 (na * nb) es, .string es]) ∧ Below w.heap.size w w' := by
  have C := Lib.hid (tooLarge_no na nb ha hb h0 hl)
  obtain ⟨a1, a2⟩ := ha
  obtain ⟨b1, b2⟩ := hb
  have hc3 : ∀ o1 o2 o3, (((w.alloc o1).alloc o2).alloc o3).cell? ⟨pb, 0, none⟩ = _ := fun o1 o2 o3 => cell3 hc o1 o2 o3
  have hd3 : ∀ o1 o2 o3, (((w.alloc o1).alloc o2).alloc o3).cell? ⟨pb, 1, none⟩ = _ := fun o1 o2 o3 => cell3 hd o1 o2 o3
  have HO := Lib.hid ho
  have HB := Lib.hid hB
  unfold ok15 at ho
  simp only [Bool.and_eq_true, decide_eq_true_eq] at ho
  obtain ⟨p1, p2⟩ := ho
  clear hc hd hB h0 hl
  unfold vv
  go_enter Tryz.func99, Tryz.ntmps99
  go_wp2_with fail
  refine (C.out _).mono ?_
  rintro e w0 ⟨rfl, rfl⟩
  unfold es
  go_wp2_with (go_at_call 78; go_in)
  refine (number_any _ _).mono ?_
  rintro e w1 ⟨rfl, hb1⟩
  have o1 := Lib.hid ((Own.new _ _ _).below hb1 (by simp only [World.size_alloc]; omega))
  have g1 := (below3 _ _ _ _).trans (hb1.mono (by simp only [World.size_alloc]; omega))
  have s1 := o1.out.lt
  simp only [World.size_alloc] at s1
  clear hb1
  unfold vv
  go_wp2_with fail
  refine (right_yes _ HO.out _ (HB.out.below ((g1.alloc g1.size _)) HB.out.size)).mono ?_
  rintro e w2 ⟨rfl, hb2⟩
  obtain ⟨k0, k1, k2, kf, kz⟩ := ((o1.out.alloc _).below hb2 (by simp only [World.size_alloc]; omega)).facts
  obtain ⟨m0, m1, m2, _, mz⟩ := ((Own.new w1 _ _).below hb2 (by simp only [World.size_alloc]; omega)).facts
  have g2 := (g1.alloc g1.size _).trans (hb2.mono (by have := g1.size; simp only [World.size_alloc]; omega))
  clear hb2 g1 HB HO
  simp only [World.size_alloc] at k0 k1 k2 kf kz
  go_wp2_with fail
  exact bodyPost_ret (v := .tuple #[vv 3 (na * nb) es, .string es]) (by simp [results, Tryz.results99, go_sem, vv, es, k0, k1, k2]) rfl ⟨rfl, ((g2.setCell (by simp; omega) _).setCell (by simp; omega) _).setCell (by simp; omega) _⟩
set_option maxRecDepth 3000 in
theorem mul_no (ka na kb nb : Int) (sa sb : ByteArray) (pb : Nat) (w : World) (_hB : Bnds w)
    (hc : w.cell? ⟨pb, 0, none⟩ = some (.func (.func 77) #[] #[])) (hd : w.cell? ⟨pb, 1, none⟩ = some (.func (.func 78) #[] #[]))
    (ha : -1000000000000000 ≤ na ∧ na ≤ 1000000000000000) (hb : -1000000000000000 ≤ nb ∧ nb ≤ 1000000000000000) (h0 : nb ≠ 0) (hl : 1000000000000000 / (nb.natAbs : Int) < (na.natAbs : Int)) :
    Calls Tryz.prog 99 #[vv ka na sa, vv kb nb sb, .pointer (some ⟨pb, 0, none⟩)] w fun e w' => e = .returned (.tuple #[zv, .string rangeS]) ∧ Below w.heap.size w w' := by
  have C := Lib.hid (tooLarge_yes na nb ha hb h0 hl)
  obtain ⟨a1, a2⟩ := ha
  obtain ⟨b1, b2⟩ := hb
  have hc3 : ∀ o1 o2 o3, (((w.alloc o1).alloc o2).alloc o3).cell? ⟨pb, 0, none⟩ = _ := fun o1 o2 o3 => cell3 hc o1 o2 o3
  have hd3 : ∀ o1 o2 o3, (((w.alloc o1).alloc o2).alloc o3).cell? ⟨pb, 1, none⟩ = _ := fun o1 o2 o3 => cell3 hd o1 o2 o3
  clear hc hd h0 hl
  unfold vv
  go_enter Tryz.func99, Tryz.ntmps99
  go_wp2_with fail
  refine (C.out _).mono ?_
  rintro e w0 ⟨rfl, rfl⟩
  unfold rangeS
  go_wp2_with fail
  exact bodyPost_ret (v := .tuple #[zv, .string rangeS]) (by simp [results, Tryz.results99, go_sem, vv, es, zv, rangeS]) rfl ⟨rfl, below3 _ _ _ _⟩
set_option maxRecDepth 3000 in
theorem div_yes (ka na kb nb : Int) (sa sb : ByteArray) (pb : Nat) (w : World) (hB : Bnds w)
    (hc : w.cell? ⟨pb, 0, none⟩ = some (.func (.func 79) #[] #[])) (hd : w.cell? ⟨pb, 1, none⟩ = some (.func (.func 80) #[] #[]))
    (ha : -1000000000000000 ≤ na ∧ na ≤ 1000000000000000) (hb : -1000000000000000 ≤ nb ∧ nb ≤ 1000000000000000) (h0 : nb ≠ 0) (ho : ok15 (na.tdiv nb) = true) :
    Calls Tryz.prog 99 #[vv ka na sa, vv kb nb sb, .pointer (some ⟨pb, 0, none⟩)] w fun e w' => e = .returned (.tuple #[vv 3 (na.tdiv nb) es, .string es]) ∧ Below w.heap.size w w' := by
  obtain ⟨a1, a2⟩ := ha
  obtain ⟨b1, b2⟩ := hb
  have hc3 : ∀ o1 o2 o3, (((w.alloc o1).alloc o2).alloc o3).cell? ⟨pb, 0, none⟩ = _ := fun o1 o2 o3 => cell3 hc o1 o2 o3
  have hd3 : ∀ o1 o2 o3, (((w.alloc o1).alloc o2).alloc o3).cell? ⟨pb, 1, none⟩ = _ := fun o1 o2 o3 => cell3 hd o1 o2 o3
  have HO := Lib.hid ho
  have HB := Lib.hid hB
  unfold ok15 at ho
  simp only [Bool.and_eq_true, decide_eq_true_eq] at ho
  obtain ⟨p1, p2⟩ := ho
  have hn : (nb == 0) = false := by simpa using h0
  clear hc hd hB
  unfold vv
  go_enter Tryz.func99, Tryz.ntmps99
  go_wp2_with (first | (go_at_call 79; go_in) | (go_at_call 80; go_in))
  refine (number_any _ _).mono ?_
  rintro e w1 ⟨rfl, hb1⟩
  have o1 := Lib.hid ((Own.new _ _ _).below hb1 (by simp only [World.size_alloc]; omega))
  have g1 := (below3 _ _ _ _).trans (hb1.mono (by simp only [World.size_alloc]; omega))
  have s1 := o1.out.lt
  simp only [World.size_alloc] at s1
  clear hb1
  unfold vv
  go_wp2_with fail
  refine (right_yes _ HO.out _ (HB.out.below ((g1.alloc g1.size _)) HB.out.size)).mono ?_
  rintro e w2 ⟨rfl, hb2⟩
  obtain ⟨k0, k1, k2, kf, kz⟩ := ((o1.out.alloc _).below hb2 (by simp only [World.size_alloc]; omega)).facts
  obtain ⟨m0, m1, m2, _, mz⟩ := ((Own.new w1 _ _).below hb2 (by simp only [World.size_alloc]; omega)).facts
  have g2 := (g1.alloc g1.size _).trans (hb2.mono (by have := g1.size; simp only [World.size_alloc]; omega))
  clear hb2 g1 HB HO
  simp only [World.size_alloc] at k0 k1 k2 kf kz
  go_wp2_with fail
  exact bodyPost_ret (v := .tuple #[vv 3 (na.tdiv nb) es, .string es]) (by simp [results, Tryz.results99, go_sem, vv, es, k0, k1, k2]) rfl ⟨rfl, ((g2.setCell (by simp; omega) _).setCell (by simp; omega) _).setCell (by simp; omega) _⟩
set_option maxRecDepth 3000 in
theorem div_no (ka na kb nb : Int) (sa sb : ByteArray) (pb : Nat) (w : World) (_hB : Bnds w)
    (hc : w.cell? ⟨pb, 0, none⟩ = some (.func (.func 79) #[] #[])) (hd : w.cell? ⟨pb, 1, none⟩ = some (.func (.func 80) #[] #[]))
    (_ha : -1000000000000000 ≤ na ∧ na ≤ 1000000000000000) (_hb : -1000000000000000 ≤ nb ∧ nb ≤ 1000000000000000) (h0 : nb = 0) :
    Calls Tryz.prog 99 #[vv ka na sa, vv kb nb sb, .pointer (some ⟨pb, 0, none⟩)] w fun e w' => e = .returned (.tuple #[zv, .string zeroS]) ∧ Below w.heap.size w w' := by
  subst h0
  have hc3 : ∀ o1 o2 o3, (((w.alloc o1).alloc o2).alloc o3).cell? ⟨pb, 0, none⟩ = _ := fun o1 o2 o3 => cell3 hc o1 o2 o3
  have hd3 : ∀ o1 o2 o3, (((w.alloc o1).alloc o2).alloc o3).cell? ⟨pb, 1, none⟩ = _ := fun o1 o2 o3 => cell3 hd o1 o2 o3
  clear hc hd
  unfold vv
  go_enter Tryz.func99, Tryz.ntmps99
  go_wp2_with (first | (go_at_call 79; go_in) | (go_at_call 80; go_in))
  exact bodyPost_ret (v := .tuple #[zv, .string zeroS]) (by simp [results, Tryz.results99, go_sem, vv, es, zv, zeroS]) rfl ⟨rfl, below3 _ _ _ _⟩
set_option maxRecDepth 3000 in
theorem mod_yes (ka na kb nb : Int) (sa sb : ByteArray) (pb : Nat) (w : World) (hB : Bnds w)
    (hc : w.cell? ⟨pb, 0, none⟩ = some (.func (.func 79) #[] #[])) (hd : w.cell? ⟨pb, 1, none⟩ = some (.func (.func 81) #[] #[]))
    (ha : -1000000000000000 ≤ na ∧ na ≤ 1000000000000000) (hb : -1000000000000000 ≤ nb ∧ nb ≤ 1000000000000000) (h0 : nb ≠ 0) (ho : ok15 (na.tmod nb) = true) :
    Calls Tryz.prog 99 #[vv ka na sa, vv kb nb sb, .pointer (some ⟨pb, 0, none⟩)] w fun e w' => e = .returned (.tuple #[vv 3 (na.tmod nb) es, .string es]) ∧ Below w.heap.size w w' := by
  obtain ⟨a1, a2⟩ := ha
  obtain ⟨b1, b2⟩ := hb
  have hc3 : ∀ o1 o2 o3, (((w.alloc o1).alloc o2).alloc o3).cell? ⟨pb, 0, none⟩ = _ := fun o1 o2 o3 => cell3 hc o1 o2 o3
  have hd3 : ∀ o1 o2 o3, (((w.alloc o1).alloc o2).alloc o3).cell? ⟨pb, 1, none⟩ = _ := fun o1 o2 o3 => cell3 hd o1 o2 o3
  have HO := Lib.hid ho
  have HB := Lib.hid hB
  unfold ok15 at ho
  simp only [Bool.and_eq_true, decide_eq_true_eq] at ho
  obtain ⟨p1, p2⟩ := ho
  have hn : (nb == 0) = false := by simpa using h0
  clear hc hd hB
  unfold vv
  go_enter Tryz.func99, Tryz.ntmps99
  go_wp2_with (first | (go_at_call 79; go_in) | (go_at_call 81; go_in))
  refine (number_any _ _).mono ?_
  rintro e w1 ⟨rfl, hb1⟩
  have o1 := Lib.hid ((Own.new _ _ _).below hb1 (by simp only [World.size_alloc]; omega))
  have g1 := (below3 _ _ _ _).trans (hb1.mono (by simp only [World.size_alloc]; omega))
  have s1 := o1.out.lt
  simp only [World.size_alloc] at s1
  clear hb1
  unfold vv
  go_wp2_with fail
  refine (right_yes _ HO.out _ (HB.out.below ((g1.alloc g1.size _)) HB.out.size)).mono ?_
  rintro e w2 ⟨rfl, hb2⟩
  obtain ⟨k0, k1, k2, kf, kz⟩ := ((o1.out.alloc _).below hb2 (by simp only [World.size_alloc]; omega)).facts
  obtain ⟨m0, m1, m2, _, mz⟩ := ((Own.new w1 _ _).below hb2 (by simp only [World.size_alloc]; omega)).facts
  have g2 := (g1.alloc g1.size _).trans (hb2.mono (by have := g1.size; simp only [World.size_alloc]; omega))
  clear hb2 g1 HB HO
  simp only [World.size_alloc] at k0 k1 k2 kf kz
  go_wp2_with fail
  exact bodyPost_ret (v := .tuple #[vv 3 (na.tmod nb) es, .string es]) (by simp [results, Tryz.results99, go_sem, vv, es, k0, k1, k2]) rfl ⟨rfl, ((g2.setCell (by simp; omega) _).setCell (by simp; omega) _).setCell (by simp; omega) _⟩
set_option maxRecDepth 3000 in
theorem mod_no (ka na kb nb : Int) (sa sb : ByteArray) (pb : Nat) (w : World) (_hB : Bnds w)
    (hc : w.cell? ⟨pb, 0, none⟩ = some (.func (.func 79) #[] #[])) (hd : w.cell? ⟨pb, 1, none⟩ = some (.func (.func 81) #[] #[]))
    (_ha : -1000000000000000 ≤ na ∧ na ≤ 1000000000000000) (_hb : -1000000000000000 ≤ nb ∧ nb ≤ 1000000000000000) (h0 : nb = 0) :
    Calls Tryz.prog 99 #[vv ka na sa, vv kb nb sb, .pointer (some ⟨pb, 0, none⟩)] w fun e w' => e = .returned (.tuple #[zv, .string zeroS]) ∧ Below w.heap.size w w' := by
  subst h0
  have hc3 : ∀ o1 o2 o3, (((w.alloc o1).alloc o2).alloc o3).cell? ⟨pb, 0, none⟩ = _ := fun o1 o2 o3 => cell3 hc o1 o2 o3
  have hd3 : ∀ o1 o2 o3, (((w.alloc o1).alloc o2).alloc o3).cell? ⟨pb, 1, none⟩ = _ := fun o1 o2 o3 => cell3 hd o1 o2 o3
  clear hc hd
  unfold vv
  go_enter Tryz.func99, Tryz.ntmps99
  go_wp2_with (first | (go_at_call 79; go_in) | (go_at_call 81; go_in))
  exact bodyPost_ret (v := .tuple #[zv, .string zeroS]) (by simp [results, Tryz.results99, go_sem, vv, es, zv, zeroS]) rfl ⟨rfl, below3 _ _ _ _⟩
end Go.Proofs.YtibjhcgfjhbgoaaGreatDoor.Va
