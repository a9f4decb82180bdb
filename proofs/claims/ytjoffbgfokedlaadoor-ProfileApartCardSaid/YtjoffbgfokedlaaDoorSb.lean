/-
  The landed profile: within, New, loop, Tier.
-/
import Derived.Test.YtjoffbgfokedlaaDoorSa
import Derived.BigRegion
namespace Go.Proofs.YtjoffbgfokedlaaDoor.Pf
open Go Go.RowKit Go.Maps

theorem within_any (n a b : Int) (o : Bool) (w : World) (ho : (decide (a ≤ n) && decide (n ≤ b)) = o) : Calls Tryd.prog 44 #[.int .i64 n, .int .i64 a, .int .i64 b] w fun e w' => e = .returned (.bool o) ∧ w = w' := by
  by_cases h1 : a ≤ n
  · by_cases h2 : n ≤ b
    · have HO := Lib.hid (show o = true by rw [← ho]; simp [h1, h2])
      clear ho
      have k1 : decide (a ≤ n) = true := by simpa using h1
      have k2 : decide (n ≤ b) = true := by simpa using h2
      go_enter Tryd.func44, Tryd.ntmps44
      go_wp2_with fail
      go_ret
      exact ⟨by rw [HO.out]; rfl, rfl⟩
    · have HO := Lib.hid (show o = false by rw [← ho]; simp [h2])
      clear ho
      have k1 : decide (a ≤ n) = true := by simpa using h1
      have k2 : decide (n ≤ b) = false := by simpa using h2
      go_enter Tryd.func44, Tryd.ntmps44
      go_wp2_with fail
      go_ret
      exact ⟨by rw [HO.out]; rfl, rfl⟩
  · have HO := Lib.hid (show o = false by rw [← ho]; simp [h1])
    clear ho
    have k1 : decide (a ≤ n) = false := by simpa using h1
    go_enter Tryd.func44, Tryd.ntmps44
    go_wp2_with fail
    go_ret
    exact ⟨by rw [HO.out]; rfl, rfl⟩
theorem and_true {p q : Prop} [Decidable p] [Decidable q] (h : p ∧ q) : (decide p && decide q) = true := by simp [h.1, h.2]
theorem and_false {p q : Prop} [Decidable p] [Decidable q] (h : ¬ (p ∧ q)) : (decide p && decide q) = false := by
  by_cases hp : p
  · by_cases hq : q
    · exact absurd ⟨hp, hq⟩ h
    · simp [hq]
  · simp [hp]
theorem code_new (w : World) (s m l c : Int) (hG : Pw w) (hl : okLim s m l c) : Calls Tryd.prog 22 #[.int .i64 s, .int .i64 m, .int .i64 l, .int .i64 c] w fun e w' =>
    ∃ p F, e = .returned (.tuple #[.pointer (some ⟨p, 0, none⟩), .int .i64 0]) ∧ ProfH w' p (st0 s m l c) F ∧ Below w.heap.size w w' ∧ ∀ b, F b → w.heap.size ≤ b := by
  have W1 := Lib.hid (fun w => within_any s 1 1000 true w (and_true hl.1))
  have W2 := Lib.hid (fun w => within_any m 1 1000000 true w (and_true hl.2.1))
  have W3 := Lib.hid (fun w => within_any l (m + 1) 1000000 true w (and_true hl.2.2.1))
  have W4 := Lib.hid (fun w => within_any c 1 1000000 true w (and_true ⟨hl.2.2.2.1, hl.2.2.2.2⟩))
  have m1 := hl.2.1.1
  have m2 := hl.2.1.2
  have gl := hG.lt
  clear hl hG
  have hmm := @run_makeMap Tryd.prog
  go_enter Tryd.func22, Tryd.ntmps22
  go_wp2_with fail
  refine (W1.out _).mono ?_
  rintro e w1 ⟨rfl, rfl⟩
  go_wp2_with fail
  refine (W2.out _).mono ?_
  rintro e w1 ⟨rfl, rfl⟩
  go_wp2_with fail
  refine (W3.out _).mono ?_
  rintro e w1 ⟨rfl, rfl⟩
  go_wp2_with fail
  refine (W4.out _).mono ?_
  rintro e w1 ⟨rfl, rfl⟩
  go_wp2_with fail
  go_ret2
  refine ⟨w.heap.size + 1, fun b => b = w.heap.size ∨ b = w.heap.size + 1, rfl, ⟨w.heap.size, .slice none 0 0, fun _ => ⟨0, 0, 0, 0, 0⟩, ?_⟩, ((Below.refl _ w).alloc (Nat.le_refl _) _).alloc (by simp) _, fun b hb => by omega⟩
  have hB := Bk.new (w.alloc (.map #[] 0)) #[.int .i64 s, .int .i64 m, .int .i64 l, .int .i64 c, .map (some w.heap.size), .slice none 0 0] 67
  rw [World.size_alloc] at hB
  refine ⟨fun b hb => ?_, hB, .inr rfl, ⟨_, (World.ownsMap_made w _ _ _).alloc _, fun a _ => by simp [DataW.atKey, st0], fun a _ => by simp [Maps.has, st0]⟩, .inl rfl, fun q hq => (by cases hq), fun q hq => (by cases hq), fun q hq => (by cases hq), fun q hq => (by cases hq), World.ownsRow_nil _ _ _ _, fun g hg => (by cases hg), List.Pairwise.nil, fun b hb => by omega⟩
  rw [World.size_alloc, World.size_alloc]; omega
theorem code_bad (w : World) (s m l c : Int) (hl : ¬ okLim s m l c) : Calls Tryd.prog 22 #[.int .i64 s, .int .i64 m, .int .i64 l, .int .i64 c] w fun e w' =>
    e = .returned (.tuple #[.pointer none, .int .i64 1]) ∧ Below w.heap.size w w' := by
  by_cases h1 : 1 ≤ s ∧ s ≤ 1000
  · by_cases h2 : 1 ≤ m ∧ m ≤ 1000000
    · have m1 := h2.1
      have m2 := h2.2
      by_cases h3 : m + 1 ≤ l ∧ l ≤ 1000000
      · have h4 : ¬ (1 ≤ c ∧ c ≤ 1000000) := fun h4 => hl ⟨h1, h2, h3, h4.1, h4.2⟩
        have W1 := Lib.hid (fun w => within_any s 1 1000 true w (and_true h1))
        have W2 := Lib.hid (fun w => within_any m 1 1000000 true w (and_true h2))
        have W3 := Lib.hid (fun w => within_any l (m + 1) 1000000 true w (and_true h3))
        have W4 := Lib.hid (fun w => within_any c 1 1000000 false w (and_false h4))
        clear hl h1 h2 h3 h4
        go_enter Tryd.func22, Tryd.ntmps22
        go_wp2_with fail
        refine (W1.out _).mono ?_
        rintro e w1 ⟨rfl, rfl⟩
        go_wp2_with fail
        refine (W2.out _).mono ?_
        rintro e w1 ⟨rfl, rfl⟩
        go_wp2_with fail
        refine (W3.out _).mono ?_
        rintro e w1 ⟨rfl, rfl⟩
        go_wp2_with fail
        refine (W4.out _).mono ?_
        rintro e w1 ⟨rfl, rfl⟩
        go_wp2_with fail
        go_ret2
        exact ⟨rfl, Below.refl _ _⟩
      · have W1 := Lib.hid (fun w => within_any s 1 1000 true w (and_true h1))
        have W2 := Lib.hid (fun w => within_any m 1 1000000 true w (and_true h2))
        have W3 := Lib.hid (fun w => within_any l (m + 1) 1000000 false w (and_false h3))
        clear hl h1 h2 h3
        go_enter Tryd.func22, Tryd.ntmps22
        go_wp2_with fail
        refine (W1.out _).mono ?_
        rintro e w1 ⟨rfl, rfl⟩
        go_wp2_with fail
        refine (W2.out _).mono ?_
        rintro e w1 ⟨rfl, rfl⟩
        go_wp2_with fail
        refine (W3.out _).mono ?_
        rintro e w1 ⟨rfl, rfl⟩
        go_wp2_with fail
        go_ret2
        exact ⟨rfl, Below.refl _ _⟩
    · have W1 := Lib.hid (fun w => within_any s 1 1000 true w (and_true h1))
      have W2 := Lib.hid (fun w => within_any m 1 1000000 false w (and_false h2))
      clear hl h1 h2
      go_enter Tryd.func22, Tryd.ntmps22
      go_wp2_with fail
      refine (W1.out _).mono ?_
      rintro e w1 ⟨rfl, rfl⟩
      go_wp2_with fail
      refine (W2.out _).mono ?_
      rintro e w1 ⟨rfl, rfl⟩
      go_wp2_with fail
      go_ret2
      exact ⟨rfl, Below.refl _ _⟩
  · have W1 := Lib.hid (fun w => within_any s 1 1000 false w (and_false h1))
    clear hl h1
    go_enter Tryd.func22, Tryd.ntmps22
    go_wp2_with fail
    refine (W1.out _).mono ?_
    rintro e w1 ⟨rfl, rfl⟩
    go_wp2_with fail
    go_ret2
    exact ⟨rfl, Below.refl _ _⟩
section
variable {p : Nat} {t : Pst} {F : Nat → Prop} {mb : Nat} {v : Value} {f : Plc → Ld}
theorem ProfAt.below {w w' : World} (h : ProfAt w p t F mb v f) (hb : Below w.heap.size w w') : ProfAt w' p t F mb v f := h.keep fun b hF => hb.block b (h.lt b hF)
theorem ProfAt.alloc {w : World} (h : ProfAt w p t F mb v f) (o : Obj) : ProfAt (w.alloc o) p t F mb v f := h.keep fun b hF => Below.heap_alloc _ _ _ (h.lt b hF)
theorem ProfAt.drewN {w : World} (h : ProfAt w p t F mb v f) (n : Nat) : ProfAt (w.drewN n) p t F mb v f := h.keep fun _ _ => rfl
theorem code_loop (w : World) (h : ProfAt w p t F mb v f) {a : Plc} (ha : okP a) :
    Calls Tryd.prog 42 #[.pointer (some ⟨p, 0, none⟩), plcV a] w fun e w' => e = .returned (.pointer (ptrO t.L f a)) ∧ Below w.heap.size w w' := by
  have L := fun n => ((h.alloc (.cells #[.int .i64 a.1, .int .i64 a.2] 43)).drewN n).look ha
  have c4 := (h.alloc (.cells #[.int .i64 a.1, .int .i64 a.2] 43)).top.cell 4 (.map (some mb)) rfl
  obtain ⟨x, y⟩ := a
  clear h ha
  unfold plcV at *
  go_enter Tryd.func42, Tryd.ntmps42
  go_wp2_with fail
  go_quiet (fail)
  go_wp2_with fail
  go_ret
  exact ⟨rfl, ((Below.refl _ w).alloc (Nat.le_refl _) _).trans ⟨rfl, rfl, rfl, Nat.le_refl _, fun _ _ => rfl⟩⟩
end
theorem nil_loop (w : World) (a : Plc) :
    Calls Tryd.prog 42 #[.pointer none, plcV a] w fun e w' => e = .returned (.pointer none) ∧ Below w.heap.size w w' := by
  obtain ⟨x, y⟩ := a
  unfold plcV
  go_enter Tryd.func42, Tryd.ntmps42
  go_wp2_with fail
  go_ret
  exact ⟨rfl, (Below.refl _ w).alloc (Nat.le_refl _) _⟩
end Go.Proofs.YtjoffbgfokedlaaDoor.Pf
