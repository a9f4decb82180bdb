/-
  The reference's profile in memory; its New.
-/
import Derived.Test.YtjoffbgfokedlaaDoorPk
import Derived.BigRegion
namespace Go.Proofs.YtjoffbgfokedlaaDoor.Pf
open Go Go.RowKit

def cellsR (he : Plc → Value) (p : Plc × Spot) : List Value := [.int .i64 p.1.1, .int .i64 p.1.2, .int .i64 p.2.tier, .int .i64 p.2.calls, .int .i64 p.2.count, .int .i64 p.2.fails, he p.1]
def flatR (l : List (Plc × Spot)) (he : Plc → Value) : List Value := l.flatMap (cellsR he)
def flatE (l : List (Int × Int)) : List Value := l.flatMap fun p => [.int .i64 p.1, .int .i64 p.2]
/-- How often an exit was left, of a list. -/
def lkE (i : Int) : List (Int × Int) → Int
  | [] => 0
  | p :: l => if p.1 = i then p.2 else lkE i l
theorem rown_keep {w w' : World} {base : Nat} {e : TypeId} {size n : Nat} {v : Value} {xs : List Value} (h : w.ownsRow base e size v n xs) (hk : ∀ b, v.ownBlock = some b → w'.heap[b]? = w.heap[b]?) : w'.ownsRow base e size v n xs := by
  refine ⟨h.1, ?_⟩
  rcases h.2 with h' | ⟨g, cap, cur, rfl, hb, hg, hn, hm, hs, ht⟩
  · exact .inl h'
  · exact .inr ⟨g, cap, cur, rfl, hb, (hk g rfl).trans hg, hn, hm, hs, ht⟩
def rowQ (t : Pst) (vL vD : Value) : Array Value := #[.int .i64 t.s, .int .i64 t.w, .int .i64 t.h, .int .i64 t.c, vL, vD]
structure RefAt (w : World) (q : Nat) (t : Pst) (G : Nat → Prop) (vL vD : Value) (he : Plc → Value) (es : Plc → List (Int × Int)) : Prop where
  lt : ∀ b, G b → b < w.heap.size
  top : Bk w q (rowQ t vL vD) 41
  fq : G q
  rows : w.ownsRow 0 96 7 vL t.L.length (flatR t.L he)
  fL : ∀ g, vL.ownBlock = some g → G g
  decs : w.ownsRow 0 99 4 vD t.D.length (flatD t.D)
  fD : ∀ g, vD.ownBlock = some g → G g
  exs : ∀ p ∈ t.L, w.ownsRow 0 108 2 (he p.1) (es p.1).length (flatE (es p.1)) ∧ ∀ i, p.2.ex i = lkE i (es p.1)
  fE : ∀ p ∈ t.L, ∀ g, (he p.1).ownBlock = some g → G g
  apart : ∀ p ∈ t.L, ∀ r ∈ t.L, p.1 ≠ r.1 → ∀ g, (he p.1).ownBlock = some g → (he r.1).ownBlock ≠ some g
  srt : Srt t.L
def RefS (w : World) (q : Nat) (t : Pst) (G : Nat → Prop) : Prop := ∃ vL vD he es, RefAt w q t G vL vD he es
theorem RefAt.keep {w w' : World} {q : Nat} {t : Pst} {G : Nat → Prop} {vL vD : Value} {he : Plc → Value} {es : Plc → List (Int × Int)} (h : RefAt w q t G vL vD he es) (hk : ∀ b, G b → w'.heap[b]? = w.heap[b]?) : RefAt w' q t G vL vD he es := by
  refine ⟨fun b hb => ?_, ?_, h.fq, rown_keep h.rows fun b hb => hk b (h.fL b hb), h.fL, rown_keep h.decs fun b hb => hk b (h.fD b hb), h.fD, fun p hp => ⟨rown_keep (h.exs p hp).1 fun b hb => hk b (h.fE p hp b hb), (h.exs p hp).2⟩, h.fE, h.apart, h.srt⟩
  · have h1 := h.lt b hb
    have h2 := hk b hb
    rw [Array.getElem?_eq_getElem h1] at h2
    exact (Array.getElem?_eq_some_iff.1 h2).1
  · have := h.top
    unfold Bk at *
    rw [hk q h.fq]; exact this
theorem RefS.keep {w w' : World} {q : Nat} {t : Pst} {G : Nat → Prop} (h : RefS w q t G) (hk : ∀ b, G b → w'.heap[b]? = w.heap[b]?) : RefS w' q t G := by
  obtain ⟨vL, vD, he, es, h⟩ := h
  exact ⟨vL, vD, he, es, h.keep hk⟩
theorem RefS.lt {w : World} {q : Nat} {t : Pst} {G : Nat → Prop} (h : RefS w q t G) : ∀ b, G b → b < w.heap.size := by
  obtain ⟨vL, vD, he, es, h⟩ := h
  exact h.lt
theorem RefS.below {w w' : World} {q : Nat} {t : Pst} {G : Nat → Prop} (h : RefS w q t G) (hb : Below w.heap.size w w') : RefS w' q t G := h.keep fun b hG => hb.block b (h.lt b hG)
theorem rwithin_any (n a b : Int) (o : Bool) (w : World) (ho : (decide (n ≥ a) && decide (n ≤ b)) = o) : Calls Tryd.prog 49 #[.int .i64 n, .int .i64 a, .int .i64 b] w fun e w' => e = .returned (.bool o) ∧ w = w' := by
  by_cases h1 : n ≥ a
  · by_cases h2 : n ≤ b
    · have HO := Lib.hid (show o = true by rw [← ho]; simp [h1, h2])
      clear ho
      have k1 : decide (n ≥ a) = true := by simpa using h1
      have k2 : decide (n ≤ b) = true := by simpa using h2
      go_enter Tryd.func49, Tryd.ntmps49
      go_wp2_with fail
      go_ret
      exact ⟨by rw [HO.out]; rfl, rfl⟩
    · have HO := Lib.hid (show o = false by rw [← ho]; simp [h2])
      clear ho
      have k1 : decide (n ≥ a) = true := by simpa using h1
      have k2 : decide (n ≤ b) = false := by simpa using h2
      go_enter Tryd.func49, Tryd.ntmps49
      go_wp2_with fail
      go_ret
      exact ⟨by rw [HO.out]; rfl, rfl⟩
  · have HO := Lib.hid (show o = false by rw [← ho]; simp [h1])
    clear ho
    have k1 : decide (n ≥ a) = false := by simpa using h1
    go_enter Tryd.func49, Tryd.ntmps49
    go_wp2_with fail
    go_ret
    exact ⟨by rw [HO.out]; rfl, rfl⟩
theorem rw_true {n a b : Int} (h : a ≤ n ∧ n ≤ b) : (decide (n ≥ a) && decide (n ≤ b)) = true := by
  rw [decide_eq_true (show n ≥ a from h.1), decide_eq_true h.2]; rfl
theorem rw_false {n a b : Int} (h : ¬ (a ≤ n ∧ n ≤ b)) : (decide (n ≥ a) && decide (n ≤ b)) = false := by
  by_cases h1 : a ≤ n
  · rw [decide_eq_false (show ¬ n ≤ b from fun e => h ⟨h1, e⟩), Bool.and_false]
  · rw [decide_eq_false (show ¬ n ≥ a from h1), Bool.false_and]
theorem ref_new (w : World) (s m l c : Int) (hl : okLim s m l c) : Calls Tryd.prog 25 #[.int .i64 s, .int .i64 m, .int .i64 l, .int .i64 c] w fun e w' =>
    ∃ q G, e = .returned (.tuple #[.pointer (some ⟨q, 0, none⟩), .int .i64 0]) ∧ RefS w' q (st0 s m l c) G ∧ Below w.heap.size w w' ∧ ∀ b, G b → w.heap.size ≤ b := by
  have W1 := Lib.hid (fun w => rwithin_any s 1 1000 true w (rw_true hl.1))
  have W2 := Lib.hid (fun w => rwithin_any m 1 1000000 true w (rw_true hl.2.1))
  have W3 := Lib.hid (fun w => rwithin_any l 1 1000000 true w (rw_true ⟨by have := hl.2.1.1; have := hl.2.2.1.1; omega, hl.2.2.1.2⟩))
  have W4 := Lib.hid (fun w => rwithin_any c 1 1000000 true w (rw_true ⟨hl.2.2.2.1, hl.2.2.2.2⟩))
  have k1 : decide (l ≤ m) = false := decide_eq_false (by have := hl.2.2.1.1; omega)
  clear hl
  go_enter Tryd.func25, Tryd.ntmps25
  go_wp2_with fail
  refine (W1.out _).mono ?_
  rintro e w1 ⟨rfl, rfl⟩
  go_wp2_with fail
  refine (W2.out _).mono ?_
  rintro e w1 ⟨rfl, rfl⟩
  go_wp2_with fail
  refine (W3.out _).mono ?_
  rintro e w1 ⟨rfl, rfl⟩
  go_wp2_with fail
  refine (W4.out _).mono ?_
  rintro e w1 ⟨rfl, rfl⟩
  go_wp2_with fail
  go_ret2
  refine ⟨w.heap.size, fun b => b = w.heap.size, rfl, ⟨.slice none 0 0, .slice none 0 0, fun _ => .slice none 0 0, fun _ => [], ?_⟩, (Below.refl _ w).alloc (Nat.le_refl _) _, fun b hb => by omega⟩
  exact ⟨fun b hb => by rw [World.size_alloc]; omega, Bk.new w _ _, rfl, World.ownsRow_nil _ _ _ _, fun g hg => (by cases hg), World.ownsRow_nil _ _ _ _, fun g hg => (by cases hg), fun p hp => (by cases hp), fun p hp => (by cases hp), fun p hp => (by cases hp), List.Pairwise.nil⟩
theorem ref_bad (w : World) (s m l c : Int) (hl : ¬ okLim s m l c) : Calls Tryd.prog 25 #[.int .i64 s, .int .i64 m, .int .i64 l, .int .i64 c] w fun e w' =>
    e = .returned (.tuple #[.pointer none, .int .i64 1]) ∧ w = w' := by
  by_cases h1 : 1 ≤ s ∧ s ≤ 1000
  · have W1 := Lib.hid (fun w => rwithin_any s 1 1000 true w (rw_true h1))
    by_cases h2 : 1 ≤ m ∧ m ≤ 1000000
    · have W2 := Lib.hid (fun w => rwithin_any m 1 1000000 true w (rw_true h2))
      by_cases h3 : 1 ≤ l ∧ l ≤ 1000000
      · have W3 := Lib.hid (fun w => rwithin_any l 1 1000000 true w (rw_true h3))
        by_cases h4 : l ≤ m
        · have k1 : decide (l ≤ m) = true := decide_eq_true h4
          clear hl h1 h2 h3 h4
          go_enter Tryd.func25, Tryd.ntmps25
          go_wp2_with fail
          refine (W1.out _).mono ?_
          rintro e w1 ⟨rfl, rfl⟩
          go_wp2_with fail
          refine (W2.out _).mono ?_
          rintro e w1 ⟨rfl, rfl⟩
          go_wp2_with fail
          refine (W3.out _).mono ?_
          rintro e w1 ⟨rfl, rfl⟩
          go_wp2_with fail
          go_ret2
          exact ⟨rfl, rfl⟩
        · have k1 : decide (l ≤ m) = false := decide_eq_false h4
          have W4 := Lib.hid (fun w => rwithin_any c 1 1000000 false w (rw_false fun h5 => hl ⟨h1, h2, ⟨by omega, h3.2⟩, h5⟩))
          clear hl h1 h2 h3 h4
          go_enter Tryd.func25, Tryd.ntmps25
          go_wp2_with fail
          refine (W1.out _).mono ?_
          rintro e w1 ⟨rfl, rfl⟩
          go_wp2_with fail
          refine (W2.out _).mono ?_
          rintro e w1 ⟨rfl, rfl⟩
          go_wp2_with fail
          refine (W3.out _).mono ?_
          rintro e w1 ⟨rfl, rfl⟩
          go_wp2_with fail
          refine (W4.out _).mono ?_
          rintro e w1 ⟨rfl, rfl⟩
          go_wp2_with fail
          go_ret2
          exact ⟨rfl, rfl⟩
      · have W3 := Lib.hid (fun w => rwithin_any l 1 1000000 false w (rw_false h3))
        clear hl h1 h2 h3
        go_enter Tryd.func25, Tryd.ntmps25
        go_wp2_with fail
        refine (W1.out _).mono ?_
        rintro e w1 ⟨rfl, rfl⟩
        go_wp2_with fail
        refine (W2.out _).mono ?_
        rintro e w1 ⟨rfl, rfl⟩
        go_wp2_with fail
        refine (W3.out _).mono ?_
        rintro e w1 ⟨rfl, rfl⟩
        go_wp2_with fail
        go_ret2
        exact ⟨rfl, rfl⟩
    · have W2 := Lib.hid (fun w => rwithin_any m 1 1000000 false w (rw_false h2))
      clear hl h1 h2
      go_enter Tryd.func25, Tryd.ntmps25
      go_wp2_with fail
      refine (W1.out _).mono ?_
      rintro e w1 ⟨rfl, rfl⟩
      go_wp2_with fail
      refine (W2.out _).mono ?_
      rintro e w1 ⟨rfl, rfl⟩
      go_wp2_with fail
      go_ret2
      exact ⟨rfl, rfl⟩
  · have W1 := Lib.hid (fun w => rwithin_any s 1 1000 false w (rw_false h1))
    clear hl h1
    go_enter Tryd.func25, Tryd.ntmps25
    go_wp2_with fail
    refine (W1.out _).mono ?_
    rintro e w1 ⟨rfl, rfl⟩
    go_wp2_with fail
    go_ret2
    exact ⟨rfl, rfl⟩
end Go.Proofs.YtjoffbgfokedlaaDoor.Pf
