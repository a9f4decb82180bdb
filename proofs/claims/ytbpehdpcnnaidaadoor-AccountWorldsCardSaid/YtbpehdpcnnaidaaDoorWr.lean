/-
  What the worlds of layer 6 need of values: the makers of constants, the reference's Right.
-/
import Derived.Test.YtbpehdpcnnaidaaDoorVb
import Derived.Below
import Derived.Test.YtbpehdpcnnaidaaDoorAi
namespace Go.Proofs.YtbpehdpcnnaidaaDoor.Va
open Go Go.RowKit

def vv (k n : Int) (s : ByteArray) : Value := .agg #[.int .i64 k, .int .i64 n, .string s]
def es : ByteArray := ⟨#[]⟩
abbrev V3 := Int × Int × ByteArray
def V3.val (v : V3) : Value := vv v.1 v.2.1 v.2.2
def z3 : V3 := (0, 0, es)
def bs (l : List UInt8) : ByteArray := ⟨l.toArray⟩
def right3 (v : V3) : Bool := rightB v.1 v.2.1 v.2.2
/-- Block b is one of the call's own, and holds c. -/
def Own (w : World) (b : Nat) (c : Array Value) (T : TypeId) : Prop := w.heap[b]? = some (.cells c T)
theorem Own.new (w : World) (c : Array Value) (T : TypeId) : Own (w.alloc (.cells c T)) w.heap.size c T := by unfold Own World.alloc; simp
theorem Own.lt {w : World} {b : Nat} {c : Array Value} {T : TypeId} (h : Own w b c T) : b < w.heap.size := (Array.getElem?_eq_some_iff.1 h).1
theorem Own.alloc {w : World} {b : Nat} {c : Array Value} {T : TypeId} (h : Own w b c T) (o : Obj) : Own (w.alloc o) b c T := by
  unfold Own; rw [Below.heap_alloc _ _ _ h.lt]; exact h
theorem Own.below {w w' : World} {b B : Nat} {c : Array Value} {T : TypeId} (h : Own w b c T) (hb : Below B w w') (hB : b < B) : Own w' b c T := by
  unfold Own; rw [hb.block b hB]; exact h
theorem Own.cell {w : World} {b : Nat} {c : Array Value} {T : TypeId} (h : Own w b c T) (j : Nat) : w.cell? ⟨b, j, none⟩ = c[j]? := by
  unfold World.cell?; rw [show w.heap[b]? = _ from h]; rfl
theorem Own.frozen {w : World} {b : Nat} {c : Array Value} {T : TypeId} (h : Own w b c T) (j : Nat) : w.frozen? ⟨b, j, none⟩ = false := by
  unfold World.frozen?; rw [show w.heap[b]? = _ from h]; simp
theorem Own.facts {w : World} {b : Nat} {x0 x1 x2 : Value} {T : TypeId} (h : Own w b #[x0, x1, x2] T) :
    w.cell? ⟨b, 0, none⟩ = some x0 ∧ w.cell? ⟨b, 1, none⟩ = some x1 ∧ w.cell? ⟨b, 2, none⟩ = some x2 ∧ (∀ j, w.frozen? ⟨b, j, none⟩ = false) ∧ b < w.heap.size :=
  ⟨h.cell 0, h.cell 1, h.cell 2, h.frozen, h.lt⟩
theorem setres {w w1 : World} (g1 : Below w.heap.size w w1) (y0 y1 y2 : Value) : Below w.heap.size w (((w1.setCell ⟨w.heap.size, 0, none⟩ y0).setCell ⟨w.heap.size, 1, none⟩ y1).setCell ⟨w.heap.size, 2, none⟩ y2) :=
  ((g1.setCell (Nat.le_refl _) _).setCell (Nat.le_refl _) _).setCell (Nat.le_refl _) _
def md (n m : Int) : Int := (n.tmod m + m).tmod m
theorem md_bd (n m : Int) (h : 0 < m) : 0 ≤ md n m ∧ md n m < m := by
  unfold md
  have h1 : -m < n.tmod m := by have := Int.lt_tmod_of_pos n h; omega
  have h2 := Int.tmod_nonneg m (a := n.tmod m + m) (by omega)
  have h3 := Int.tmod_lt_of_pos (n.tmod m + m) h
  exact ⟨h2, h3⟩
theorem mod_any (n m : Int) (h0 : 0 < m) (h1 : m ≤ 1000) (w : World) :
    Calls Tryd.prog 18 #[.int .i64 n, .int .i64 m] w fun e w' => e = .returned (.int .i64 (md n m)) ∧ w = w' := by
  have b1 : -1000 ≤ n.tmod m ∧ n.tmod m ≤ 1000 := by
    have a1 := Int.lt_tmod_of_pos n h0
    have a2 := Int.tmod_lt_of_pos n h0
    omega
  obtain ⟨b1, b2⟩ := b1
  have hm : (m == 0) = false := by simp; omega
  go_enter Tryd.func18, Tryd.ntmps18
  go_wp2
  go_ret
  exact ⟨rfl, rfl⟩
theorem tdiv_in (n : Int) (h1 : -9223372036854775808 ≤ n) (h2 : n ≤ 9223372036854775807) : -9223372036854775808 ≤ n.tdiv 11 ∧ n.tdiv 11 ≤ 9223372036854775807 := by
  have e : (n.tdiv 11).natAbs = n.natAbs / 11 := Int.natAbs_tdiv n 11
  omega
def pick (l : List (List UInt8)) (k : Int) : ByteArray := bs (l.getD k.toNat [])
def words8 : List (List UInt8) := [[120], [121], [105], [109, 97, 105, 110], [102, 49], [78, 111, 100, 101], [97, 98, 99, 100, 101, 102, 103, 104, 105, 106, 107, 108], [110, 101, 120, 116]]
def strs6 : List (List UInt8) := [[], [105, 116, 39, 115], [39, 39], [120, 32, 61, 32, 121], [32], [97, 46, 98, 91, 99, 93]]
def word (n : Int) : ByteArray := pick words8 (md n 8)
set_option maxRecDepth 3000 in
theorem word_any (n : Int) (w : World) : Calls Tryd.prog 27 #[.int .i64 n] w fun e w' => e = .returned (.string (word n)) ∧ Below w.heap.size w w' := by
  have hb := md_bd n 8 (by decide)
  have hk : md n 8 = 0 ∨ md n 8 = 1 ∨ md n 8 = 2 ∨ md n 8 = 3 ∨ md n 8 = 4 ∨ md n 8 = 5 ∨ md n 8 = 6 ∨ md n 8 = 7 := by omega
  clear hb
  unfold word
  rcases hk with h | h | h | h | h | h | h | h
  all_goals
    go_enter Tryd.func27, Tryd.ntmps27
    go_wp2_with (go_at_call 18; refine (mod_any _ _ (by decide) (by decide) _).mono ?_; rintro e w' ⟨rfl, rfl⟩)
    go_ret
    exact ⟨by rw [h]; rfl, (Below.refl _ _).alloc (Nat.le_refl _) _⟩
def const3 (n : Int) : V3 :=
  if md n 7 = 0 then (1, 0, es)
  else if md n 7 = 1 then (2, 0, es)
  else if md n 7 = 2 then (2, 1, es)
  else if md n 7 = 3 then (3, n.tmod 1000, es)
  else if md n 7 = 4 then (3, ([1000000000000000, -1000000000000000, 0] : List Int).getD (md (n.tdiv 7) 3).toNat 0, es)
  else if md n 7 = 5 then (4, 0, pick strs6 (md (n.tdiv 7) 6))
  else (4, 0, word (n.tdiv 7))
set_option maxRecDepth 3000 in
theorem const_0 (n : Int) (_h1 : -9223372036854775808 ≤ n) (_h2 : n ≤ 9223372036854775807) (h : md n 7 = 0) (w : World) : Calls Tryd.prog 16 #[.int .i64 n] w fun e w' => e = .returned (V3.val (1, 0, es)) ∧ Below w.heap.size w w' := by
  go_enter Tryd.func16, Tryd.ntmps16
  go_wp2_with (go_at_call 18; refine (mod_any _ _ (by decide) (by decide) _).mono ?_; rintro e w' ⟨rfl, rfl⟩)
  exact bodyPost_ret (v := V3.val (1, 0, es)) (by simp [results, Tryd.results16, go_sem, V3.val, vv, es]) rfl ⟨rfl, ((Below.refl w.heap.size w).alloc (Nat.le_refl _) _)⟩
set_option maxRecDepth 3000 in
theorem const_1 (n : Int) (_h1 : -9223372036854775808 ≤ n) (_h2 : n ≤ 9223372036854775807) (h : md n 7 = 1) (w : World) : Calls Tryd.prog 16 #[.int .i64 n] w fun e w' => e = .returned (V3.val (2, 0, es)) ∧ Below w.heap.size w w' := by
  go_enter Tryd.func16, Tryd.ntmps16
  go_wp2_with (go_at_call 18; refine (mod_any _ _ (by decide) (by decide) _).mono ?_; rintro e w' ⟨rfl, rfl⟩)
  exact bodyPost_ret (v := V3.val (2, 0, es)) (by simp [results, Tryd.results16, go_sem, V3.val, vv, es]) rfl ⟨rfl, ((Below.refl w.heap.size w).alloc (Nat.le_refl _) _)⟩
set_option maxRecDepth 3000 in
theorem const_2 (n : Int) (_h1 : -9223372036854775808 ≤ n) (_h2 : n ≤ 9223372036854775807) (h : md n 7 = 2) (w : World) : Calls Tryd.prog 16 #[.int .i64 n] w fun e w' => e = .returned (V3.val (2, 1, es)) ∧ Below w.heap.size w w' := by
  go_enter Tryd.func16, Tryd.ntmps16
  go_wp2_with (go_at_call 18; refine (mod_any _ _ (by decide) (by decide) _).mono ?_; rintro e w' ⟨rfl, rfl⟩)
  exact bodyPost_ret (v := V3.val (2, 1, es)) (by simp [results, Tryd.results16, go_sem, V3.val, vv, es]) rfl ⟨rfl, ((Below.refl w.heap.size w).alloc (Nat.le_refl _) _)⟩
set_option maxRecDepth 3000 in
theorem const_3 (n : Int) (_h1 : -9223372036854775808 ≤ n) (_h2 : n ≤ 9223372036854775807) (h : md n 7 = 3) (w : World) : Calls Tryd.prog 16 #[.int .i64 n] w fun e w' => e = .returned (V3.val (3, n.tmod 1000, es)) ∧ Below w.heap.size w w' := by
  go_enter Tryd.func16, Tryd.ntmps16
  go_wp2_with (go_at_call 18; refine (mod_any _ _ (by decide) (by decide) _).mono ?_; rintro e w' ⟨rfl, rfl⟩)
  exact bodyPost_ret (v := V3.val (3, n.tmod 1000, es)) (by simp [results, Tryd.results16, go_sem, V3.val, vv, es]) rfl ⟨rfl, ((Below.refl w.heap.size w).alloc (Nat.le_refl _) _)⟩
set_option maxRecDepth 3000 in
theorem const_40 (n : Int) (h1 : -9223372036854775808 ≤ n) (h2 : n ≤ 9223372036854775807) (h : md n 7 = 4) (h' : md (n.tdiv 7) 3 = 0) (w : World) : Calls Tryd.prog 16 #[.int .i64 n] w fun e w' => e = .returned (V3.val (3, 1000000000000000, es)) ∧ Below w.heap.size w w' := by
  go_enter Tryd.func16, Tryd.ntmps16
  go_wp2_with (go_at_call 18; refine (mod_any _ _ (by decide) (by decide) _).mono ?_; rintro e w' ⟨rfl, rfl⟩)
  exact bodyPost_ret (v := V3.val (3, 1000000000000000, es)) (by simp [results, Tryd.results16, go_sem, V3.val, vv, es]) rfl ⟨rfl, (((Below.refl w.heap.size w).alloc (Nat.le_refl _) _).alloc (by simp) _)⟩
set_option maxRecDepth 3000 in
theorem const_41 (n : Int) (h1 : -9223372036854775808 ≤ n) (h2 : n ≤ 9223372036854775807) (h : md n 7 = 4) (h' : md (n.tdiv 7) 3 = 1) (w : World) : Calls Tryd.prog 16 #[.int .i64 n] w fun e w' => e = .returned (V3.val (3, (-1000000000000000), es)) ∧ Below w.heap.size w w' := by
  go_enter Tryd.func16, Tryd.ntmps16
  go_wp2_with (go_at_call 18; refine (mod_any _ _ (by decide) (by decide) _).mono ?_; rintro e w' ⟨rfl, rfl⟩)
  exact bodyPost_ret (v := V3.val (3, (-1000000000000000), es)) (by simp [results, Tryd.results16, go_sem, V3.val, vv, es]) rfl ⟨rfl, (((Below.refl w.heap.size w).alloc (Nat.le_refl _) _).alloc (by simp) _)⟩
set_option maxRecDepth 3000 in
theorem const_42 (n : Int) (h1 : -9223372036854775808 ≤ n) (h2 : n ≤ 9223372036854775807) (h : md n 7 = 4) (h' : md (n.tdiv 7) 3 = 2) (w : World) : Calls Tryd.prog 16 #[.int .i64 n] w fun e w' => e = .returned (V3.val (3, 0, es)) ∧ Below w.heap.size w w' := by
  go_enter Tryd.func16, Tryd.ntmps16
  go_wp2_with (go_at_call 18; refine (mod_any _ _ (by decide) (by decide) _).mono ?_; rintro e w' ⟨rfl, rfl⟩)
  exact bodyPost_ret (v := V3.val (3, 0, es)) (by simp [results, Tryd.results16, go_sem, V3.val, vv, es]) rfl ⟨rfl, (((Below.refl w.heap.size w).alloc (Nat.le_refl _) _).alloc (by simp) _)⟩
set_option maxRecDepth 3000 in
theorem const_50 (n : Int) (h1 : -9223372036854775808 ≤ n) (h2 : n ≤ 9223372036854775807) (h : md n 7 = 5) (h' : md (n.tdiv 7) 6 = 0) (w : World) : Calls Tryd.prog 16 #[.int .i64 n] w fun e w' => e = .returned (V3.val (4, 0, ⟨#[]⟩)) ∧ Below w.heap.size w w' := by
  go_enter Tryd.func16, Tryd.ntmps16
  go_wp2_with (go_at_call 18; refine (mod_any _ _ (by decide) (by decide) _).mono ?_; rintro e w' ⟨rfl, rfl⟩)
  exact bodyPost_ret (v := V3.val (4, 0, ⟨#[]⟩)) (by simp [results, Tryd.results16, go_sem, V3.val, vv]) rfl ⟨rfl, (((Below.refl w.heap.size w).alloc (Nat.le_refl _) _).alloc (by simp) _)⟩
set_option maxRecDepth 3000 in
theorem const_51 (n : Int) (h1 : -9223372036854775808 ≤ n) (h2 : n ≤ 9223372036854775807) (h : md n 7 = 5) (h' : md (n.tdiv 7) 6 = 1) (w : World) : Calls Tryd.prog 16 #[.int .i64 n] w fun e w' => e = .returned (V3.val (4, 0, ⟨#[105, 116, 39, 115]⟩)) ∧ Below w.heap.size w w' := by
  go_enter Tryd.func16, Tryd.ntmps16
  go_wp2_with (go_at_call 18; refine (mod_any _ _ (by decide) (by decide) _).mono ?_; rintro e w' ⟨rfl, rfl⟩)
  exact bodyPost_ret (v := V3.val (4, 0, ⟨#[105, 116, 39, 115]⟩)) (by simp [results, Tryd.results16, go_sem, V3.val, vv]) rfl ⟨rfl, (((Below.refl w.heap.size w).alloc (Nat.le_refl _) _).alloc (by simp) _)⟩
set_option maxRecDepth 3000 in
theorem const_52 (n : Int) (h1 : -9223372036854775808 ≤ n) (h2 : n ≤ 9223372036854775807) (h : md n 7 = 5) (h' : md (n.tdiv 7) 6 = 2) (w : World) : Calls Tryd.prog 16 #[.int .i64 n] w fun e w' => e = .returned (V3.val (4, 0, ⟨#[39, 39]⟩)) ∧ Below w.heap.size w w' := by
  go_enter Tryd.func16, Tryd.ntmps16
  go_wp2_with (go_at_call 18; refine (mod_any _ _ (by decide) (by decide) _).mono ?_; rintro e w' ⟨rfl, rfl⟩)
  exact bodyPost_ret (v := V3.val (4, 0, ⟨#[39, 39]⟩)) (by simp [results, Tryd.results16, go_sem, V3.val, vv]) rfl ⟨rfl, (((Below.refl w.heap.size w).alloc (Nat.le_refl _) _).alloc (by simp) _)⟩
set_option maxRecDepth 3000 in
theorem const_53 (n : Int) (h1 : -9223372036854775808 ≤ n) (h2 : n ≤ 9223372036854775807) (h : md n 7 = 5) (h' : md (n.tdiv 7) 6 = 3) (w : World) : Calls Tryd.prog 16 #[.int .i64 n] w fun e w' => e = .returned (V3.val (4, 0, ⟨#[120, 32, 61, 32, 121]⟩)) ∧ Below w.heap.size w w' := by
  go_enter Tryd.func16, Tryd.ntmps16
  go_wp2_with (go_at_call 18; refine (mod_any _ _ (by decide) (by decide) _).mono ?_; rintro e w' ⟨rfl, rfl⟩)
  exact bodyPost_ret (v := V3.val (4, 0, ⟨#[120, 32, 61, 32, 121]⟩)) (by simp [results, Tryd.results16, go_sem, V3.val, vv]) rfl ⟨rfl, (((Below.refl w.heap.size w).alloc (Nat.le_refl _) _).alloc (by simp) _)⟩
set_option maxRecDepth 3000 in
theorem const_54 (n : Int) (h1 : -9223372036854775808 ≤ n) (h2 : n ≤ 9223372036854775807) (h : md n 7 = 5) (h' : md (n.tdiv 7) 6 = 4) (w : World) : Calls Tryd.prog 16 #[.int .i64 n] w fun e w' => e = .returned (V3.val (4, 0, ⟨#[32]⟩)) ∧ Below w.heap.size w w' := by
  go_enter Tryd.func16, Tryd.ntmps16
  go_wp2_with (go_at_call 18; refine (mod_any _ _ (by decide) (by decide) _).mono ?_; rintro e w' ⟨rfl, rfl⟩)
  exact bodyPost_ret (v := V3.val (4, 0, ⟨#[32]⟩)) (by simp [results, Tryd.results16, go_sem, V3.val, vv]) rfl ⟨rfl, (((Below.refl w.heap.size w).alloc (Nat.le_refl _) _).alloc (by simp) _)⟩
set_option maxRecDepth 3000 in
theorem const_55 (n : Int) (h1 : -9223372036854775808 ≤ n) (h2 : n ≤ 9223372036854775807) (h : md n 7 = 5) (h' : md (n.tdiv 7) 6 = 5) (w : World) : Calls Tryd.prog 16 #[.int .i64 n] w fun e w' => e = .returned (V3.val (4, 0, ⟨#[97, 46, 98, 91, 99, 93]⟩)) ∧ Below w.heap.size w w' := by
  go_enter Tryd.func16, Tryd.ntmps16
  go_wp2_with (go_at_call 18; refine (mod_any _ _ (by decide) (by decide) _).mono ?_; rintro e w' ⟨rfl, rfl⟩)
  exact bodyPost_ret (v := V3.val (4, 0, ⟨#[97, 46, 98, 91, 99, 93]⟩)) (by simp [results, Tryd.results16, go_sem, V3.val, vv]) rfl ⟨rfl, (((Below.refl w.heap.size w).alloc (Nat.le_refl _) _).alloc (by simp) _)⟩
set_option maxRecDepth 3000 in
theorem const_6 (n : Int) (h1 : -9223372036854775808 ≤ n) (h2 : n ≤ 9223372036854775807) (h : md n 7 = 6) (w : World) : Calls Tryd.prog 16 #[.int .i64 n] w fun e w' => e = .returned (V3.val (4, 0, word (n.tdiv 7))) ∧ Below w.heap.size w w' := by
  have C := Lib.hid (word_any (n.tdiv 7))
  generalize hx : word (n.tdiv 7) = x at *
  have HX := Lib.hid hx
  clear hx
  go_enter Tryd.func16, Tryd.ntmps16
  go_wp2_with (go_at_call 18; refine (mod_any _ _ (by decide) (by decide) _).mono ?_; rintro e w' ⟨rfl, rfl⟩)
  refine (C.out _).mono ?_
  rintro e w1 ⟨rfl, hb1⟩
  obtain ⟨k0, k1, k2, kf, kz⟩ := ((Own.new _ _ _).below hb1 (by simp only [World.size_alloc]; omega)).facts
  have g1 := Lib.hid (((Below.refl w.heap.size w).alloc (Nat.le_refl _) _).trans (hb1.mono (by simp only [World.size_alloc]; omega)))
  clear hb1
  go_wp2_with fail
  exact bodyPost_ret (v := vv 4 0 x) (by simp [results, Tryd.results16, go_sem, vv, k0, k1, k2]) rfl ⟨rfl, setres g1.out _ _ _⟩
theorem const_any (n : Int) (h1 : -9223372036854775808 ≤ n) (h2 : n ≤ 9223372036854775807) (w : World) : Calls Tryd.prog 16 #[.int .i64 n] w fun e w' => e = .returned (V3.val (const3 n)) ∧ Below w.heap.size w w' := by
  have hb := md_bd n 7 (by decide)
  have hk : md n 7 = 0 ∨ md n 7 = 1 ∨ md n 7 = 2 ∨ md n 7 = 3 ∨ md n 7 = 4 ∨ md n 7 = 5 ∨ md n 7 = 6 := by omega
  unfold const3
  rcases hk with h | h | h | h | h | h | h
  · rw [if_pos h]; exact const_0 n h1 h2 h w
  · rw [if_neg (by omega), if_pos h]; exact const_1 n h1 h2 h w
  · rw [if_neg (by omega), if_neg (by omega), if_pos h]; exact const_2 n h1 h2 h w
  · rw [if_neg (by omega), if_neg (by omega), if_neg (by omega), if_pos h]; exact const_3 n h1 h2 h w
  · rw [if_neg (by omega), if_neg (by omega), if_neg (by omega), if_neg (by omega), if_pos h]
    have hb' := md_bd (n.tdiv 7) 3 (by decide)
    have hk' : md (n.tdiv 7) 3 = 0 ∨ md (n.tdiv 7) 3 = 1 ∨ md (n.tdiv 7) 3 = 2 := by omega
    rcases hk' with h' | h' | h'
    · rw [h']; exact const_40 n h1 h2 h h' w
    · rw [h']; exact const_41 n h1 h2 h h' w
    · rw [h']; exact const_42 n h1 h2 h h' w
  · rw [if_neg (by omega), if_neg (by omega), if_neg (by omega), if_neg (by omega), if_neg (by omega), if_pos h]
    have hb' := md_bd (n.tdiv 7) 6 (by decide)
    have hk' : md (n.tdiv 7) 6 = 0 ∨ md (n.tdiv 7) 6 = 1 ∨ md (n.tdiv 7) 6 = 2 ∨ md (n.tdiv 7) 6 = 3 ∨ md (n.tdiv 7) 6 = 4 ∨ md (n.tdiv 7) 6 = 5 := by omega
    rcases hk' with h' | h' | h' | h' | h' | h'
    · rw [h']; exact const_50 n h1 h2 h h' w
    · rw [h']; exact const_51 n h1 h2 h h' w
    · rw [h']; exact const_52 n h1 h2 h h' w
    · rw [h']; exact const_53 n h1 h2 h h' w
    · rw [h']; exact const_54 n h1 h2 h h' w
    · rw [h']; exact const_55 n h1 h2 h h' w
  · rw [if_neg (by omega), if_neg (by omega), if_neg (by omega), if_neg (by omega), if_neg (by omega), if_neg (by omega)]; exact const_6 n h1 h2 h w
theorem plain_any (s : ByteArray) (w : World) (hs : s.size ≤ maxLen) :
    Calls Tryd.prog 29 #[.string s] w fun e w' => e = .returned (.bool (prtB s.data.toList)) ∧ w = w' := by
  unfold maxLen at hs
  go_enter Tryd.func29, Tryd.ntmps29
  go_wp2
  go_loop [3] (fun i => ∃ k : Nat, k ≤ s.size ∧ i = .int .i64 k ∧ allB s.data.toList = allB (s.data.toList.drop k)) (fun i => s.size - (intOf i).toNat)
  case atStart => exact ⟨0, Nat.zero_le _, rfl, by simp⟩
  case round =>
    obtain ⟨k, hk, rfl, hr⟩ := hrel
    have HR := Lib.hid hr; clear hr
    by_cases hlt : k < s.size
    · go_wp2
      · go_ret
        exact ⟨ret_bool (by unfold prtB; rw [HR.out, all_stop s k hlt (by unfold chrB; simp; omega)]; simp), rfl⟩
      · go_round
        case rel => exact ⟨k + 1, by omega, by go_num, by rw [HR.out, all_step s k hlt (by unfold chrB; simp; omega)]⟩
        case measure => simp [intOf]; omega
      · go_ret
        exact ⟨ret_bool (by unfold prtB; rw [HR.out, all_stop s k hlt (by unfold chrB; simp; omega)]; simp), rfl⟩
    · go_wp2
      go_ret
      exact ⟨ret_bool (by unfold prtB; rw [HR.out, all_end s k hlt]; simp; omega), rfl⟩
theorem refRight_str (n : Int) (s : ByteArray) (w : World) (hm : s.size ≤ maxLen) :
    Calls Tryd.prog 23 #[vv 4 n s] w fun e w' => e = .returned (.bool (rightB 4 n s)) ∧ Below w.heap.size w w' := by
  have C := Lib.hid (fun w => plain_any s w hm)
  have hr : rightB 4 n s = (prtB s.data.toList && (n == 0)) := by
    unfold rightB bndB; rw [Bool.eq_iff_iff]; simp; exact And.comm
  rw [hr]
  clear hr
  generalize prtB s.data.toList = p at *
  unfold vv
  go_enter Tryd.func23, Tryd.ntmps23
  go_wp2_with fail
  refine (C.out _).mono ?_
  rintro e w1 ⟨rfl, rfl⟩
  cases p
  all_goals
    go_wp2_with fail
    all_goals go_ret
    all_goals exact ⟨ret_bool (by simp), (Below.refl _ _).alloc (Nat.le_refl _) _⟩
theorem refRight_full (k n : Int) (s : ByteArray) (w : World) (h4 : (k == 4) = false) (hs : (!s.toList.isEmpty) = true) :
    Calls Tryd.prog 23 #[vv k n s] w fun e w' => e = .returned (.bool (rightB k n s)) ∧ Below w.heap.size w w' := by
  unfold vv
  go_enter Tryd.func23, Tryd.ntmps23
  go_wp2
  go_ret
  refine ⟨ret_bool ?_, (Below.refl _ _).alloc (Nat.le_refl _) _⟩
  have e4 : decide (k = 4) = false := by simpa using h4
  have es : s.data.toList.isEmpty = false := by
    have h : s.toList.isEmpty = false := by simpa using hs
    rwa [ByteArray.toList_eq] at h
  unfold rightB
  rw [e4, es]
  simp
theorem right_es (k n : Int) (_h : k ≠ 4) : rightB k n es = bndB k n := by
  unfold rightB es; simp [prtB, allB]
theorem refRight_none (k n : Int) (w : World) (h4 : (k == 4) = false) :
    Calls Tryd.prog 23 #[vv k n es] w fun e w' => e = .returned (.bool (rightB k n es)) ∧ Below w.heap.size w w' := by
  have hk : k ≠ 4 := by simpa using h4
  rw [right_es k n hk]
  by_cases hk' : k = 0 ∨ k = 1 ∨ k = 2 ∨ k = 3 ∨ k = 5 ∨ k = 6
  · clear h4 hk
    rcases hk' with rfl | rfl | rfl | rfl | rfl | rfl
    all_goals
      unfold vv es
      go_enter Tryd.func23, Tryd.ntmps23
      go_wp2
    all_goals
      go_ret
      refine ⟨ret_bool ?_, (Below.refl _ _).alloc (Nat.le_refl _) _⟩
      unfold bndB
      first | rfl | (rw [Bool.eq_iff_iff]; simp; done) | (rw [Bool.eq_iff_iff]; simp; omega)
  · have a0 : (k == 0) = false := by simp; omega
    have a1 : (k == 1) = false := by simp; omega
    have a2 : (k == 2) = false := by simp; omega
    have a3 : (k == 3) = false := by simp; omega
    have a5 : (k == 5) = false := by simp; omega
    have a6 : (k == 6) = false := by simp; omega
    have hb : bndB k n = false := by unfold bndB; simp; omega
    rw [hb]
    clear hk hk' hb
    unfold vv es
    go_enter Tryd.func23, Tryd.ntmps23
    go_wp2
    go_ret
    exact ⟨rfl, (Below.refl _ _).alloc (Nat.le_refl _) _⟩
theorem refRight_any (v : V3) (w : World) (hm : v.2.2.size ≤ maxLen) :
    Calls Tryd.prog 23 #[v.val] w fun e w' => e = .returned (.bool (right3 v)) ∧ Below w.heap.size w w' := by
  obtain ⟨k, n, s⟩ := v
  simp only at hm
  show Calls Tryd.prog 23 #[vv k n s] w _
  unfold right3
  simp only
  by_cases h4 : k = 4
  · subst h4; exact refRight_str n s w hm
  by_cases hs : s.toList = []
  · obtain rfl : s = es := by rw [ByteArray.toList_eq] at hs; exact WideShapes.bytes_inj (by simpa [es] using hs)
    exact refRight_none k n w (by simpa using h4)
  · exact refRight_full k n s w (by simpa using h4) (by simpa using hs)
theorem refRight_at (k n : Int) (s : ByteArray) (b : Bool) (h : rightB k n s = b) (hm : s.size ≤ maxLen) (w : World) :
    Calls Tryd.prog 23 #[vv k n s] w fun e w' => e = .returned (.bool b) ∧ Below w.heap.size w w' :=
  (refRight_any (k, n, s) w hm).mono fun e w' ⟨he, hb⟩ => ⟨by rw [he, show right3 (k, n, s) = b from h], hb⟩
end Go.Proofs.YtbpehdpcnnaidaaDoor.Va
