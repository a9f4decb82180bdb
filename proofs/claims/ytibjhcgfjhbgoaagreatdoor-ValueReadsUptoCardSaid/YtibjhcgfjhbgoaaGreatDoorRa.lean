/-
  Contracts of the makers of values of the reference: Mod, Word, Const, Made. What is made is right.
-/
import Derived.Test.YtibjhcgfjhbgoaaGreatDoorVp
namespace Go.Proofs.YtibjhcgfjhbgoaaGreatDoor.Va
open Go Go.RowKit Mp

def md (n m : Int) : Int := (n.tmod m + m).tmod m
theorem md_bd (n m : Int) (h : 0 < m) : 0 ≤ md n m ∧ md n m < m := by
  unfold md
  have h1 : -m < n.tmod m := by have := Int.lt_tmod_of_pos n h; omega
  have h2 := Int.tmod_nonneg m (a := n.tmod m + m) (by omega)
  have h3 := Int.tmod_lt_of_pos (n.tmod m + m) h
  exact ⟨h2, h3⟩
theorem mod_any (n m : Int) (h0 : 0 < m) (h1 : m ≤ 1000) (w : World) :
    Calls Tryz.prog 23 #[.int .i64 n, .int .i64 m] w fun e w' => e = .returned (.int .i64 (md n m)) ∧ w = w' := by
  have b1 : -1000 ≤ n.tmod m ∧ n.tmod m ≤ 1000 := by
    have a1 := Int.lt_tmod_of_pos n h0
    have a2 := Int.tmod_lt_of_pos n h0
    omega
  obtain ⟨b1, b2⟩ := b1
  have hm : (m == 0) = false := by simp; omega
  go_enter Tryz.func23, Tryz.ntmps23
  go_wp2
  go_ret
  exact ⟨rfl, rfl⟩
theorem tdiv_in (n : Int) (h1 : -9223372036854775808 ≤ n) (h2 : n ≤ 9223372036854775807) : -9223372036854775808 ≤ n.tdiv 11 ∧ n.tdiv 11 ≤ 9223372036854775807 := by
  have e : (n.tdiv 11).natAbs = n.natAbs / 11 := Int.natAbs_tdiv n 11
  omega
def pick (l : List (List UInt8)) (k : Int) : ByteArray := bs (l.getD k.toNat [])
def words8 : List (List UInt8) := [[120], [121], [105], [109, 97, 105, 110], [102, 49], [78, 111, 100, 101], [97, 98, 99, 100, 101, 102, 103, 104, 105, 106, 107, 108], [110, 101, 120, 116]]
def strs6 : List (List UInt8) := [[], [105, 116, 39, 115], [39, 39], [120, 32, 61, 32, 121], [32], [97, 46, 98, 91, 99, 93]]
def word (n : Int) : ByteArray := pick words8 (md n 8)
set_option maxRecDepth 3000 in
theorem word_any (n : Int) (w : World) : Calls Tryz.prog 40 #[.int .i64 n] w fun e w' => e = .returned (.string (word n)) ∧ Below w.heap.size w w' := by
  have hb := md_bd n 8 (by decide)
  have hk : md n 8 = 0 ∨ md n 8 = 1 ∨ md n 8 = 2 ∨ md n 8 = 3 ∨ md n 8 = 4 ∨ md n 8 = 5 ∨ md n 8 = 6 ∨ md n 8 = 7 := by omega
  clear hb
  unfold word
  rcases hk with h | h | h | h | h | h | h | h
  all_goals
    go_enter Tryz.func40, Tryz.ntmps40
    go_wp2_with (go_at_call 23; refine (mod_any _ _ (by decide) (by decide) _).mono ?_; rintro e w' ⟨rfl, rfl⟩)
    go_ret
    exact ⟨by rw [h]; rfl, (Below.refl _ _).alloc (Nat.le_refl _) _⟩
def const3 (n : Int) : V3 :=
  if md n 7 = 0 then (1, 0, es)
  else if md n 7 = 1 then (2, 0, es)
  else if md n 7 = 2 then (2, 1, es)
  else if md n 7 = 3 then (3, n.tmod 1000, es)
  else if md n 7 = 4 then (3, ([1000000000000000, -1000000000000000, 0] : List Int).getD (md (n.tdiv 7) 3).toNat 0, es)
  else if md n 7 = 5 then (4, 0, pick strs6 (md (n.tdiv 7) 6))
  else (4, 0, word (n.tdiv 7))
set_option maxRecDepth 3000 in
theorem const_0 (n : Int) (_h1 : -9223372036854775808 ≤ n) (_h2 : n ≤ 9223372036854775807) (h : md n 7 = 0) (w : World) : Calls Tryz.prog 25 #[.int .i64 n] w fun e w' => e = .returned (V3.val (1, 0, es)) ∧ Below w.heap.size w w' := by
  go_enter Tryz.func25, Tryz.ntmps25
  go_wp2_with (go_at_call 23; refine (mod_any _ _ (by decide) (by decide) _).mono ?_; rintro e w' ⟨rfl, rfl⟩)
  exact bodyPost_ret (v := V3.val (1, 0, es)) (by simp [results, Tryz.results25, go_sem, V3.val, vv, es]) rfl ⟨rfl, ((Below.refl w.heap.size w).alloc (Nat.le_refl _) _)⟩
set_option maxRecDepth 3000 in
theorem const_1 (n : Int) (_h1 : -9223372036854775808 ≤ n) (_h2 : n ≤ 9223372036854775807) (h : md n 7 = 1) (w : World) : Calls Tryz.prog 25 #[.int .i64 n] w fun e w' => e = .returned (V3.val (2, 0, es)) ∧ Below w.heap.size w w' := by
  go_enter Tryz.func25, Tryz.ntmps25
  go_wp2_with (go_at_call 23; refine (mod_any _ _ (by decide) (by decide) _).mono ?_; rintro e w' ⟨rfl, rfl⟩)
  exact bodyPost_ret (v := V3.val (2, 0, es)) (by simp [results, Tryz.results25, go_sem, V3.val, vv, es]) rfl ⟨rfl, ((Below.refl w.heap.size w).alloc (Nat.le_refl _) _)⟩
set_option maxRecDepth 3000 in
theorem const_2 (n : Int) (_h1 : -9223372036854775808 ≤ n) (_h2 : n ≤ 9223372036854775807) (h : md n 7 = 2) (w : World) : Calls Tryz.prog 25 #[.int .i64 n] w fun e w' => e = .returned (V3.val (2, 1, es)) ∧ Below w.heap.size w w' := by
  go_enter Tryz.func25, Tryz.ntmps25
  go_wp2_with (go_at_call 23; refine (mod_any _ _ (by decide) (by decide) _).mono ?_; rintro e w' ⟨rfl, rfl⟩)
  exact bodyPost_ret (v := V3.val (2, 1, es)) (by simp [results, Tryz.results25, go_sem, V3.val, vv, es]) rfl ⟨rfl, ((Below.refl w.heap.size w).alloc (Nat.le_refl _) _)⟩
set_option maxRecDepth 3000 in
theorem const_3 (n : Int) (_h1 : -9223372036854775808 ≤ n) (_h2 : n ≤ 9223372036854775807) (h : md n 7 = 3) (w : World) : Calls Tryz.prog 25 #[.int .i64 n] w fun e w' => e = .returned (V3.val (3, n.tmod 1000, es)) ∧ Below w.heap.size w w' := by
  go_enter Tryz.func25, Tryz.ntmps25
  go_wp2_with (go_at_call 23; refine (mod_any _ _ (by decide) (by decide) _).mono ?_; rintro e w' ⟨rfl, rfl⟩)
  exact bodyPost_ret (v := V3.val (3, n.tmod 1000, es)) (by simp [results, Tryz.results25, go_sem, V3.val, vv, es]) rfl ⟨rfl, ((Below.refl w.heap.size w).alloc (Nat.le_refl _) _)⟩
set_option maxRecDepth 3000 in
theorem const_40 (n : Int) (h1 : -9223372036854775808 ≤ n) (h2 : n ≤ 9223372036854775807) (h : md n 7 = 4) (h' : md (n.tdiv 7) 3 = 0) (w : World) : Calls Tryz.prog 25 #[.int .i64 n] w fun e w' => e = .returned (V3.val (3, 1000000000000000, es)) ∧ Below w.heap.size w w' := by
  go_enter Tryz.func25, Tryz.ntmps25
  go_wp2_with (go_at_call 23; refine (mod_any _ _ (by decide) (by decide) _).mono ?_; rintro e w' ⟨rfl, rfl⟩)
  exact bodyPost_ret (v := V3.val (3, 1000000000000000, es)) (by simp [results, Tryz.results25, go_sem, V3.val, vv, es]) rfl ⟨rfl, (((Below.refl w.heap.size w).alloc (Nat.le_refl _) _).alloc (by simp) _)⟩
set_option maxRecDepth 3000 in
theorem const_41 (n : Int) (h1 : -9223372036854775808 ≤ n) (h2 : n ≤ 9223372036854775807) (h : md n 7 = 4) (h' : md (n.tdiv 7) 3 = 1) (w : World) : Calls Tryz.prog 25 #[.int .i64 n] w fun e w' => e = .returned (V3.val (3, (-1000000000000000), es)) ∧ Below w.heap.size w w' := by
  go_enter Tryz.func25, Tryz.ntmps25
  go_wp2_with (go_at_call 23; refine (mod_any _ _ (by decide) (by decide) _).mono ?_; rintro e w' ⟨rfl, rfl⟩)
  exact bodyPost_ret (v := V3.val (3, (-1000000000000000), es)) (by simp [results, Tryz.results25, go_sem, V3.val, vv, es]) rfl ⟨rfl, (((Below.refl w.heap.size w).alloc (Nat.le_refl _) _).alloc (by simp) _)⟩
set_option maxRecDepth 3000 in
theorem const_42 (n : Int) (h1 : -9223372036854775808 ≤ n) (h2 : n ≤ 9223372036854775807) (h : md n 7 = 4) (h' : md (n.tdiv 7) 3 = 2) (w : World) : Calls Tryz.prog 25 #[.int .i64 n] w fun e w' => e = .returned (V3.val (3, 0, es)) ∧ Below w.heap.size w w' := by
  go_enter Tryz.func25, Tryz.ntmps25
  go_wp2_with (go_at_call 23; refine (mod_any _ _ (by decide) (by decide) _).mono ?_; rintro e w' ⟨rfl, rfl⟩)
  exact bodyPost_ret (v := V3.val (3, 0, es)) (by simp [results, Tryz.results25, go_sem, V3.val, vv, es]) rfl ⟨rfl, (((Below.refl w.heap.size w).alloc (Nat.le_refl _) _).alloc (by simp) _)⟩
set_option maxRecDepth 3000 in
theorem const_50 (n : Int) (h1 : -9223372036854775808 ≤ n) (h2 : n ≤ 9223372036854775807) (h : md n 7 = 5) (h' : md (n.tdiv 7) 6 = 0) (w : World) : Calls Tryz.prog 25 #[.int .i64 n] w fun e w' => e = .returned (V3.val (4, 0, ⟨#[]⟩)) ∧ Below w.heap.size w w' := by
  go_enter Tryz.func25, Tryz.ntmps25
  go_wp2_with (go_at_call 23; refine (mod_any _ _ (by decide) (by decide) _).mono ?_; rintro e w' ⟨rfl, rfl⟩)
  exact bodyPost_ret (v := V3.val (4, 0, ⟨#[]⟩)) (by simp [results, Tryz.results25, go_sem, V3.val, vv]) rfl ⟨rfl, (((Below.refl w.heap.size w).alloc (Nat.le_refl _) _).alloc (by simp) _)⟩
set_option maxRecDepth 3000 in
theorem const_51 (n : Int) (h1 : -9223372036854775808 ≤ n) (h2 : n ≤ 9223372036854775807) (h : md n 7 = 5) (h' : md (n.tdiv 7) 6 = 1) (w : World) : Calls Tryz.prog 25 #[.int .i64 n] w fun e w' => e = .returned (V3.val (4, 0, ⟨#[105, 116, 39, 115]⟩)) ∧ Below w.heap.size w w' := by
  go_enter Tryz.func25, Tryz.ntmps25
  go_wp2_with (go_at_call 23; refine (mod_any _ _ (by decide) (by decide) _).mono ?_; rintro e w' ⟨rfl, rfl⟩)
  exact bodyPost_ret (v := V3.val (4, 0, ⟨#[105, 116, 39, 115]⟩)) (by simp [results, Tryz.results25, go_sem, V3.val, vv]) rfl ⟨rfl, (((Below.refl w.heap.size w).alloc (Nat.le_refl _) _).alloc (by simp) _)⟩
set_option maxRecDepth 3000 in
theorem const_52 (n : Int) (h1 : -9223372036854775808 ≤ n) (h2 : n ≤ 9223372036854775807) (h : md n 7 = 5) (h' : md (n.tdiv 7) 6 = 2) (w : World) : Calls Tryz.prog 25 #[.int .i64 n] w fun e w' => e = .returned (V3.val (4, 0, ⟨#[39, 39]⟩)) ∧ Below w.heap.size w w' := by
  go_enter Tryz.func25, Tryz.ntmps25
  go_wp2_with (go_at_call 23; refine (mod_any _ _ (by decide) (by decide) _).mono ?_; rintro e w' ⟨rfl, rfl⟩)
  exact bodyPost_ret (v := V3.val (4, 0, ⟨#[39, 39]⟩)) (by simp [results, Tryz.results25, go_sem, V3.val, vv]) rfl ⟨rfl, (((Below.refl w.heap.size w).alloc (Nat.le_refl _) _).alloc (by simp) _)⟩
set_option maxRecDepth 3000 in
theorem const_53 (n : Int) (h1 : -9223372036854775808 ≤ n) (h2 : n ≤ 9223372036854775807) (h : md n 7 = 5) (h' : md (n.tdiv 7) 6 = 3) (w : World) : Calls Tryz.prog 25 #[.int .i64 n] w fun e w' => e = .returned (V3.val (4, 0, ⟨#[120, 32, 61, 32, 121]⟩)) ∧ Below w.heap.size w w' := by
  go_enter Tryz.func25, Tryz.ntmps25
  go_wp2_with (go_at_call 23; refine (mod_any _ _ (by decide) (by decide) _).mono ?_; rintro e w' ⟨rfl, rfl⟩)
  exact bodyPost_ret (v := V3.val (4, 0, ⟨#[120, 32, 61, 32, 121]⟩)) (by simp [results, Tryz.results25, go_sem, V3.val, vv]) rfl ⟨rfl, (((Below.refl w.heap.size w).alloc (Nat.le_refl _) _).alloc (by simp) _)⟩
set_option maxRecDepth 3000 in
theorem const_54 (n : Int) (h1 : -9223372036854775808 ≤ n) (h2 : n ≤ 9223372036854775807) (h : md n 7 = 5) (h' : md (n.tdiv 7) 6 = 4) (w : World) : Calls Tryz.prog 25 #[.int .i64 n] w fun e w' => e = .returned (V3.val (4, 0, ⟨#[32]⟩)) ∧ Below w.heap.size w w' := by
  go_enter Tryz.func25, Tryz.ntmps25
  go_wp2_with (go_at_call 23; refine (mod_any _ _ (by decide) (by decide) _).mono ?_; rintro e w' ⟨rfl, rfl⟩)
  exact bodyPost_ret (v := V3.val (4, 0, ⟨#[32]⟩)) (by simp [results, Tryz.results25, go_sem, V3.val, vv]) rfl ⟨rfl, (((Below.refl w.heap.size w).alloc (Nat.le_refl _) _).alloc (by simp) _)⟩
set_option maxRecDepth 3000 in
theorem const_55 (n : Int) (h1 : -9223372036854775808 ≤ n) (h2 : n ≤ 9223372036854775807) (h : md n 7 = 5) (h' : md (n.tdiv 7) 6 = 5) (w : World) : Calls Tryz.prog 25 #[.int .i64 n] w fun e w' => e = .returned (V3.val (4, 0, ⟨#[97, 46, 98, 91, 99, 93]⟩)) ∧ Below w.heap.size w w' := by
  go_enter Tryz.func25, Tryz.ntmps25
  go_wp2_with (go_at_call 23; refine (mod_any _ _ (by decide) (by decide) _).mono ?_; rintro e w' ⟨rfl, rfl⟩)
  exact bodyPost_ret (v := V3.val (4, 0, ⟨#[97, 46, 98, 91, 99, 93]⟩)) (by simp [results, Tryz.results25, go_sem, V3.val, vv]) rfl ⟨rfl, (((Below.refl w.heap.size w).alloc (Nat.le_refl _) _).alloc (by simp) _)⟩
set_option maxRecDepth 3000 in
theorem const_6 (n : Int) (h1 : -9223372036854775808 ≤ n) (h2 : n ≤ 9223372036854775807) (h : md n 7 = 6) (w : World) : Calls Tryz.prog 25 #[.int .i64 n] w fun e w' => e = .returned (V3.val (4, 0, word (n.tdiv 7))) ∧ Below w.heap.size w w' := by
  have C := Lib.hid (word_any (n.tdiv 7))
  generalize hx : word (n.tdiv 7) = x at *
  have HX := Lib.hid hx
  clear hx
  go_enter Tryz.func25, Tryz.ntmps25
  go_wp2_with (go_at_call 23; refine (mod_any _ _ (by decide) (by decide) _).mono ?_; rintro e w' ⟨rfl, rfl⟩)
  refine (C.out _).mono ?_
  rintro e w1 ⟨rfl, hb1⟩
  obtain ⟨k0, k1, k2, kf, kz⟩ := ((Own.new _ _ _).below hb1 (by simp only [World.size_alloc]; omega)).facts
  have g1 := Lib.hid (((Below.refl w.heap.size w).alloc (Nat.le_refl _) _).trans (hb1.mono (by simp only [World.size_alloc]; omega)))
  clear hb1
  go_wp2_with fail
  exact bodyPost_ret (v := vv 4 0 x) (by simp [results, Tryz.results25, go_sem, vv, k0, k1, k2]) rfl ⟨rfl, setres g1.out _ _ _⟩
theorem const_any (n : Int) (h1 : -9223372036854775808 ≤ n) (h2 : n ≤ 9223372036854775807) (w : World) : Calls Tryz.prog 25 #[.int .i64 n] w fun e w' => e = .returned (V3.val (const3 n)) ∧ Below w.heap.size w w' := by
  have hb := md_bd n 7 (by decide)
  have hk : md n 7 = 0 ∨ md n 7 = 1 ∨ md n 7 = 2 ∨ md n 7 = 3 ∨ md n 7 = 4 ∨ md n 7 = 5 ∨ md n 7 = 6 := by omega
  unfold const3
  rcases hk with h | h | h | h | h | h | h
  · rw [if_pos h]; exact const_0 n h1 h2 h w
  · rw [if_neg (by omega), if_pos h]; exact const_1 n h1 h2 h w
  · rw [if_neg (by omega), if_neg (by omega), if_pos h]; exact const_2 n h1 h2 h w
  · rw [if_neg (by omega), if_neg (by omega), if_neg (by omega), if_pos h]; exact const_3 n h1 h2 h w
  · rw [if_neg (by omega), if_neg (by omega), if_neg (by omega), if_neg (by omega), if_pos h]
    have hb' := md_bd (n.tdiv 7) 3 (by decide)
    have hk' : md (n.tdiv 7) 3 = 0 ∨ md (n.tdiv 7) 3 = 1 ∨ md (n.tdiv 7) 3 = 2 := by omega
    rcases hk' with h' | h' | h'
    · rw [h']; exact const_40 n h1 h2 h h' w
    · rw [h']; exact const_41 n h1 h2 h h' w
    · rw [h']; exact const_42 n h1 h2 h h' w
  · rw [if_neg (by omega), if_neg (by omega), if_neg (by omega), if_neg (by omega), if_neg (by omega), if_pos h]
    have hb' := md_bd (n.tdiv 7) 6 (by decide)
    have hk' : md (n.tdiv 7) 6 = 0 ∨ md (n.tdiv 7) 6 = 1 ∨ md (n.tdiv 7) 6 = 2 ∨ md (n.tdiv 7) 6 = 3 ∨ md (n.tdiv 7) 6 = 4 ∨ md (n.tdiv 7) 6 = 5 := by omega
    rcases hk' with h' | h' | h' | h' | h' | h'
    · rw [h']; exact const_50 n h1 h2 h h' w
    · rw [h']; exact const_51 n h1 h2 h h' w
    · rw [h']; exact const_52 n h1 h2 h h' w
    · rw [h']; exact const_53 n h1 h2 h h' w
    · rw [h']; exact const_54 n h1 h2 h h' w
    · rw [h']; exact const_55 n h1 h2 h h' w
  · rw [if_neg (by omega), if_neg (by omega), if_neg (by omega), if_neg (by omega), if_neg (by omega), if_neg (by omega)]; exact const_6 n h1 h2 h w
def made3 (n : Int) : V3 :=
  if md n 11 = 0 then z3
  else if md n 11 = 1 then (5, md (n.tdiv 11) 5, es)
  else if md n 11 = 2 then (6, md (n.tdiv 11) 24, es)
  else if md n 11 = 3 ∨ md n 11 = 4 ∨ md n 11 = 5 then (3, n.tmod 100, es)
  else const3 (n.tdiv 11)
theorem refInt_any (n : Int) (w : World) :
    Calls Tryz.prog 24 #[.int .i64 n] w fun e w' => e = .returned (vv 3 n es) ∧ Below w.heap.size w w' := by
  go_enter Tryz.func24, Tryz.ntmps24
  go_wp2
  exact bodyPost_ret (v := vv 3 n es) (by simp [results, Tryz.results24, go_sem, vv, es]) rfl ⟨rfl, (Below.refl _ _).alloc (Nat.le_refl _) _⟩
set_option maxRecDepth 3000 in
theorem made_0 (n : Int) (_h1 : -9223372036854775808 ≤ n) (_h2 : n ≤ 9223372036854775807) (h : md n 11 = 0) (w : World) : Calls Tryz.prog 8 #[.int .i64 n] w fun e w' => e = .returned (V3.val z3) ∧ Below w.heap.size w w' := by
  go_enter Tryz.func8, Tryz.ntmps8
  go_wp2_with (go_at_call 23; refine (mod_any _ _ (by decide) (by decide) _).mono ?_; rintro e w' ⟨rfl, rfl⟩)
  exact bodyPost_ret (v := V3.val z3) (by simp [results, Tryz.results8, go_sem, V3.val, vv, es, z3]) rfl ⟨rfl, ((Below.refl w.heap.size w).alloc (Nat.le_refl _) _)⟩
set_option maxRecDepth 3000 in
theorem made_1 (n : Int) (h1 : -9223372036854775808 ≤ n) (h2 : n ≤ 9223372036854775807) (h : md n 11 = 1) (w : World) : Calls Tryz.prog 8 #[.int .i64 n] w fun e w' => e = .returned (V3.val (5, md (n.tdiv 11) 5, es)) ∧ Below w.heap.size w w' := by
  go_enter Tryz.func8, Tryz.ntmps8
  go_wp2_with (go_at_call 23; refine (mod_any _ _ (by decide) (by decide) _).mono ?_; rintro e w' ⟨rfl, rfl⟩)
  exact bodyPost_ret (v := V3.val (5, md (n.tdiv 11) 5, es)) (by simp [results, Tryz.results8, go_sem, V3.val, vv, es]) rfl ⟨rfl, ((Below.refl w.heap.size w).alloc (Nat.le_refl _) _)⟩
set_option maxRecDepth 3000 in
theorem made_2 (n : Int) (h1 : -9223372036854775808 ≤ n) (h2 : n ≤ 9223372036854775807) (h : md n 11 = 2) (w : World) : Calls Tryz.prog 8 #[.int .i64 n] w fun e w' => e = .returned (V3.val (6, md (n.tdiv 11) 24, es)) ∧ Below w.heap.size w w' := by
  go_enter Tryz.func8, Tryz.ntmps8
  go_wp2_with (go_at_call 23; refine (mod_any _ _ (by decide) (by decide) _).mono ?_; rintro e w' ⟨rfl, rfl⟩)
  exact bodyPost_ret (v := V3.val (6, md (n.tdiv 11) 24, es)) (by simp [results, Tryz.results8, go_sem, V3.val, vv, es]) rfl ⟨rfl, ((Below.refl w.heap.size w).alloc (Nat.le_refl _) _)⟩
set_option maxRecDepth 3000 in
theorem made_3 (n : Int) (_h1 : -9223372036854775808 ≤ n) (_h2 : n ≤ 9223372036854775807) (h : md n 11 = 3 ∨ md n 11 = 4 ∨ md n 11 = 5) (w : World) : Calls Tryz.prog 8 #[.int .i64 n] w fun e w' => e = .returned (V3.val (3, n.tmod 100, es)) ∧ Below w.heap.size w w' := by
  rcases h with h | h | h
  all_goals
    go_enter Tryz.func8, Tryz.ntmps8
    go_wp2_with (go_at_call 23; refine (mod_any _ _ (by decide) (by decide) _).mono ?_; rintro e w' ⟨rfl, rfl⟩)
    refine (refInt_any _ _).mono ?_
    rintro e w1 ⟨rfl, hb1⟩
    obtain ⟨k0, k1, k2, kf, kz⟩ := ((Own.new _ _ _).below hb1 (by simp only [World.size_alloc]; omega)).facts
    have g1 := Lib.hid (((Below.refl w.heap.size w).alloc (Nat.le_refl _) _).trans (hb1.mono (by simp only [World.size_alloc]; omega)))
    clear hb1
    unfold vv es
    go_wp2_with fail
    exact bodyPost_ret (v := vv 3 (n.tmod 100) es) (by simp [results, Tryz.results8, go_sem, vv, es, k0, k1, k2]) rfl ⟨rfl, setres g1.out _ _ _⟩
set_option maxRecDepth 3000 in
theorem made_c (n : Int) (h1 : -9223372036854775808 ≤ n) (h2 : n ≤ 9223372036854775807) (h : 6 ≤ md n 11) (w : World) : Calls Tryz.prog 8 #[.int .i64 n] w fun e w' => e = .returned (V3.val (const3 (n.tdiv 11))) ∧ Below w.heap.size w w' := by
  have C := Lib.hid (const_any (n.tdiv 11) (tdiv_in n h1 h2).1 (tdiv_in n h1 h2).2)
  generalize hx : const3 (n.tdiv 11) = x at *
  clear hx
  obtain ⟨x1, x2, x3⟩ := x
  have hb := md_bd n 11 (by decide)
  have hk : md n 11 = 6 ∨ md n 11 = 7 ∨ md n 11 = 8 ∨ md n 11 = 9 ∨ md n 11 = 10 := by omega
  clear hb h
  rcases hk with h | h | h | h | h
  all_goals
    go_enter Tryz.func8, Tryz.ntmps8
    go_wp2_with (go_at_call 23; refine (mod_any _ _ (by decide) (by decide) _).mono ?_; rintro e w' ⟨rfl, rfl⟩)
    refine (C.out _).mono ?_
    rintro e w1 ⟨rfl, hb1⟩
    obtain ⟨k0, k1, k2, kf, kz⟩ := ((Own.new _ _ _).below hb1 (by simp only [World.size_alloc]; omega)).facts
    have g1 := Lib.hid (((Below.refl w.heap.size w).alloc (Nat.le_refl _) _).trans (hb1.mono (by simp only [World.size_alloc]; omega)))
    clear hb1
    unfold V3.val vv
    go_wp2_with fail
    exact bodyPost_ret (v := vv x1 x2 x3) (by simp [results, Tryz.results8, go_sem, vv, k0, k1, k2]) rfl ⟨rfl, setres g1.out _ _ _⟩
theorem made_any (n : Int) (h1 : -9223372036854775808 ≤ n) (h2 : n ≤ 9223372036854775807) (w : World) : Calls Tryz.prog 8 #[.int .i64 n] w fun e w' => e = .returned (V3.val (made3 n)) ∧ Below w.heap.size w w' := by
  have hb := md_bd n 11 (by decide)
  unfold made3
  by_cases h0 : md n 11 = 0
  · rw [if_pos h0]; exact made_0 n h1 h2 h0 w
  by_cases h1' : md n 11 = 1
  · rw [if_neg h0, if_pos h1']; exact made_1 n h1 h2 h1' w
  by_cases h2' : md n 11 = 2
  · rw [if_neg h0, if_neg h1', if_pos h2']; exact made_2 n h1 h2 h2' w
  by_cases h3 : md n 11 = 3 ∨ md n 11 = 4 ∨ md n 11 = 5
  · rw [if_neg h0, if_neg h1', if_neg h2', if_pos h3]; exact made_3 n h1 h2 h3 w
  · rw [if_neg h0, if_neg h1', if_neg h2', if_neg h3]; exact made_c n h1 h2 (by omega) w
end Go.Proofs.YtibjhcgfjhbgoaaGreatDoor.Va
