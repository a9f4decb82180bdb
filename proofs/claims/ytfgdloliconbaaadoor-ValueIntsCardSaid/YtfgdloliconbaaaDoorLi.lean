/-
  The walk of ValueInts.
-/
import Derived.Test.YtfgdloliconbaaaDoorVp
import Derived.Deep.RegionHeld3
namespace Go.Proofs.YtfgdloliconbaaaDoor.Va
open Go Go.RowKit Mp

theorem in_yes (k : Int) (h1 : -1000000000000000 ≤ k) (h2 : k ≤ 1000000000000000) (w : World) :
    Calls Tryd.prog 7 #[.int .i64 k] w fun e w' => e = .returned (.tuple #[vv 3 k es, .string es]) ∧ Below w.heap.size w w' := by
  go_enter Tryd.func7, Tryd.ntmps7
  go_wp2_with fail
  refine (lawNumber_any _ _).mono ?_
  rintro e w1 ⟨rfl, hb1⟩
  obtain ⟨k0, k1, k2, kf, kz⟩ := ((Own.new _ _ _).below hb1 (by simp only [World.size_alloc]; omega)).facts
  have g1 := Lib.hid (((Below.refl w.heap.size w).alloc (Nat.le_refl _) _).trans (hb1.mono (by simp only [World.size_alloc]; omega)))
  clear hb1
  unfold vv es
  go_wp2_with fail
  exact bodyPost_ret (v := .tuple #[vv 3 k es, .string es]) (by simp [results, Tryd.results7, go_sem, vv, es, k0, k1, k2]) rfl ⟨rfl, setres g1.out _ _ _⟩
theorem in_no (k : Int) (h : k < -1000000000000000 ∨ 1000000000000000 < k) (w : World) :
    Calls Tryd.prog 7 #[.int .i64 k] w fun e w' => e = .returned (.tuple #[zv, .string rangeS]) ∧ Below w.heap.size w w' := by
  rcases h with h | h
  all_goals
    go_enter Tryd.func7, Tryd.ntmps7
    go_wp2_with fail
    exact bodyPost_ret (v := .tuple #[zv, .string rangeS]) (by simp [results, Tryd.results7, go_sem, vv, es, zv, rangeS]) rfl ⟨rfl, (Below.refl _ _).alloc (Nat.le_refl _) _⟩
theorem in_any (k : Int) (w : World) :
    Calls Tryd.prog 7 #[.int .i64 k] w fun e w' => e = .returned (.tuple #[(within3 k).1.val, .string (within3 k).2]) ∧ Below w.heap.size w w' := by
  unfold within3
  cases h : ok15 k
  · rw [if_neg (by decide)]
    exact in_no k (by unfold ok15 at h; simp at h; omega) w
  · rw [if_pos rfl]
    unfold ok15 at h; simp at h
    exact in_yes k h.1 h.2 w
theorem tmod_bd (m : Int) : -1000000000000000 ≤ m.tmod 1000000000000001 ∧ m.tmod 1000000000000001 ≤ 1000000000000000 := by
  have a1 := Int.lt_tmod_of_pos m (b := 1000000000000001) (by decide)
  have a2 := Int.tmod_lt_of_pos m (b := 1000000000000001) (by decide)
  omega
theorem tmod_bd2 (m : Int) : -29999999 ≤ m.tmod 30000000 ∧ m.tmod 30000000 ≤ 29999999 := by
  have a1 := Int.lt_tmod_of_pos m (b := 30000000) (by decide)
  have a2 := Int.tmod_lt_of_pos m (b := 30000000) (by decide)
  omega
theorem nat_mul_bd {x y : Nat} (hx : x ≤ 29999999) (hy : y ≤ 29999999) : x * y ≤ 899999940000001 := Nat.mul_le_mul hx hy
theorem mul_bd {x y : Int} (hx : -29999999 ≤ x ∧ x ≤ 29999999) (hy : -29999999 ≤ y ∧ y ≤ 29999999) : -1000000000000000 ≤ x * y ∧ x * y ≤ 1000000000000000 := by
  have h := nat_mul_bd (x := x.natAbs) (y := y.natAbs) (by omega) (by omega)
  rw [← Int.natAbs_mul] at h
  omega
theorem ok15_i {a : Int} (h : -1000000000000000 ≤ a ∧ a ≤ 1000000000000000) : ok15 a = true := by unfold ok15; simp; omega
section
variable {a b : Int} (ha : -1000000000000000 ≤ a ∧ a ≤ 1000000000000000) (hb : -1000000000000000 ≤ b ∧ b ≤ 1000000000000000)
include ha hb
theorem gi5 : bin 5 (3, a, es) (3, b, es) = within3 (a + b) := by rw [bin_ints (ok15_i ha) (ok15_i hb) (by decide)]; rfl
theorem gi6 : bin 6 (3, a, es) (3, b, es) = within3 (a - b) := by rw [bin_ints (ok15_i ha) (ok15_i hb) (by decide)]; rfl
theorem gi8 (h : b ≠ 0) : bin 8 (3, a, es) (3, b, es) = ((3, a.tdiv b, es), es) := by
  rw [bin_ints (ok15_i ha) (ok15_i hb) (by decide)]
  unfold ints3
  rw [if_neg (by decide), if_neg (by decide), if_neg (by decide), if_pos rfl, if_neg h]; rfl
theorem gi9 (h : b ≠ 0) : bin 9 (3, a, es) (3, b, es) = ((3, a.tmod b, es), es) := by
  rw [bin_ints (ok15_i ha) (ok15_i hb) (by decide)]
  unfold ints3
  rw [if_neg (by decide), if_neg (by decide), if_neg (by decide), if_neg (by decide), if_pos rfl, if_neg h]; rfl
end
theorem gi8z {a : Int} (ha : -1000000000000000 ≤ a ∧ a ≤ 1000000000000000) : bin 8 (3, a, es) (3, 0, es) = ((0, 0, es), zeroS) := by rw [bin_ints (ok15_i ha) (by decide) (by decide)]; rfl
theorem gi9z {a : Int} (ha : -1000000000000000 ≤ a ∧ a ≤ 1000000000000000) : bin 9 (3, a, es) (3, 0, es) = ((0, 0, es), zeroS) := by rw [bin_ints (ok15_i ha) (by decide) (by decide)]; rfl
theorem gi7 {x y : Int} (hx : -29999999 ≤ x ∧ x ≤ 29999999) (hy : -29999999 ≤ y ∧ y ≤ 29999999) : bin 7 (3, x, es) (3, y, es) = within3 (x * y) := by
  have hm := mul_bd hx hy
  rw [bin_ints (ok15_i (by omega)) (ok15_i (by omega)) (by decide)]
  unfold ints3 within3
  rw [if_neg (by decide), if_neg (by decide), if_pos rfl, if_pos (ok15_i hm)]
  by_cases h0 : y = 0
  · rw [if_pos h0, h0, Int.mul_zero]
  · have hl : (x.natAbs : Int) ≤ 1000000000000000 / (y.natAbs : Int) := by
      rw [Int.le_ediv_iff_mul_le (by omega)]
      have h := nat_mul_bd (x := x.natAbs) (y := y.natAbs) (by omega) (by omega)
      have : (x.natAbs : Int) * (y.natAbs : Int) = ((x.natAbs * y.natAbs : Nat) : Int) := by push_cast; rfl
      omega
    rw [if_neg h0, if_pos hl]
theorem ss : (⟨#[]⟩ : ByteArray).size ≤ maxLen := small _ (by decide)

set_option maxRecDepth 5000 in
set_option maxHeartbeats 8000000 in
theorem ints_walk_nz (m n : Int) (hn : n.tmod 1000000000000001 ≠ 0) (w : World) (hG : Gl w) :
    Calls Tryd.prog 3 #[.int .i64 m, .int .i64 n] w fun e w' => e = .returned (.bool true) ∧ Below w.heap.size w w' := by
  have hs := Lib.hid (St.init hG)
  have bm := tmod_bd m
  have bn := tmod_bd n
  have HN := Lib.hid hn
  clear hG hn
  go_enter Tryd.func3, Tryd.ntmps3
  go_wp2_with fail
  refine (sanity_any _ hs.out.gl).mono ?_
  rintro e w1 ⟨rfl, hb⟩
  replace hs := Lib.hid (hs.out.step hb)
  clear hb
  go_wp2_with fail
  generalize m.tmod 1000000000000001 = a at *
  generalize n.tmod 1000000000000001 = b at *
  have hb0 : (b == 0) = false := by simpa using HN.out
  have BM := Lib.hid bm
  have BN := Lib.hid bn
  have BX := Lib.hid (tmod_bd2 a)
  have BY := Lib.hid (tmod_bd2 b)
  have bp := mul_bd BX.out BY.out
  obtain ⟨bm1, bm2⟩ := bm
  obtain ⟨bn1, bn2⟩ := bn
  obtain ⟨bp1, bp2⟩ := bp
  refine (lawNumber_any _ _).mono ?_
  rintro e w2 ⟨rfl, hb⟩
  replace hs := Lib.hid (hs.out.step hb)
  clear hb
  go_wp2_with fail
  refine (lawNumber_any _ _).mono ?_
  rintro e w3 ⟨rfl, hb⟩
  replace hs := Lib.hid (((hs.out.step hb).add (.int .i64 3) (.int .i64 a) (.string ⟨#[]⟩)).add (.int .i64 3) (.int .i64 b) (.string ⟨#[]⟩))
  simp only [World.size_alloc] at hs
  clear hb
  unfold vv es
  go_wp2_with fail
  refine (in_any _ _).mono ?_
  rintro e v1 ⟨rfl, hb⟩
  replace hs := Lib.hid (hs.out.step hb)
  clear hb
  generalize hr : within3 (a + b) = r1
  have HR1 := Lib.hid hr
  clear hr
  obtain ⟨⟨p1, q1, s1⟩, f1⟩ := r1
  replace hs := Lib.hid (hs.out.add (.int .i64 p1) (.int .i64 q1) (.string s1))
  unfold V3.val vv
  simp only
  go_wp2_with fail
  refine (in_any _ _).mono ?_
  rintro e v2 ⟨rfl, hb⟩
  replace hs := Lib.hid (hs.out.step hb)
  clear hb
  generalize hr : within3 (a - b) = r2
  have HR2 := Lib.hid hr
  clear hr
  obtain ⟨⟨p2, q2, s2⟩, f2⟩ := r2
  replace hs := Lib.hid (hs.out.add (.int .i64 p2) (.int .i64 q2) (.string s2))
  unfold V3.val vv
  simp only
  obtain ⟨k0, k1, k2⟩ := hs.out.cells w3.heap.size (.int .i64 3) (.int .i64 a) (.string ⟨#[]⟩) (by simp)
  obtain ⟨l0, l1, l2⟩ := hs.out.cells (w3.heap.size + 1) (.int .i64 3) (.int .i64 b) (.string ⟨#[]⟩) (by simp)
  obtain ⟨m10, m11, m12⟩ := hs.out.cells v1.heap.size (.int .i64 p1) (.int .i64 q1) (.string s1) (by simp)
  obtain ⟨m20, m21, m22⟩ := hs.out.cells v2.heap.size (.int .i64 p2) (.int .i64 q2) (.string s2) (by simp)
  go_wp2_with fail
  refine (gives_eq _ _ _ _ _ _ _ _ _ _ _ _ hs.out.gl ss ss ((gi5 BM.out BN.out).trans HR1.out)).mono ?_
  rintro e u ⟨rfl, hb⟩
  replace hs := Lib.hid (hs.out.step hb)
  clear hb
  clear k0 k1 k2 l0 l1 l2 m10 m11 m12 m20 m21 m22
  obtain ⟨k0, k1, k2⟩ := hs.out.cells w3.heap.size (.int .i64 3) (.int .i64 a) (.string ⟨#[]⟩) (by simp)
  obtain ⟨l0, l1, l2⟩ := hs.out.cells (w3.heap.size + 1) (.int .i64 3) (.int .i64 b) (.string ⟨#[]⟩) (by simp)
  obtain ⟨m20, m21, m22⟩ := hs.out.cells v2.heap.size (.int .i64 p2) (.int .i64 q2) (.string s2) (by simp)
  go_wp2_with fail
  refine (gives_eq _ _ _ _ _ _ _ _ _ _ _ _ hs.out.gl ss ss ((gi6 BM.out BN.out).trans HR2.out)).mono ?_
  rintro e u ⟨rfl, hb⟩
  replace hs := Lib.hid (hs.out.step hb)
  clear hb
  clear k0 k1 k2 l0 l1 l2 m20 m21 m22
  go_wp2_with fail
  refine (in_any _ _).mono ?_
  rintro e v3 ⟨rfl, hb⟩
  replace hs := Lib.hid (hs.out.step hb)
  clear hb
  generalize hr : within3 (a.tmod 30000000 * b.tmod 30000000) = r3
  have HR3 := Lib.hid hr
  clear hr
  obtain ⟨⟨p3, q3, s3⟩, f3⟩ := r3
  replace hs := Lib.hid (hs.out.add (.int .i64 p3) (.int .i64 q3) (.string s3))
  unfold V3.val vv
  simp only
  obtain ⟨m30, m31, m32⟩ := hs.out.cells v3.heap.size (.int .i64 p3) (.int .i64 q3) (.string s3) (by simp)
  go_wp2_with fail
  replace hs := Lib.hid hs.out.drew
  go_region_held3 (fun w' => w'.cell? ⟨v3.heap.size, 0, none⟩ = some (.int .i64 p3) ∧ w'.cell? ⟨v3.heap.size, 1, none⟩ = some (.int .i64 q3) ∧ w'.cell? ⟨v3.heap.size, 2, none⟩ = some (.string s3)) (first | exact ⟨m30, m31, m32⟩) (first | (go_at_call 6; refine (lawNumber_any _ _).mono ?_; rintro e w' ⟨rfl, hb⟩; replace hs := Lib.hid (hs.out.step hb); clear hb; obtain ⟨m30, m31, m32⟩ := hs.out.cells v3.heap.size (.int .i64 p3) (.int .i64 q3) (.string s3) (by simp)) | (go_at_call 8; refine (gives_eq _ _ _ _ _ _ _ _ _ _ _ _ hs.out.gl ss ss ((gi7 BX.out BY.out).trans HR3.out)).mono ?_; rintro e u ⟨rfl, hb⟩; replace hs := Lib.hid (hs.out.step hb); clear hb; obtain ⟨m30, m31, m32⟩ := hs.out.cells v3.heap.size (.int .i64 p3) (.int .i64 q3) (.string s3) (by simp)))
  clear m30 m31 m32
  obtain ⟨k0, k1, k2⟩ := hs.out.cells w3.heap.size (.int .i64 3) (.int .i64 a) (.string ⟨#[]⟩) (by simp)
  obtain ⟨l0, l1, l2⟩ := hs.out.cells (w3.heap.size + 1) (.int .i64 3) (.int .i64 b) (.string ⟨#[]⟩) (by simp)
  have oq := ok_div b BM.out
  have om := ok_mod b BM.out
  unfold ok15 at oq om
  simp only [Bool.and_eq_true, decide_eq_true_eq] at oq om
  obtain ⟨oq1, oq2⟩ := oq
  obtain ⟨om1, om2⟩ := om
  have hw := IntWalk.i64_in (a.tdiv b) (by omega)
  have hb1 : ¬ b = 0 := HN.out
  go_wp2_with fail
  replace hs := Lib.hid hs.out.drew
  go_region_held3 (fun w' => w'.cell? ⟨w3.heap.size, 0, none⟩ = some (.int .i64 3) ∧ w'.cell? ⟨w3.heap.size, 1, none⟩ = some (.int .i64 a) ∧ w'.cell? ⟨w3.heap.size, 2, none⟩ = some (.string ⟨#[]⟩) ∧ w'.cell? ⟨w3.heap.size + 1, 0, none⟩ = some (.int .i64 3) ∧ w'.cell? ⟨w3.heap.size + 1, 1, none⟩ = some (.int .i64 b) ∧ w'.cell? ⟨w3.heap.size + 1, 2, none⟩ = some (.string ⟨#[]⟩)) (first | exact ⟨k0, k1, k2, l0, l1, l2⟩) (first | (go_at_call 6; refine (lawNumber_any _ _).mono ?_; rintro e w' ⟨rfl, hb⟩; replace hs := Lib.hid (hs.out.step hb); clear hb; obtain ⟨k0, k1, k2⟩ := hs.out.cells w3.heap.size (.int .i64 3) (.int .i64 a) (.string ⟨#[]⟩) (by simp); obtain ⟨l0, l1, l2⟩ := hs.out.cells (w3.heap.size + 1) (.int .i64 3) (.int .i64 b) (.string ⟨#[]⟩) (by simp)) | (go_at_call 8; refine (gives_eq _ _ _ _ _ _ _ _ _ _ _ _ hs.out.gl ss ss ?_).mono ?_; (first | exact gi8 BM.out BN.out HN.out | exact gi9 BM.out BN.out HN.out); rintro e u ⟨rfl, hb⟩; replace hs := Lib.hid (hs.out.step hb); clear hb; obtain ⟨k0, k1, k2⟩ := hs.out.cells w3.heap.size (.int .i64 3) (.int .i64 a) (.string ⟨#[]⟩) (by simp); obtain ⟨l0, l1, l2⟩ := hs.out.cells (w3.heap.size + 1) (.int .i64 3) (.int .i64 b) (.string ⟨#[]⟩) (by simp)))
  go_wp2_with fail
  go_ret
  exact ⟨rfl, hs.out.be⟩
set_option maxRecDepth 5000 in
set_option maxHeartbeats 8000000 in
theorem ints_walk_z (m n : Int) (hn : n.tmod 1000000000000001 = 0) (w : World) (hG : Gl w) :
    Calls Tryd.prog 3 #[.int .i64 m, .int .i64 n] w fun e w' => e = .returned (.bool true) ∧ Below w.heap.size w w' := by
  have hs := Lib.hid (St.init hG)
  have bm := tmod_bd m
  have bn := tmod_bd n
  have HN := Lib.hid hn
  clear hG hn
  go_enter Tryd.func3, Tryd.ntmps3
  go_wp2_with fail
  refine (sanity_any _ hs.out.gl).mono ?_
  rintro e w1 ⟨rfl, hb⟩
  replace hs := Lib.hid (hs.out.step hb)
  clear hb
  go_wp2_with fail
  generalize m.tmod 1000000000000001 = a at *
  generalize n.tmod 1000000000000001 = b at *
  obtain rfl : b = 0 := HN.out
  have BM := Lib.hid bm
  have BN := Lib.hid bn
  have BX := Lib.hid (tmod_bd2 a)
  have BY := Lib.hid (tmod_bd2 0)
  have bp := mul_bd BX.out BY.out
  obtain ⟨bm1, bm2⟩ := bm
  obtain ⟨bn1, bn2⟩ := bn
  obtain ⟨bp1, bp2⟩ := bp
  clear bn1 bn2 bp1 bp2
  refine (lawNumber_any _ _).mono ?_
  rintro e w2 ⟨rfl, hb⟩
  replace hs := Lib.hid (hs.out.step hb)
  clear hb
  go_wp2_with fail
  refine (lawNumber_any _ _).mono ?_
  rintro e w3 ⟨rfl, hb⟩
  replace hs := Lib.hid (((hs.out.step hb).add (.int .i64 3) (.int .i64 a) (.string ⟨#[]⟩)).add (.int .i64 3) (.int .i64 0) (.string ⟨#[]⟩))
  simp only [World.size_alloc] at hs
  clear hb
  unfold vv es
  go_wp2_with fail
  refine (in_any _ _).mono ?_
  rintro e v1 ⟨rfl, hb⟩
  replace hs := Lib.hid (hs.out.step hb)
  clear hb
  generalize hr : within3 (a) = r1
  have HR1 := Lib.hid hr
  clear hr
  obtain ⟨⟨p1, q1, s1⟩, f1⟩ := r1
  replace hs := Lib.hid (hs.out.add (.int .i64 p1) (.int .i64 q1) (.string s1))
  unfold V3.val vv
  simp only
  go_wp2_with fail
  refine (in_any _ _).mono ?_
  rintro e v2 ⟨rfl, hb⟩
  replace hs := Lib.hid (hs.out.step hb)
  clear hb
  generalize hr : within3 (a) = r2
  have HR2 := Lib.hid hr
  clear hr
  obtain ⟨⟨p2, q2, s2⟩, f2⟩ := r2
  replace hs := Lib.hid (hs.out.add (.int .i64 p2) (.int .i64 q2) (.string s2))
  unfold V3.val vv
  simp only
  obtain ⟨k0, k1, k2⟩ := hs.out.cells w3.heap.size (.int .i64 3) (.int .i64 a) (.string ⟨#[]⟩) (by simp)
  obtain ⟨l0, l1, l2⟩ := hs.out.cells (w3.heap.size + 1) (.int .i64 3) (.int .i64 0) (.string ⟨#[]⟩) (by simp)
  obtain ⟨m10, m11, m12⟩ := hs.out.cells v1.heap.size (.int .i64 p1) (.int .i64 q1) (.string s1) (by simp)
  obtain ⟨m20, m21, m22⟩ := hs.out.cells v2.heap.size (.int .i64 p2) (.int .i64 q2) (.string s2) (by simp)
  go_wp2_with fail
  refine (gives_eq _ _ _ _ _ _ _ _ _ _ _ _ hs.out.gl ss ss (by have := gi5 BM.out (b := 0) (by decide); rw [Int.add_zero] at this; exact this.trans HR1.out)).mono ?_
  rintro e u ⟨rfl, hb⟩
  replace hs := Lib.hid (hs.out.step hb)
  clear hb
  clear k0 k1 k2 l0 l1 l2 m10 m11 m12 m20 m21 m22
  obtain ⟨k0, k1, k2⟩ := hs.out.cells w3.heap.size (.int .i64 3) (.int .i64 a) (.string ⟨#[]⟩) (by simp)
  obtain ⟨l0, l1, l2⟩ := hs.out.cells (w3.heap.size + 1) (.int .i64 3) (.int .i64 0) (.string ⟨#[]⟩) (by simp)
  obtain ⟨m20, m21, m22⟩ := hs.out.cells v2.heap.size (.int .i64 p2) (.int .i64 q2) (.string s2) (by simp)
  go_wp2_with fail
  refine (gives_eq _ _ _ _ _ _ _ _ _ _ _ _ hs.out.gl ss ss (by have := gi6 BM.out (b := 0) (by decide); rw [Int.sub_zero] at this; exact this.trans HR2.out)).mono ?_
  rintro e u ⟨rfl, hb⟩
  replace hs := Lib.hid (hs.out.step hb)
  clear hb
  clear k0 k1 k2 l0 l1 l2 m20 m21 m22
  go_wp2_with fail
  refine (in_any _ _).mono ?_
  rintro e v3 ⟨rfl, hb⟩
  replace hs := Lib.hid (hs.out.step hb)
  clear hb
  generalize hr : within3 (0) = r3
  have HR3 := Lib.hid hr
  clear hr
  obtain ⟨⟨p3, q3, s3⟩, f3⟩ := r3
  replace hs := Lib.hid (hs.out.add (.int .i64 p3) (.int .i64 q3) (.string s3))
  unfold V3.val vv
  simp only
  obtain ⟨m30, m31, m32⟩ := hs.out.cells v3.heap.size (.int .i64 p3) (.int .i64 q3) (.string s3) (by simp)
  go_wp2_with fail
  replace hs := Lib.hid hs.out.drew
  go_region_held3 (fun w' => w'.cell? ⟨v3.heap.size, 0, none⟩ = some (.int .i64 p3) ∧ w'.cell? ⟨v3.heap.size, 1, none⟩ = some (.int .i64 q3) ∧ w'.cell? ⟨v3.heap.size, 2, none⟩ = some (.string s3)) (first | exact ⟨m30, m31, m32⟩) (first | (go_at_call 6; refine (lawNumber_any _ _).mono ?_; rintro e w' ⟨rfl, hb⟩; replace hs := Lib.hid (hs.out.step hb); clear hb; obtain ⟨m30, m31, m32⟩ := hs.out.cells v3.heap.size (.int .i64 p3) (.int .i64 q3) (.string s3) (by simp)) | (go_at_call 8; refine (gives_eq _ _ _ _ _ _ _ _ _ _ _ _ hs.out.gl ss ss (by have := gi7 BX.out (y := 0) (by decide); rw [Int.mul_zero] at this; exact this.trans HR3.out)).mono ?_; rintro e u ⟨rfl, hb⟩; replace hs := Lib.hid (hs.out.step hb); clear hb; obtain ⟨m30, m31, m32⟩ := hs.out.cells v3.heap.size (.int .i64 p3) (.int .i64 q3) (.string s3) (by simp)))
  clear m30 m31 m32
  obtain ⟨k0, k1, k2⟩ := hs.out.cells w3.heap.size (.int .i64 3) (.int .i64 a) (.string ⟨#[]⟩) (by simp)
  obtain ⟨l0, l1, l2⟩ := hs.out.cells (w3.heap.size + 1) (.int .i64 3) (.int .i64 0) (.string ⟨#[]⟩) (by simp)
  go_wp2_with fail
  refine (gives_eq _ _ _ _ _ _ _ _ _ _ _ _ hs.out.gl ss ss (gi8z BM.out)).mono ?_
  rintro e u ⟨rfl, hb⟩
  replace hs := Lib.hid (hs.out.step hb)
  clear hb
  clear k0 k1 k2 l0 l1 l2
  obtain ⟨k0, k1, k2⟩ := hs.out.cells w3.heap.size (.int .i64 3) (.int .i64 a) (.string ⟨#[]⟩) (by simp)
  obtain ⟨l0, l1, l2⟩ := hs.out.cells (w3.heap.size + 1) (.int .i64 3) (.int .i64 0) (.string ⟨#[]⟩) (by simp)
  go_wp2_with fail
  refine (gives_eq _ _ _ _ _ _ _ _ _ _ _ _ hs.out.gl ss ss (gi9z BM.out)).mono ?_
  rintro e u ⟨rfl, hb⟩
  replace hs := Lib.hid (hs.out.step hb)
  clear hb
  go_wp2_with fail
  go_ret
  exact ⟨rfl, hs.out.be⟩
theorem ints_walk (m n : Int) (w : World) (hG : Gl w) :
    Calls Tryd.prog 3 #[.int .i64 m, .int .i64 n] w fun e w' => e = .returned (.bool true) ∧ Below w.heap.size w w' := by
  by_cases hn : n.tmod 1000000000000001 = 0
  · exact ints_walk_z m n hn w hG
  · exact ints_walk_nz m n hn w hG
end Go.Proofs.YtfgdloliconbaaaDoor.Va
