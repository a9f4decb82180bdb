/-
  Contracts of the reference: Plain, Right, Bool, Unary, Truth: they compute what package value computes.
-/
import Derived.Test.YtfgdloliconbaaaGreatDoorUb
import Derived.Test.YtfgdloliconbaaaGreatDoorRa
namespace Go.Proofs.YtfgdloliconbaaaGreatDoor.Va
open Go Go.RowKit Mp

theorem plain_any (s : ByteArray) (w : World) (hs : s.size ≤ maxLen) :
    Calls Tryz.prog 35 #[.string s] w fun e w' => e = .returned (.bool (prtB s.data.toList)) ∧ w = w' := by
  unfold maxLen at hs
  go_enter Tryz.func35, Tryz.ntmps35
  go_wp2
  go_loop [3] (fun i => ∃ k : Nat, k ≤ s.size ∧ i = .int .i64 k ∧ allB s.data.toList = allB (s.data.toList.drop k)) (fun i => s.size - (intOf i).toNat)
  case atStart => exact ⟨0, Nat.zero_le _, rfl, by simp⟩
  case round =>
    obtain ⟨k, hk, rfl, hr⟩ := hrel
    have HR := Lib.hid hr; clear hr
    by_cases hlt : k < s.size
    · go_wp2
      · go_ret
        exact ⟨ret_bool (by unfold prtB; rw [HR.out, all_stop s k hlt (by unfold chrB; simp; omega)]; simp), rfl⟩
      · go_round
        case rel => exact ⟨k + 1, by omega, by go_num, by rw [HR.out, all_step s k hlt (by unfold chrB; simp; omega)]⟩
        case measure => simp [intOf]; omega
      · go_ret
        exact ⟨ret_bool (by unfold prtB; rw [HR.out, all_stop s k hlt (by unfold chrB; simp; omega)]; simp), rfl⟩
    · go_wp2
      go_ret
      exact ⟨ret_bool (by unfold prtB; rw [HR.out, all_end s k hlt]; simp; omega), rfl⟩
theorem refRight_str (n : Int) (s : ByteArray) (w : World) (hm : s.size ≤ maxLen) :
    Calls Tryz.prog 13 #[vv 4 n s] w fun e w' => e = .returned (.bool (rightB 4 n s)) ∧ Below w.heap.size w w' := by
  have C := Lib.hid (fun w => plain_any s w hm)
  have hr : rightB 4 n s = (prtB s.data.toList && (n == 0)) := by
    unfold rightB bndB; rw [Bool.eq_iff_iff]; simp; exact And.comm
  rw [hr]
  clear hr
  generalize prtB s.data.toList = p at *
  unfold vv
  go_enter Tryz.func13, Tryz.ntmps13
  go_wp2_with fail
  refine (C.out _).mono ?_
  rintro e w1 ⟨rfl, rfl⟩
  cases p
  all_goals
    go_wp2_with fail
    all_goals go_ret
    all_goals exact ⟨ret_bool (by simp), (Below.refl _ _).alloc (Nat.le_refl _) _⟩
theorem refRight_full (k n : Int) (s : ByteArray) (w : World) (h4 : (k == 4) = false) (hs : (!s.toList.isEmpty) = true) :
    Calls Tryz.prog 13 #[vv k n s] w fun e w' => e = .returned (.bool (rightB k n s)) ∧ Below w.heap.size w w' := by
  unfold vv
  go_enter Tryz.func13, Tryz.ntmps13
  go_wp2
  go_ret
  refine ⟨ret_bool ?_, (Below.refl _ _).alloc (Nat.le_refl _) _⟩
  have e4 : decide (k = 4) = false := by simpa using h4
  have es : s.data.toList.isEmpty = false := by
    have h : s.toList.isEmpty = false := by simpa using hs
    rwa [ByteArray.toList_eq] at h
  unfold rightB
  rw [e4, es]
  simp
theorem right_es (k n : Int) (_h : k ≠ 4) : rightB k n es = bndB k n := by
  unfold rightB es; simp [prtB, allB]
theorem refRight_none (k n : Int) (w : World) (h4 : (k == 4) = false) :
    Calls Tryz.prog 13 #[vv k n es] w fun e w' => e = .returned (.bool (rightB k n es)) ∧ Below w.heap.size w w' := by
  have hk : k ≠ 4 := by simpa using h4
  rw [right_es k n hk]
  by_cases hk' : k = 0 ∨ k = 1 ∨ k = 2 ∨ k = 3 ∨ k = 5 ∨ k = 6
  · clear h4 hk
    rcases hk' with rfl | rfl | rfl | rfl | rfl | rfl
    all_goals
      unfold vv es
      go_enter Tryz.func13, Tryz.ntmps13
      go_wp2
    all_goals
      go_ret
      refine ⟨ret_bool ?_, (Below.refl _ _).alloc (Nat.le_refl _) _⟩
      unfold bndB
      first | rfl | (rw [Bool.eq_iff_iff]; simp; done) | (rw [Bool.eq_iff_iff]; simp; omega)
  · have a0 : (k == 0) = false := by simp; omega
    have a1 : (k == 1) = false := by simp; omega
    have a2 : (k == 2) = false := by simp; omega
    have a3 : (k == 3) = false := by simp; omega
    have a5 : (k == 5) = false := by simp; omega
    have a6 : (k == 6) = false := by simp; omega
    have hb : bndB k n = false := by unfold bndB; simp; omega
    rw [hb]
    clear hk hk' hb
    unfold vv es
    go_enter Tryz.func13, Tryz.ntmps13
    go_wp2
    go_ret
    exact ⟨rfl, (Below.refl _ _).alloc (Nat.le_refl _) _⟩
theorem refRight_any (v : V3) (w : World) (hm : v.2.2.size ≤ maxLen) :
    Calls Tryz.prog 13 #[v.val] w fun e w' => e = .returned (.bool (right3 v)) ∧ Below w.heap.size w w' := by
  obtain ⟨k, n, s⟩ := v
  simp only at hm
  show Calls Tryz.prog 13 #[vv k n s] w _
  unfold right3
  simp only
  by_cases h4 : k = 4
  · subst h4; exact refRight_str n s w hm
  by_cases hs : s.toList = []
  · obtain rfl : s = es := by rw [ByteArray.toList_eq] at hs; exact WideShapes.bytes_inj (by simpa [es] using hs)
    exact refRight_none k n w (by simpa using h4)
  · exact refRight_full k n s w (by simpa using h4) (by simpa using hs)
theorem refRight_at (k n : Int) (s : ByteArray) (b : Bool) (h : rightB k n s = b) (hm : s.size ≤ maxLen) (w : World) :
    Calls Tryz.prog 13 #[vv k n s] w fun e w' => e = .returned (.bool b) ∧ Below w.heap.size w w' :=
  (refRight_any (k, n, s) w hm).mono fun e w' ⟨he, hb⟩ => ⟨by rw [he, show right3 (k, n, s) = b from h], hb⟩
theorem refBool_any (b : Bool) (w : World) :
    Calls Tryz.prog 42 #[.bool b] w fun e w' => e = .returned (tv b) ∧ Below w.heap.size w w' := by
  cases b
  all_goals
    go_enter Tryz.func42, Tryz.ntmps42
    go_wp2
    exact bodyPost_ret (v := tv _) (by simp [results, Tryz.results42, go_sem, tv, vv, es, bi]) rfl ⟨rfl, (Below.refl _ _).alloc (Nat.le_refl _) _⟩
set_option maxRecDepth 3000 in
theorem refUnary_unset (op n : Int) (s : ByteArray) (w : World) :
    Calls Tryz.prog 19 #[.int .i64 op, vv 0 n s] w fun e w' => e = .returned (.tuple #[zv, .string unsetS]) ∧ Below w.heap.size w w' := by
  unfold vv
  go_enter Tryz.func19, Tryz.ntmps19
  go_wp2_with fail
  exact bodyPost_ret (v := .tuple #[zv, .string unsetS]) (by simp [results, Tryz.results19, go_sem, vv, es, zv, unsetS]) rfl ⟨rfl, below2 _ _ _⟩
set_option maxRecDepth 3000 in
theorem refUnary_wrong (op : Int) (k : Int) (n : Int) (s : ByteArray) (w : World) (hm : s.size ≤ maxLen) (hr : rightB k n s = false) (hk : (k == 0) = false) :
    Calls Tryz.prog 19 #[.int .i64 op, vv k n s] w fun e w' => e = .returned (.tuple #[zv, .string typeS]) ∧ Below w.heap.size w w' := by
  have C := Lib.hid (fun w => refRight_at k n s false hr hm w)
  clear hm hr
  unfold vv
  go_enter Tryz.func19, Tryz.ntmps19
  go_wp2_with fail
  refine (C.out _).mono ?_
  rintro e w1 ⟨rfl, hb1⟩
  obtain ⟨o1, o2, g1⟩ := two_owns hb1
  obtain ⟨k0, k1, k2, _, y1⟩ := o1.facts
  obtain ⟨m0, m1, m2, mf, y2⟩ := o2.facts
  have O2 := Lib.hid o2
  have G1 := Lib.hid g1
  clear hb1 o1 o2 g1
  go_wp2_with fail
  exact bodyPost_ret (v := .tuple #[zv, .string typeS]) (by simp [results, Tryz.results19, go_sem, vv, es, zv, typeS, m0, m1, m2]) rfl ⟨rfl, ((G1.out.setCell (by simp) _).setCell (by simp) _).setCell (by simp) _⟩
set_option maxRecDepth 3000 in
theorem refUnary_not (n : Int) (s : ByteArray) (w : World) (hm : s.size ≤ maxLen) (hr : rightB 2 n s = true) :
    Calls Tryz.prog 19 #[.int .i64 3, vv 2 n s] w fun e w' => e = .returned (.tuple #[vv 2 (bi (n == 0)) es, .string es]) ∧ Below w.heap.size w w' := by
  have C := Lib.hid (fun w => refRight_at 2 n s true hr hm w)
  clear hm hr
  unfold vv
  go_enter Tryz.func19, Tryz.ntmps19
  go_wp2_with fail
  refine (C.out _).mono ?_
  rintro e w1 ⟨rfl, hb1⟩
  obtain ⟨o1, o2, g1⟩ := two_owns hb1
  obtain ⟨k0, k1, k2, _, y1⟩ := o1.facts
  obtain ⟨m0, m1, m2, mf, y2⟩ := o2.facts
  have O2 := Lib.hid o2
  have G1 := Lib.hid g1
  clear hb1 o1 o2 g1
  go_wp2_with fail
  clear k0 k1 k2 m0 m1 m2 mf
  refine (refBool_any _ _).mono ?_
  rintro e w2 ⟨rfl, hb2⟩
  obtain ⟨m0, m1, m2, mf, _⟩ := (O2.out.below hb2 y2).facts
  have g2 := G1.out.trans (hb2.mono (by omega))
  clear G1
  have G1 := Lib.hid g2
  clear g2 hb2
  unfold tv vv es
  go_wp2_with fail
  exact bodyPost_ret (v := .tuple #[vv 2 (bi (n == 0)) es, .string es]) (by simp [results, Tryz.results19, go_sem, vv, es, m0, m1, m2]) rfl ⟨rfl, ((G1.out.setCell (by simp) _).setCell (by simp) _).setCell (by simp) _⟩
set_option maxRecDepth 3000 in
theorem refUnary_neg (n : Int) (s : ByteArray) (w : World) (hm : s.size ≤ maxLen) (hr : rightB 3 n s = true) :
    Calls Tryz.prog 19 #[.int .i64 4, vv 3 n s] w fun e w' => e = .returned (.tuple #[vv 3 (-n) es, .string es]) ∧ Below w.heap.size w w' := by
  have C := Lib.hid (fun w => refRight_at 3 n s true hr hm w)
  have HI := Lib.hid (int_bd hr)
  clear hm hr
  unfold vv
  go_enter Tryz.func19, Tryz.ntmps19
  go_wp2_with fail
  refine (C.out _).mono ?_
  rintro e w1 ⟨rfl, hb1⟩
  obtain ⟨o1, o2, g1⟩ := two_owns hb1
  obtain ⟨k0, k1, k2, _, y1⟩ := o1.facts
  obtain ⟨m0, m1, m2, mf, y2⟩ := o2.facts
  have O2 := Lib.hid o2
  have G1 := Lib.hid g1
  clear hb1 o1 o2 g1
  obtain ⟨b1, b2⟩ := HI.out
  go_wp2_with fail
  clear b1 b2
  clear k0 k1 k2 m0 m1 m2 mf
  refine (refInt_any _ _).mono ?_
  rintro e w2 ⟨rfl, hb2⟩
  obtain ⟨m0, m1, m2, mf, _⟩ := (O2.out.below hb2 y2).facts
  have g2 := G1.out.trans (hb2.mono (by omega))
  clear G1
  have G1 := Lib.hid g2
  clear g2 hb2
  unfold vv es
  go_wp2_with fail
  exact bodyPost_ret (v := .tuple #[vv 3 (-n) es, .string es]) (by simp [results, Tryz.results19, go_sem, vv, es, m0, m1, m2]) rfl ⟨rfl, ((G1.out.setCell (by simp) _).setCell (by simp) _).setCell (by simp) _⟩
set_option maxRecDepth 3000 in
theorem refUnary_other (op : Int) (k : Int) (n : Int) (s : ByteArray) (w : World) (hm : s.size ≤ maxLen) (hr : rightB k n s = true) (hk : (k == 0) = false) (h1 : (op == 3) = false ∨ (op == 3) = true ∧ (k == 2) = false) (h2 : (op == 4) = false ∨ (op == 4) = true ∧ (k == 3) = false) :
    Calls Tryz.prog 19 #[.int .i64 op, vv k n s] w fun e w' => e = .returned (.tuple #[zv, .string typeS]) ∧ Below w.heap.size w w' := by
  have C := Lib.hid (fun w => refRight_at k n s true hr hm w)
  clear hm hr
  unfold vv
  go_enter Tryz.func19, Tryz.ntmps19
  go_wp2_with fail
  refine (C.out _).mono ?_
  rintro e w1 ⟨rfl, hb1⟩
  obtain ⟨o1, o2, g1⟩ := two_owns hb1
  obtain ⟨k0, k1, k2, _, y1⟩ := o1.facts
  obtain ⟨m0, m1, m2, mf, y2⟩ := o2.facts
  have O2 := Lib.hid o2
  have G1 := Lib.hid g1
  clear hb1 o1 o2 g1
  rcases h1 with a1 | ⟨a1, a1'⟩ <;> rcases h2 with a2 | ⟨a2, a2'⟩
  all_goals try (exfalso; simp at a1 a2; omega)
  all_goals
    go_wp2_with fail
    exact bodyPost_ret (v := .tuple #[zv, .string typeS]) (by simp [results, Tryz.results19, go_sem, vv, es, zv, typeS, m0, m1, m2]) rfl ⟨rfl, ((G1.out.setCell (by simp) _).setCell (by simp) _).setCell (by simp) _⟩
theorem refUnary_any (op : Int) (a : V3) (w : World) (hm : a.2.2.size ≤ maxLen) :
    Calls Tryz.prog 19 #[.int .i64 op, a.val] w (Gives (un op a) w) := by
  obtain ⟨k, n, s⟩ := a
  simp only at hm
  show Calls Tryz.prog 19 #[.int .i64 op, vv k n s] w _
  unfold un right3
  simp only
  by_cases h0 : k = 0
  · subst h0; rw [if_pos rfl]; exact refUnary_unset op n s w
  rw [if_neg h0]
  have hk0 : (k == 0) = false := by simpa using h0
  cases hr : rightB k n s
  · rw [if_pos rfl]; exact refUnary_wrong op k n s w hm hr hk0
  rw [if_neg (by decide)]
  by_cases h2 : k = 2 ∧ op = 3
  · obtain ⟨rfl, rfl⟩ := h2
    rw [if_pos ⟨rfl, rfl⟩]; exact refUnary_not n s w hm hr
  rw [if_neg h2]
  by_cases h3 : k = 3 ∧ op = 4
  · obtain ⟨rfl, rfl⟩ := h3
    rw [if_pos ⟨rfl, rfl⟩]; exact refUnary_neg n s w hm hr
  rw [if_neg h3]
  refine refUnary_other op k n s w hm hr hk0 ?_ ?_
  · by_cases ho : op = 3
    · exact .inr ⟨by simpa using ho, by simp; intro h; exact h2 ⟨h, ho⟩⟩
    · exact .inl (by simpa using ho)
  · by_cases ho : op = 4
    · exact .inr ⟨by simpa using ho, by simp; intro h; exact h3 ⟨h, ho⟩⟩
    · exact .inl (by simpa using ho)
set_option maxRecDepth 3000 in
theorem refTruth_wrong (k : Int) (n : Int) (s : ByteArray) (w : World) (hm : s.size ≤ maxLen) (hr : rightB k n s = false) :
    Calls Tryz.prog 21 #[vv k n s] w fun e w' => e = .returned (.tuple #[.bool false, .bool false]) ∧ Below w.heap.size w w' := by
  have C := Lib.hid (fun w => refRight_at k n s false hr hm w)
  clear hm hr
  unfold vv
  go_enter Tryz.func21, Tryz.ntmps21
  go_wp2_with fail
  refine (C.out _).mono ?_
  rintro e w1 ⟨rfl, hb1⟩
  obtain ⟨k0, k1, k2, _, kz⟩ := ((Own.new _ _ _).below hb1 (by simp only [World.size_alloc]; omega)).facts
  have G1 := Lib.hid (((Below.refl w.heap.size w).alloc (Nat.le_refl _) _).trans (hb1.mono (by simp only [World.size_alloc]; omega)))
  clear hb1
  go_wp2_with fail
  go_ret2
  exact ⟨rfl, G1.out⟩
set_option maxRecDepth 3000 in
theorem refTruth_other (k : Int) (n : Int) (s : ByteArray) (w : World) (hm : s.size ≤ maxLen) (hr : rightB k n s = true) (hk : (k != 2) = true) :
    Calls Tryz.prog 21 #[vv k n s] w fun e w' => e = .returned (.tuple #[.bool false, .bool false]) ∧ Below w.heap.size w w' := by
  have C := Lib.hid (fun w => refRight_at k n s true hr hm w)
  clear hm hr
  unfold vv
  go_enter Tryz.func21, Tryz.ntmps21
  go_wp2_with fail
  refine (C.out _).mono ?_
  rintro e w1 ⟨rfl, hb1⟩
  obtain ⟨k0, k1, k2, _, kz⟩ := ((Own.new _ _ _).below hb1 (by simp only [World.size_alloc]; omega)).facts
  have G1 := Lib.hid (((Below.refl w.heap.size w).alloc (Nat.le_refl _) _).trans (hb1.mono (by simp only [World.size_alloc]; omega)))
  clear hb1
  go_wp2_with fail
  go_ret2
  exact ⟨rfl, G1.out⟩
set_option maxRecDepth 3000 in
theorem refTruth_right (n : Int) (s : ByteArray) (w : World) (hm : s.size ≤ maxLen) (hr : rightB 2 n s = true) :
    Calls Tryz.prog 21 #[vv 2 n s] w fun e w' => e = .returned (.tuple #[.bool (n == 1), .bool true]) ∧ Below w.heap.size w w' := by
  have C := Lib.hid (fun w => refRight_at 2 n s true hr hm w)
  clear hm hr
  unfold vv
  go_enter Tryz.func21, Tryz.ntmps21
  go_wp2_with fail
  refine (C.out _).mono ?_
  rintro e w1 ⟨rfl, hb1⟩
  obtain ⟨k0, k1, k2, _, kz⟩ := ((Own.new _ _ _).below hb1 (by simp only [World.size_alloc]; omega)).facts
  have G1 := Lib.hid (((Below.refl w.heap.size w).alloc (Nat.le_refl _) _).trans (hb1.mono (by simp only [World.size_alloc]; omega)))
  clear hb1
  go_wp2_with fail
  go_ret2
  exact ⟨rfl, G1.out⟩
theorem refTruth_any (a : V3) (w : World) (hm : a.2.2.size ≤ maxLen) :
    Calls Tryz.prog 21 #[a.val] w fun e w' => e = .returned (.tuple #[.bool (truth3 a).1, .bool (truth3 a).2]) ∧ Below w.heap.size w w' := by
  obtain ⟨k, n, s⟩ := a
  simp only at hm
  show Calls Tryz.prog 21 #[vv k n s] w _
  unfold truth3 right3
  simp only
  cases hr : rightB k n s
  · rw [if_neg (by simp)]; exact refTruth_wrong k n s w hm hr
  by_cases h2 : k = 2
  · subst h2; rw [if_pos ⟨rfl, rfl⟩]; exact refTruth_right n s w hm hr
  · rw [if_neg (by simp [h2])]; exact refTruth_other k n s w hm hr (by simpa using h2)
end Go.Proofs.YtfgdloliconbaaaGreatDoor.Va
