/-
  Contracts of guess, Read.
-/
import Derived.Test.YtibjhcgfjhbgoaaGreatDoorVl
import Derived.Lib.IndexBytes
namespace Go.Proofs.YtibjhcgfjhbgoaaGreatDoor.Va
open Go Go.RowKit Mp

theorem HP (s p : ByteArray) (w : World) : Calls Tryz.prog 46 #[.string s, .string p] w fun e w' => e = .returned (.bool (Lib.hasPrefix s.data.toList p.data.toList)) ∧ w = w' :=
  (Tryz.strings_HasPrefix s p w).mono fun _ _ ⟨h, hw⟩ => ⟨h, hw.symm⟩
def inner (s : ByteArray) : List UInt8 := Lib.trimSuffix (s.extract 1 s.size).data.toList [39]
theorem TS (s : ByteArray) (hs : s.size < 4294967281) (w : World) : Calls Tryz.prog 47 #[.string (s.extract 1 s.size), .string ⟨#[39]⟩] w fun e w' => e = .returned (.string (bs (inner s))) ∧ w = w' :=
  (Tryz.strings_TrimSuffix (s.extract 1 s.size) ⟨#[39]⟩ w (by rw [ByteArray.size_extract]; omega)).mono fun _ _ ⟨h, hw⟩ => ⟨h, hw.symm⟩
theorem inner_len (s : ByteArray) (hs : s.size < 4294967281) : (inner s).length < 4294967281 := by
  have h : (s.extract 1 s.size).data.toList.length ≤ s.size := by
    have : (s.extract 1 s.size).data.toList.length = (s.extract 1 s.size).size := by simp
    rw [this, ByteArray.size_extract]; omega
  unfold inner Lib.trimSuffix
  split
  · rw [List.length_take]; omega
  · omega
theorem RA (l : List UInt8) (hl : l.length < 4294967281) (w : World) (hG : Gl w) : Calls Tryz.prog 28 #[.string (bs l), .string ⟨#[39, 39]⟩, .string ⟨#[39]⟩] w fun e w' => e = .returned (.string (bs (Lib.replaceAll l [39, 39] [39]))) ∧ Below w.heap.size w w' := by
  obtain ⟨m, hm⟩ := hG.mx
  have hs : (bs l).size = l.length := by unfold bs; simp [ByteArray.size]
  have hc := Lib.countB_le ⟨#[39, 39]⟩ (by decide) (bs l).size (bs l) (Nat.le_refl _)
  have hd : (bs l).data.toList = l := by unfold bs; simp
  have := Tryz.strings_ReplaceAll (bs l) ⟨#[39, 39]⟩ ⟨#[39]⟩ m w (by omega) hm (by decide) (by show (bs l).size + Lib.countB (bs l) ⟨#[39, 39]⟩ * 1 ≤ _; omega)
  rw [hd] at this
  exact this
theorem setres {w w1 : World} (g1 : Below w.heap.size w w1) (y0 y1 y2 : Value) : Below w.heap.size w (((w1.setCell ⟨w.heap.size, 0, none⟩ y0).setCell ⟨w.heap.size, 1, none⟩ y1).setCell ⟨w.heap.size, 2, none⟩ y2) :=
  ((g1.setCell (Nat.le_refl _) _).setCell (Nat.le_refl _) _).setCell (Nat.le_refl _) _
set_option maxRecDepth 3000 in
theorem guess_nil (s : ByteArray) (w : World) (h1 : (s.toList == [110, 105, 108]) = true) :
    Calls Tryz.prog 33 #[.string s] w fun e w' => e = .returned (V3.val (1, 0, es)) ∧ Below w.heap.size w w' := by
  go_enter Tryz.func33, Tryz.ntmps33
  go_wp2_with (go_at_call 46; refine (HP _ _ _).mono ?_; rintro e w' ⟨rfl, rfl⟩)
  exact bodyPost_ret (v := vv 1 0 es) (by simp [results, Tryz.results33, go_sem, vv, es]) rfl ⟨rfl, ((Below.refl w.heap.size w).alloc (Nat.le_refl _) _)⟩
set_option maxRecDepth 3000 in
theorem guess_true (s : ByteArray) (w : World) (h1 : (s.toList == [110, 105, 108]) = false) (h2 : (s.toList == [116, 114, 117, 101]) = true) :
    Calls Tryz.prog 33 #[.string s] w fun e w' => e = .returned (V3.val (b3 true)) ∧ Below w.heap.size w w' := by
  go_enter Tryz.func33, Tryz.ntmps33
  go_wp2_with (go_at_call 46; refine (HP _ _ _).mono ?_; rintro e w' ⟨rfl, rfl⟩)
  refine (truth_any _ _).mono ?_
  rintro e w1 ⟨rfl, hb1⟩
  obtain ⟨k0, k1, k2, kf, kz⟩ := ((Own.new _ _ _).below hb1 (by simp only [World.size_alloc]; omega)).facts
  have g1 := Lib.hid (((Below.refl w.heap.size w).alloc (Nat.le_refl _) _).trans (hb1.mono (by simp only [World.size_alloc]; omega)))
  clear hb1
  unfold tv vv es
  go_wp2_with fail
  exact bodyPost_ret (v := tv true) (by simp [results, Tryz.results33, go_sem, vv, k0, k1, k2, tv, es]) rfl ⟨rfl, setres g1.out _ _ _⟩
set_option maxRecDepth 3000 in
theorem guess_false (s : ByteArray) (w : World) (h1 : (s.toList == [110, 105, 108]) = false) (h2 : (s.toList == [116, 114, 117, 101]) = false) (h3 : (s.toList == [102, 97, 108, 115, 101]) = true) :
    Calls Tryz.prog 33 #[.string s] w fun e w' => e = .returned (V3.val (b3 false)) ∧ Below w.heap.size w w' := by
  go_enter Tryz.func33, Tryz.ntmps33
  go_wp2_with (go_at_call 46; refine (HP _ _ _).mono ?_; rintro e w' ⟨rfl, rfl⟩)
  refine (truth_any _ _).mono ?_
  rintro e w1 ⟨rfl, hb1⟩
  obtain ⟨k0, k1, k2, kf, kz⟩ := ((Own.new _ _ _).below hb1 (by simp only [World.size_alloc]; omega)).facts
  have g1 := Lib.hid (((Below.refl w.heap.size w).alloc (Nat.le_refl _) _).trans (hb1.mono (by simp only [World.size_alloc]; omega)))
  clear hb1
  unfold tv vv es
  go_wp2_with fail
  exact bodyPost_ret (v := tv false) (by simp [results, Tryz.results33, go_sem, vv, k0, k1, k2, tv, es]) rfl ⟨rfl, setres g1.out _ _ _⟩
set_option maxRecDepth 3000 in
theorem guess_at (s : ByteArray) (w : World) (hG : Gl w) (h1 : (s.toList == [110, 105, 108]) = false) (h2 : (s.toList == [116, 114, 117, 101]) = false) (h3 : (s.toList == [102, 97, 108, 115, 101]) = false) (p39 : Lib.hasPrefix s.data.toList [39] = false) (p64 : Lib.hasPrefix s.data.toList [64] = true) (hz : 1 ≤ (s.size : Int)) (hs : s.size ≤ 140737488351232) :
    Calls Tryz.prog 33 #[.string s] w fun e w' => e = .returned (V3.val (num3 5 (s.extract 1 s.size).data.toList)) ∧ Below w.heap.size w w' := by
  have HG := Lib.hid hG
  clear hG
  go_enter Tryz.func33, Tryz.ntmps33
  go_wp2_with (go_at_call 46; refine (HP _ _ _).mono ?_; rintro e w' ⟨rfl, rfl⟩)
  refine (numbered_any 5 _ (by rw [ByteArray.size_extract]; omega) _ (HG.out.below ((Below.refl w.heap.size w).alloc (Nat.le_refl _) _))).mono ?_
  rintro e w1 ⟨rfl, hb1⟩
  obtain ⟨k0, k1, k2, kf, kz⟩ := ((Own.new _ _ _).below hb1 (by simp only [World.size_alloc]; omega)).facts
  have g1 := Lib.hid (((Below.refl w.heap.size w).alloc (Nat.le_refl _) _).trans (hb1.mono (by simp only [World.size_alloc]; omega)))
  clear hb1
  generalize hx : num3 5 (s.extract 1 s.size).data.toList = x at *
  have HX := Lib.hid hx
  clear hx
  obtain ⟨x1, x2, x3⟩ := x
  show _
  unfold V3.val vv
  go_wp2_with fail
  have hx := HX.out
  rw [hx]
  exact bodyPost_ret (v := vv x1 x2 x3) (by simp [results, Tryz.results33, go_sem, vv, k0, k1, k2]) rfl ⟨rfl, setres g1.out _ _ _⟩
set_option maxRecDepth 3000 in
theorem guess_amp (s : ByteArray) (w : World) (hG : Gl w) (h1 : (s.toList == [110, 105, 108]) = false) (h2 : (s.toList == [116, 114, 117, 101]) = false) (h3 : (s.toList == [102, 97, 108, 115, 101]) = false) (p39 : Lib.hasPrefix s.data.toList [39] = false) (p64 : Lib.hasPrefix s.data.toList [64] = false) (p38 : Lib.hasPrefix s.data.toList [38] = true) (hz : 1 ≤ (s.size : Int)) (hs : s.size ≤ 140737488351232) :
    Calls Tryz.prog 33 #[.string s] w fun e w' => e = .returned (V3.val (num3 6 (s.extract 1 s.size).data.toList)) ∧ Below w.heap.size w w' := by
  have HG := Lib.hid hG
  clear hG
  go_enter Tryz.func33, Tryz.ntmps33
  go_wp2_with (go_at_call 46; refine (HP _ _ _).mono ?_; rintro e w' ⟨rfl, rfl⟩)
  refine (numbered_any 6 _ (by rw [ByteArray.size_extract]; omega) _ (HG.out.below ((Below.refl w.heap.size w).alloc (Nat.le_refl _) _))).mono ?_
  rintro e w1 ⟨rfl, hb1⟩
  obtain ⟨k0, k1, k2, kf, kz⟩ := ((Own.new _ _ _).below hb1 (by simp only [World.size_alloc]; omega)).facts
  have g1 := Lib.hid (((Below.refl w.heap.size w).alloc (Nat.le_refl _) _).trans (hb1.mono (by simp only [World.size_alloc]; omega)))
  clear hb1
  generalize hx : num3 6 (s.extract 1 s.size).data.toList = x at *
  have HX := Lib.hid hx
  clear hx
  obtain ⟨x1, x2, x3⟩ := x
  show _
  unfold V3.val vv
  go_wp2_with fail
  have hx := HX.out
  rw [hx]
  exact bodyPost_ret (v := vv x1 x2 x3) (by simp [results, Tryz.results33, go_sem, vv, k0, k1, k2]) rfl ⟨rfl, setres g1.out _ _ _⟩
set_option maxRecDepth 3000 in
theorem guess_num (s : ByteArray) (w : World) (hG : Gl w) (h1 : (s.toList == [110, 105, 108]) = false) (h2 : (s.toList == [116, 114, 117, 101]) = false) (h3 : (s.toList == [102, 97, 108, 115, 101]) = false) (p39 : Lib.hasPrefix s.data.toList [39] = false) (p64 : Lib.hasPrefix s.data.toList [64] = false) (p38 : Lib.hasPrefix s.data.toList [38] = false) (hs : s.size ≤ 140737488351232) :
    Calls Tryz.prog 33 #[.string s] w fun e w' => e = .returned (V3.val (num3 3 s.data.toList)) ∧ Below w.heap.size w w' := by
  have HG := Lib.hid hG
  clear hG
  go_enter Tryz.func33, Tryz.ntmps33
  go_wp2_with (go_at_call 46; refine (HP _ _ _).mono ?_; rintro e w' ⟨rfl, rfl⟩)
  refine (numbered_any 3 _ hs _ (HG.out.below ((Below.refl w.heap.size w).alloc (Nat.le_refl _) _))).mono ?_
  rintro e w1 ⟨rfl, hb1⟩
  obtain ⟨k0, k1, k2, kf, kz⟩ := ((Own.new _ _ _).below hb1 (by simp only [World.size_alloc]; omega)).facts
  have g1 := Lib.hid (((Below.refl w.heap.size w).alloc (Nat.le_refl _) _).trans (hb1.mono (by simp only [World.size_alloc]; omega)))
  clear hb1
  generalize hx : num3 3 s.data.toList = x at *
  have HX := Lib.hid hx
  clear hx
  obtain ⟨x1, x2, x3⟩ := x
  show _
  unfold V3.val vv
  go_wp2_with fail
  have hx := HX.out
  rw [hx]
  exact bodyPost_ret (v := vv x1 x2 x3) (by simp [results, Tryz.results33, go_sem, vv, k0, k1, k2]) rfl ⟨rfl, setres g1.out _ _ _⟩
set_option maxRecDepth 3000 in
theorem guess_quote (s : ByteArray) (w : World) (hG : Gl w) (h1 : (s.toList == [110, 105, 108]) = false) (h2 : (s.toList == [116, 114, 117, 101]) = false) (h3 : (s.toList == [102, 97, 108, 115, 101]) = false) (p39 : Lib.hasPrefix s.data.toList [39] = true) (hz : 1 ≤ (s.size : Int)) (hs : s.size < 4294967281) :
    Calls Tryz.prog 33 #[.string s] w fun e w' => e = .returned (V3.val (4, 0, bs (Lib.replaceAll (inner s) [39, 39] [39]))) ∧ Below w.heap.size w w' := by
  have HG := Lib.hid hG
  clear hG
  go_enter Tryz.func33, Tryz.ntmps33
  go_wp2_with (go_at_call 46; refine (HP _ _ _).mono ?_; rintro e w' ⟨rfl, rfl⟩)
  refine (TS s hs _).mono ?_
  rintro e w1 ⟨rfl, rfl⟩
  go_wp2_with fail
  refine (RA _ (inner_len s hs) _ (HG.out.below ((Below.refl w.heap.size w).alloc (Nat.le_refl _) _))).mono ?_
  rintro e w1 ⟨rfl, hb1⟩
  obtain ⟨k0, k1, k2, kf, kz⟩ := ((Own.new _ _ _).below hb1 (by simp only [World.size_alloc]; omega)).facts
  have g1 := Lib.hid (((Below.refl w.heap.size w).alloc (Nat.le_refl _) _).trans (hb1.mono (by simp only [World.size_alloc]; omega)))
  clear hb1
  go_wp2_with fail
  exact bodyPost_ret (v := vv 4 0 (bs (Lib.replaceAll (inner s) [39, 39] [39]))) (by simp [results, Tryz.results33, go_sem, vv, k0, k1, k2]) rfl ⟨rfl, setres g1.out _ _ _⟩

def guess3 (s : ByteArray) : V3 :=
  if (s.toList == [110, 105, 108]) = true then (1, 0, es)
  else if (s.toList == [116, 114, 117, 101]) = true then b3 true
  else if (s.toList == [102, 97, 108, 115, 101]) = true then b3 false
  else if Lib.hasPrefix s.data.toList [39] = true then (4, 0, bs (Lib.replaceAll (inner s) [39, 39] [39]))
  else if Lib.hasPrefix s.data.toList [64] = true then num3 5 (s.extract 1 s.size).data.toList
  else if Lib.hasPrefix s.data.toList [38] = true then num3 6 (s.extract 1 s.size).data.toList
  else num3 3 s.data.toList
theorem prefix_size {s : ByteArray} {c : UInt8} (h : Lib.hasPrefix s.data.toList [c] = true) : 1 ≤ (s.size : Int) := by
  unfold Lib.hasPrefix at h
  have : s.data.toList.length = s.size := by simp
  cases hl : s.data.toList with
  | nil => rw [hl] at h; simp [List.isPrefixOf] at h
  | cons a l => rw [hl] at this; simp at this; omega
theorem guess_any (s : ByteArray) (hs : s.size < 4294967281) (w : World) (hG : Gl w) :
    Calls Tryz.prog 33 #[.string s] w fun e w' => e = .returned (guess3 s).val ∧ Below w.heap.size w w' := by
  unfold guess3
  cases h1 : s.toList == [110, 105, 108]
  · rw [if_neg (by decide)]
    cases h2 : s.toList == [116, 114, 117, 101]
    · rw [if_neg (by decide)]
      cases h3 : s.toList == [102, 97, 108, 115, 101]
      · rw [if_neg (by decide)]
        cases p39 : Lib.hasPrefix s.data.toList [39]
        · rw [if_neg (by decide)]
          cases p64 : Lib.hasPrefix s.data.toList [64]
          · rw [if_neg (by decide)]
            cases p38 : Lib.hasPrefix s.data.toList [38]
            · rw [if_neg (by decide)]
              exact guess_num s w hG h1 h2 h3 p39 p64 p38 (by omega)
            · rw [if_pos rfl]
              exact guess_amp s w hG h1 h2 h3 p39 p64 p38 (prefix_size p38) (by omega)
          · rw [if_pos rfl]
            exact guess_at s w hG h1 h2 h3 p39 p64 (prefix_size p64) (by omega)
        · rw [if_pos rfl]
          exact guess_quote s w hG h1 h2 h3 p39 (prefix_size p39) hs
      · rw [if_pos rfl]
        exact guess_false s w h1 h2 h3
    · rw [if_pos rfl]
      exact guess_true s w h1 h2
  · rw [if_pos rfl]
    exact guess_nil s w h1
theorem es_le : es.size ≤ maxLen := by unfold maxLen es; decide
theorem num3_s (k : Int) (l : List UInt8) : (num3 k l).2.2 = es := by
  unfold num3; split <;> rfl
theorem guess_s (s : ByteArray) (hs : s.size < 4294967281) : (guess3 s).2.2.size ≤ maxLen := by
  unfold guess3
  repeat' split
  · exact es_le
  · exact es_le
  · exact es_le
  · have h1 := inner_len s hs
    have h2 := replaceK_len [39, 39] [39] (Lib.count (inner s) [39, 39]) (inner s)
    have h3 := Lib.count_le (inner s) [39, 39]
    have e : Lib.replaceAll (inner s) [39, 39] [39] = Lib.replaceK [39, 39] [39] (Lib.count (inner s) [39, 39]) (inner s) := by
      unfold Lib.replaceAll Lib.replace Lib.replaceNum; simp
    show (bs _).size ≤ _
    rw [e]
    have hb : (bs (Lib.replaceK [39, 39] [39] (Lib.count (inner s) [39, 39]) (inner s))).size = (Lib.replaceK [39, 39] [39] (Lib.count (inner s) [39, 39]) (inner s)).length := by unfold bs; simp [ByteArray.size]
    simp only [List.length_cons, List.length_nil] at h2
    rw [hb]; unfold maxLen; omega
  · rw [num3_s]; exact es_le
  · rw [num3_s]; exact es_le
  · rw [num3_s]; exact es_le
def same (a b : ByteArray) : Bool := a.data.toList == b.data.toList
def read3 (s : ByteArray) : V3 × Bool := if same (bs (text3 (guess3 s))) s = true then (guess3 s, true) else (z3, false)
set_option maxRecDepth 3000 in
theorem read_yes (s : ByteArray) (hs : s.size < 4294967281) (h : same (bs (text3 (guess3 s))) s = true) (w : World) (hG : Gl w) :
    Calls Tryz.prog 13 #[.string s] w fun e w' => e = .returned (.tuple #[V3.val (guess3 s), .bool true]) ∧ Below w.heap.size w w' := by
  have HG := Lib.hid hG
  have C1 := Lib.hid (guess_any s hs)
  have C2 := Lib.hid (text_any (guess3 s) (guess_s s hs))
  clear hG
  generalize hx : guess3 s = x at *
  have HX := Lib.hid hx
  clear hx
  generalize text3 x = tx at *
  unfold same at h
  rw [← ByteArray.toList_eq, ← ByteArray.toList_eq] at h
  obtain ⟨x1, x2, x3⟩ := x
  show Calls _ _ _ _ _
  go_enter Tryz.func13, Tryz.ntmps13
  go_wp2_with fail
  refine (C1.out _ (HG.out.below ((Below.refl w.heap.size w).alloc (Nat.le_refl _) _))).mono ?_
  rintro e w1 ⟨rfl, hb1⟩
  have o1 := Lib.hid ((Own.new _ _ _).below hb1 (by simp only [World.size_alloc]; omega))
  have g1 := Lib.hid (((Below.refl w.heap.size w).alloc (Nat.le_refl _) _).trans (hb1.mono (by simp only [World.size_alloc]; omega)))
  have z1 := o1.out.lt
  clear hb1
  unfold V3.val vv
  go_wp2_with fail
  refine (C2.out _ (HG.out.below (g1.out.alloc g1.out.size _))).mono ?_
  rintro e w2 ⟨rfl, hb2⟩
  obtain ⟨k0, k1, k2, kf, kz⟩ := ((o1.out.alloc _).below hb2 (by simp only [World.size_alloc]; omega)).facts
  obtain ⟨m0, m1, m2, _, mz⟩ := ((Own.new w1 _ _).below hb2 (by simp only [World.size_alloc]; omega)).facts
  have g2 := Lib.hid ((g1.out.alloc g1.out.size _).trans (hb2.mono (by have := g1.out.size; simp only [World.size_alloc]; omega)))
  clear hb2 g1 HG C1 C2 o1
  go_wp2_with fail
  exact bodyPost_ret (v := .tuple #[V3.val (x1, x2, x3), .bool true]) (by simp [results, Tryz.results13, go_sem, V3.val, vv, k0, k1, k2]) rfl ⟨rfl, setres g2.out _ _ _⟩
set_option maxRecDepth 3000 in
theorem read_no (s : ByteArray) (hs : s.size < 4294967281) (h : same (bs (text3 (guess3 s))) s = false) (w : World) (hG : Gl w) :
    Calls Tryz.prog 13 #[.string s] w fun e w' => e = .returned (.tuple #[V3.val z3, .bool false]) ∧ Below w.heap.size w w' := by
  have HG := Lib.hid hG
  have C1 := Lib.hid (guess_any s hs)
  have C2 := Lib.hid (text_any (guess3 s) (guess_s s hs))
  clear hG
  generalize hx : guess3 s = x at *
  have HX := Lib.hid hx
  clear hx
  generalize text3 x = tx at *
  unfold same at h
  rw [← ByteArray.toList_eq, ← ByteArray.toList_eq] at h
  obtain ⟨x1, x2, x3⟩ := x
  show Calls _ _ _ _ _
  go_enter Tryz.func13, Tryz.ntmps13
  go_wp2_with fail
  refine (C1.out _ (HG.out.below ((Below.refl w.heap.size w).alloc (Nat.le_refl _) _))).mono ?_
  rintro e w1 ⟨rfl, hb1⟩
  have o1 := Lib.hid ((Own.new _ _ _).below hb1 (by simp only [World.size_alloc]; omega))
  have g1 := Lib.hid (((Below.refl w.heap.size w).alloc (Nat.le_refl _) _).trans (hb1.mono (by simp only [World.size_alloc]; omega)))
  have z1 := o1.out.lt
  clear hb1
  unfold V3.val vv
  go_wp2_with fail
  refine (C2.out _ (HG.out.below (g1.out.alloc g1.out.size _))).mono ?_
  rintro e w2 ⟨rfl, hb2⟩
  obtain ⟨k0, k1, k2, kf, kz⟩ := ((o1.out.alloc _).below hb2 (by simp only [World.size_alloc]; omega)).facts
  obtain ⟨m0, m1, m2, _, mz⟩ := ((Own.new w1 _ _).below hb2 (by simp only [World.size_alloc]; omega)).facts
  have g2 := Lib.hid ((g1.out.alloc g1.out.size _).trans (hb2.mono (by have := g1.out.size; simp only [World.size_alloc]; omega)))
  clear hb2 g1 HG C1 C2 o1
  go_wp2_with fail
  exact bodyPost_ret (v := .tuple #[V3.val z3, .bool false]) (by simp [results, Tryz.results13, go_sem, V3.val, vv, z3, es, k0, k1, k2]) rfl ⟨rfl, setres g2.out _ _ _⟩

theorem read_any (s : ByteArray) (hs : s.size < 4294967281) (w : World) (hG : Gl w) :
    Calls Tryz.prog 13 #[.string s] w fun e w' => e = .returned (.tuple #[V3.val (read3 s).1, .bool (read3 s).2]) ∧ Below w.heap.size w w' := by
  unfold read3
  cases h : same (bs (text3 (guess3 s))) s
  · rw [if_neg (by decide)]; exact read_no s hs h w hG
  · rw [if_pos rfl]; exact read_yes s hs h w hG
end Go.Proofs.YtibjhcgfjhbgoaaGreatDoor.Va
