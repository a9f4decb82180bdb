/-
  What is known of the package-level variables; contract of Text.
-/
import Derived.Test.YtibjhcgfjhbgoaaGreatDoorVj
import Derived.Test.YtibjhcgfjhbgoaaGreatDoorShelf
import Derived.Lib.AppendIntMem
import Derived.Lib.AtoiErrMem
import Derived.Lib.SplitLaws
import Derived.Lib.ItoaLen
import Derived.Lib.CountLaws
namespace Go.Proofs.YtibjhcgfjhbgoaaGreatDoor.Va
open Go Go.RowKit Mp

theorem var_cell {w : World} {nm : String} {g : Nat} {v : Value} (hg : Tryz.prog.globalNamed nm = some g) (h : w.var? Tryz.prog nm = some #[v]) : w.cell? ⟨g, 0, none⟩ = some v := by
  have := World.var?_cell hg h 0
  simpa using this
structure Gl (w : World) : Prop where
  bnds : Bnds w
  pow : Lib.TabIs Tryz.prog w "internal/strconv.uint64pow10" .u64 Lib.pow10Tab
  mx : ∃ m, w.cell? ⟨2, 0, none⟩ = some (.int .i64 m)
  esyn : ∃ tp p, w.var? Tryz.prog "strconv.ErrSyntax" = some #[.iface tp p]
  eran : ∃ tp p, w.var? Tryz.prog "strconv.ErrRange" = some #[.iface tp p]
theorem gSyn : Tryz.prog.globalNamed "strconv.ErrSyntax" = some 5 := by kernel_rfl
theorem gRan : Tryz.prog.globalNamed "strconv.ErrRange" = some 6 := by kernel_rfl
theorem gPow : Tryz.prog.globalNamed "internal/strconv.uint64pow10" = some 1 := by kernel_rfl
theorem Gl.below {w w' : World} (h : Gl w) (hb : Below w.heap.size w w') : Gl w' := by
  obtain ⟨b, p, ⟨m, hm⟩, ⟨t1, p1, h1⟩, ⟨t2, p2, h2⟩⟩ := h
  exact ⟨b.below hb b.size, (Lib.tabBelow_of_tabIs p).on hb |>.here, ⟨m, by rw [hb.cell (cell_lt hm)]; exact hm⟩,
    ⟨t1, p1, var?_below hb gSyn (cell_lt (var_cell gSyn h1)) h1⟩, ⟨t2, p2, var?_below hb gRan (cell_lt (var_cell gRan h2)) h2⟩⟩

def text3 (v : V3) : List UInt8 :=
  if right3 v = false then []
  else if v.1 = 1 then [110, 105, 108]
  else if v.1 = 2 then Lib.formatBool (v.2.1 == 1)
  else if v.1 = 3 then Lib.itoa v.2.1
  else if v.1 = 4 then 39 :: (Lib.replaceAll v.2.2.data.toList [39] [39, 39] ++ [39])
  else if v.1 = 5 then 64 :: Lib.itoa v.2.1
  else if v.1 = 6 then 38 :: Lib.itoa v.2.1
  else [117, 110, 115, 101, 116]
def bs (l : List UInt8) : ByteArray := ⟨l.toArray⟩
theorem replaceK_len (old new : List UInt8) : ∀ (k : Nat) (s : List UInt8), (Lib.replaceK old new k s).length ≤ s.length + k * new.length
  | 0, s => by simp [Lib.replaceK]
  | k + 1, s => by
    rw [Lib.replaceK]
    split
    · have := Nat.zero_le ((k + 1) * new.length); omega
    · have ih := replaceK_len old new k (s.drop ((Lib.index s old).toNat + old.length))
      simp only [List.length_append, List.length_take, List.length_drop, Nat.add_mul, Nat.one_mul] at ih ⊢
      omega
theorem quoted_len (s : ByteArray) (hs : s.size ≤ 200) : (Lib.replaceAll s.data.toList [39] [39, 39]).length ≤ 1000 := by
  have h1 := replaceK_len [39] [39, 39] (Lib.count s.data.toList [39]) s.data.toList
  have h2 := Lib.count_le s.data.toList [39]
  have h3 : s.data.toList.length = s.size := by simp
  have e : Lib.replaceAll s.data.toList [39] [39, 39] = Lib.replaceK [39] [39, 39] (Lib.count s.data.toList [39]) s.data.toList := by
    unfold Lib.replaceAll Lib.replace Lib.replaceNum; simp
  rw [e]
  simp only [List.length_cons, List.length_nil] at h1
  omega
theorem FB (b : Bool) (w : World) : Calls Tryz.prog 26 #[.bool b] w fun e w' => e = .returned (.string (bs (Lib.formatBool b))) ∧ w = w' :=
  (Tryz.strconv_FormatBool b w).mono fun _ _ ⟨h, hw⟩ => ⟨h, hw.symm⟩
theorem itoa_any (n : Int) (h : -1000000000000000 ≤ n ∧ n ≤ 1000000000000000) (w : World) (hG : Gl w) : Calls Tryz.prog 27 #[.int .i64 n] w fun e w' => e = .returned (.string (bs (Lib.itoa n))) ∧ Below w.heap.size w w' :=
  (Tryz.strconv_Itoa n (by omega) (by omega) w hG.pow).mono fun _ _ ⟨h, k, os, hw⟩ => ⟨h, by rw [hw]; exact Lib.below_grow _ _ (Nat.le_refl _) _ _⟩
theorem quoted_any (s : ByteArray) (hs : s.size ≤ 200) (w : World) (hG : Gl w) : Calls Tryz.prog 28 #[.string s, .string ⟨#[39]⟩, .string ⟨#[39, 39]⟩] w fun e w' => e = .returned (.string (bs (Lib.replaceAll s.data.toList [39] [39, 39]))) ∧ Below w.heap.size w w' := by
  obtain ⟨m, hm⟩ := hG.mx
  have hc := Lib.countB_le ⟨#[39]⟩ (by decide) 200 s hs
  exact Tryz.strings_ReplaceAll s ⟨#[39]⟩ ⟨#[39, 39]⟩ m w (by omega) hm (by decide) (by show s.size + Lib.countB s ⟨#[39]⟩ * 2 ≤ _; omega)

theorem text_wrong (k n : Int) (s : ByteArray) (h : rightB k n s = false) (hm : s.size ≤ maxLen) (w : World) (hG : Gl w) :
    Calls Tryz.prog 9 #[vv k n s] w fun e w' => e = .returned (.string es) ∧ Below w.heap.size w w' := by
  have C := Lib.hid (fun w hB => right_at k n s false h hm w hB)
  have HG := Lib.hid hG
  clear hG h
  unfold vv
  go_enter Tryz.func9, Tryz.ntmps9
  go_wp2_with fail
  refine (C.out _ (HG.out.bnds.below ((Below.refl _ _).alloc (Nat.le_refl _) _) HG.out.bnds.size)).mono ?_
  rintro e w1 ⟨rfl, hb1⟩
  have g1 := Lib.hid (((Below.refl w.heap.size w).alloc (Nat.le_refl _) _).trans (hb1.mono (by simp only [World.size_alloc]; omega)))
  clear hb1
  go_wp2_with fail
  go_ret
  exact ⟨rfl, g1.out⟩
theorem text_0 (n : Int) (h : rightB 0 n es = true) (w : World) (hG : Gl w) :
    Calls Tryz.prog 9 #[vv 0 n es] w fun e w' => e = .returned (.string ⟨#[117, 110, 115, 101, 116]⟩) ∧ Below w.heap.size w w' := by
  have C := Lib.hid (fun w hB => right_at 0 n es true h (by unfold maxLen es; decide) w hB)
  have HG := Lib.hid hG
  clear hG h
  unfold vv es
  go_enter Tryz.func9, Tryz.ntmps9
  go_wp2_with fail
  refine (C.out _ (HG.out.bnds.below ((Below.refl _ _).alloc (Nat.le_refl _) _) HG.out.bnds.size)).mono ?_
  rintro e w1 ⟨rfl, hb1⟩
  obtain ⟨k0, k1, k2, _, kz⟩ := ((Own.new _ _ _).below hb1 (by simp only [World.size_alloc]; omega)).facts
  have g1 := Lib.hid (((Below.refl w.heap.size w).alloc (Nat.le_refl _) _).trans (hb1.mono (by simp only [World.size_alloc]; omega)))
  clear hb1
  go_wp2_with fail
  go_ret
  exact ⟨rfl, g1.out⟩
theorem text_1 (n : Int) (h : rightB 1 n es = true) (w : World) (hG : Gl w) :
    Calls Tryz.prog 9 #[vv 1 n es] w fun e w' => e = .returned (.string ⟨#[110, 105, 108]⟩) ∧ Below w.heap.size w w' := by
  have C := Lib.hid (fun w hB => right_at 1 n es true h (by unfold maxLen es; decide) w hB)
  have HG := Lib.hid hG
  clear hG h
  unfold vv es
  go_enter Tryz.func9, Tryz.ntmps9
  go_wp2_with fail
  refine (C.out _ (HG.out.bnds.below ((Below.refl _ _).alloc (Nat.le_refl _) _) HG.out.bnds.size)).mono ?_
  rintro e w1 ⟨rfl, hb1⟩
  obtain ⟨k0, k1, k2, _, kz⟩ := ((Own.new _ _ _).below hb1 (by simp only [World.size_alloc]; omega)).facts
  have g1 := Lib.hid (((Below.refl w.heap.size w).alloc (Nat.le_refl _) _).trans (hb1.mono (by simp only [World.size_alloc]; omega)))
  clear hb1
  go_wp2_with fail
  go_ret
  exact ⟨rfl, g1.out⟩
theorem text_2 (n : Int) (h : rightB 2 n es = true) (w : World) (hG : Gl w) :
    Calls Tryz.prog 9 #[vv 2 n es] w fun e w' => e = .returned (.string (bs (Lib.formatBool (n == 1)))) ∧ Below w.heap.size w w' := by
  have C := Lib.hid (fun w hB => right_at 2 n es true h (by unfold maxLen es; decide) w hB)
  have HG := Lib.hid hG
  clear hG h
  unfold vv es
  go_enter Tryz.func9, Tryz.ntmps9
  go_wp2_with fail
  refine (C.out _ (HG.out.bnds.below ((Below.refl _ _).alloc (Nat.le_refl _) _) HG.out.bnds.size)).mono ?_
  rintro e w1 ⟨rfl, hb1⟩
  obtain ⟨k0, k1, k2, _, kz⟩ := ((Own.new _ _ _).below hb1 (by simp only [World.size_alloc]; omega)).facts
  have g1 := Lib.hid (((Below.refl w.heap.size w).alloc (Nat.le_refl _) _).trans (hb1.mono (by simp only [World.size_alloc]; omega)))
  clear hb1
  go_wp2_with fail
  refine (FB _ _).mono ?_
  rintro e w2 ⟨rfl, rfl⟩
  unfold bs
  go_wp2_with fail
  go_ret
  exact ⟨rfl, g1.out⟩
theorem text_3 (n : Int) (h : rightB 3 n es = true) (w : World) (hG : Gl w) :
    Calls Tryz.prog 9 #[vv 3 n es] w fun e w' => e = .returned (.string (bs (Lib.itoa n))) ∧ Below w.heap.size w w' := by
  have C := Lib.hid (fun w hB => right_at 3 n es true h (by unfold maxLen es; decide) w hB)
  have HG := Lib.hid hG
  have HI : Hid (-1000000000000000 ≤ n ∧ n ≤ 1000000000000000) := by
    unfold rightB bndB at h; simp at h; exact (by omega : -1000000000000000 ≤ n ∧ n ≤ 1000000000000000)
  clear hG h
  unfold vv es
  go_enter Tryz.func9, Tryz.ntmps9
  go_wp2_with fail
  refine (C.out _ (HG.out.bnds.below ((Below.refl _ _).alloc (Nat.le_refl _) _) HG.out.bnds.size)).mono ?_
  rintro e w1 ⟨rfl, hb1⟩
  obtain ⟨k0, k1, k2, _, kz⟩ := ((Own.new _ _ _).below hb1 (by simp only [World.size_alloc]; omega)).facts
  have g1 := Lib.hid (((Below.refl w.heap.size w).alloc (Nat.le_refl _) _).trans (hb1.mono (by simp only [World.size_alloc]; omega)))
  clear hb1
  go_wp2_with fail
  refine (itoa_any n HI.out _ (HG.out.below g1.out)).mono ?_
  rintro e w2 ⟨rfl, hb2⟩
  have g2 := Lib.hid (g1.out.trans (hb2.mono g1.out.size))
  clear hb2
  have hl : (Lib.itoa n).length ≤ 1000 := Nat.le_trans (Lib.itoa_length_le n (by have := HI.out; omega) (by have := HI.out; omega)) (by decide)
  generalize hx : (Lib.itoa n) = x at *
  have HX := Lib.hid hx
  clear hx
  unfold bs
  go_wp2_with fail
  go_ret
  have hx := HX.out
  subst hx
  exact ⟨rfl, g2.out⟩
theorem text_4 (n : Int) (s : ByteArray) (h : rightB 4 n s = true) (w : World) (hG : Gl w) :
    Calls Tryz.prog 9 #[vv 4 n s] w fun e w' => e = .returned (.string (bs (39 :: (Lib.replaceAll s.data.toList [39] [39, 39] ++ [39])))) ∧ Below w.heap.size w w' := by
  have C := Lib.hid (fun w hB => right_at 4 n s true h (by have := str_bd h; unfold maxLen; omega) w hB)
  have HG := Lib.hid hG
  have HS := Lib.hid (str_bd h)
  clear hG h
  unfold vv
  go_enter Tryz.func9, Tryz.ntmps9
  go_wp2_with fail
  refine (C.out _ (HG.out.bnds.below ((Below.refl _ _).alloc (Nat.le_refl _) _) HG.out.bnds.size)).mono ?_
  rintro e w1 ⟨rfl, hb1⟩
  obtain ⟨k0, k1, k2, _, kz⟩ := ((Own.new _ _ _).below hb1 (by simp only [World.size_alloc]; omega)).facts
  have g1 := Lib.hid (((Below.refl w.heap.size w).alloc (Nat.le_refl _) _).trans (hb1.mono (by simp only [World.size_alloc]; omega)))
  clear hb1
  go_wp2_with fail
  refine (quoted_any s HS.out _ (HG.out.below g1.out)).mono ?_
  rintro e w2 ⟨rfl, hb2⟩
  have g2 := Lib.hid (g1.out.trans (hb2.mono g1.out.size))
  clear hb2
  have hl : (Lib.replaceAll s.data.toList [39] [39, 39]).length ≤ 1000 := quoted_len s HS.out
  generalize hx : (Lib.replaceAll s.data.toList [39] [39, 39]) = x at *
  have HX := Lib.hid hx
  clear hx
  unfold bs
  go_wp2_with fail
  go_ret
  have hx := HX.out
  subst hx
  exact ⟨by show Ending.returned (.string _) = _; congr 2, g2.out⟩
theorem text_5 (n : Int) (h : rightB 5 n es = true) (w : World) (hG : Gl w) :
    Calls Tryz.prog 9 #[vv 5 n es] w fun e w' => e = .returned (.string (bs (64 :: Lib.itoa n))) ∧ Below w.heap.size w w' := by
  have C := Lib.hid (fun w hB => right_at 5 n es true h (by unfold maxLen es; decide) w hB)
  have HG := Lib.hid hG
  have HI : Hid (-1000000000000000 ≤ n ∧ n ≤ 1000000000000000) := by
    unfold rightB bndB at h; simp at h; exact (by omega : -1000000000000000 ≤ n ∧ n ≤ 1000000000000000)
  clear hG h
  unfold vv es
  go_enter Tryz.func9, Tryz.ntmps9
  go_wp2_with fail
  refine (C.out _ (HG.out.bnds.below ((Below.refl _ _).alloc (Nat.le_refl _) _) HG.out.bnds.size)).mono ?_
  rintro e w1 ⟨rfl, hb1⟩
  obtain ⟨k0, k1, k2, _, kz⟩ := ((Own.new _ _ _).below hb1 (by simp only [World.size_alloc]; omega)).facts
  have g1 := Lib.hid (((Below.refl w.heap.size w).alloc (Nat.le_refl _) _).trans (hb1.mono (by simp only [World.size_alloc]; omega)))
  clear hb1
  go_wp2_with fail
  refine (itoa_any n HI.out _ (HG.out.below g1.out)).mono ?_
  rintro e w2 ⟨rfl, hb2⟩
  have g2 := Lib.hid (g1.out.trans (hb2.mono g1.out.size))
  clear hb2
  have hl : (Lib.itoa n).length ≤ 1000 := Nat.le_trans (Lib.itoa_length_le n (by have := HI.out; omega) (by have := HI.out; omega)) (by decide)
  generalize hx : (Lib.itoa n) = x at *
  have HX := Lib.hid hx
  clear hx
  unfold bs
  go_wp2_with fail
  go_ret
  have hx := HX.out
  subst hx
  exact ⟨by show Ending.returned (.string _) = _; congr 2, g2.out⟩
theorem text_6 (n : Int) (h : rightB 6 n es = true) (w : World) (hG : Gl w) :
    Calls Tryz.prog 9 #[vv 6 n es] w fun e w' => e = .returned (.string (bs (38 :: Lib.itoa n))) ∧ Below w.heap.size w w' := by
  have C := Lib.hid (fun w hB => right_at 6 n es true h (by unfold maxLen es; decide) w hB)
  have HG := Lib.hid hG
  have HI : Hid (-1000000000000000 ≤ n ∧ n ≤ 1000000000000000) := by
    unfold rightB bndB at h; simp at h; exact (by omega : -1000000000000000 ≤ n ∧ n ≤ 1000000000000000)
  clear hG h
  unfold vv es
  go_enter Tryz.func9, Tryz.ntmps9
  go_wp2_with fail
  refine (C.out _ (HG.out.bnds.below ((Below.refl _ _).alloc (Nat.le_refl _) _) HG.out.bnds.size)).mono ?_
  rintro e w1 ⟨rfl, hb1⟩
  obtain ⟨k0, k1, k2, _, kz⟩ := ((Own.new _ _ _).below hb1 (by simp only [World.size_alloc]; omega)).facts
  have g1 := Lib.hid (((Below.refl w.heap.size w).alloc (Nat.le_refl _) _).trans (hb1.mono (by simp only [World.size_alloc]; omega)))
  clear hb1
  go_wp2_with fail
  refine (itoa_any n HI.out _ (HG.out.below g1.out)).mono ?_
  rintro e w2 ⟨rfl, hb2⟩
  have g2 := Lib.hid (g1.out.trans (hb2.mono g1.out.size))
  clear hb2
  have hl : (Lib.itoa n).length ≤ 1000 := Nat.le_trans (Lib.itoa_length_le n (by have := HI.out; omega) (by have := HI.out; omega)) (by decide)
  generalize hx : (Lib.itoa n) = x at *
  have HX := Lib.hid hx
  clear hx
  unfold bs
  go_wp2_with fail
  go_ret
  have hx := HX.out
  subst hx
  exact ⟨by show Ending.returned (.string _) = _; congr 2, g2.out⟩

theorem kinds_of {k n : Int} {s : ByteArray} (h : rightB k n s = true) : k = 0 ∧ s = es ∨ k = 1 ∧ s = es ∨ k = 2 ∧ s = es ∨ k = 3 ∧ s = es ∨ k = 4 ∨ k = 5 ∧ s = es ∨ k = 6 ∧ s = es := by
  unfold rightB at h
  simp only [Bool.and_eq_true, Bool.or_eq_true, decide_eq_true_eq] at h
  obtain ⟨⟨h1, h2⟩, _⟩ := h
  have hk : k = 0 ∨ k = 1 ∨ k = 2 ∨ k = 3 ∨ k = 4 ∨ k = 5 ∨ k = 6 := by unfold bndB at h1; simp at h1; omega
  by_cases h4 : k = 4
  · simp [h4]
  · have hs : s = es := WideShapes.bytes_inj (by have := h2.resolve_left h4; unfold es; simpa using this)
    simp [hs]; omega
theorem text_any (v : V3) (hm : v.2.2.size ≤ maxLen) (w : World) (hG : Gl w) :
    Calls Tryz.prog 9 #[v.val] w fun e w' => e = .returned (.string (bs (text3 v))) ∧ Below w.heap.size w w' := by
  obtain ⟨k, n, s⟩ := v
  simp only at hm
  show Calls Tryz.prog 9 #[vv k n s] w _
  unfold text3 right3
  simp only
  cases h : rightB k n s
  · rw [if_pos rfl]; exact text_wrong k n s h hm w hG
  · rw [if_neg (by decide)]
    rcases kinds_of h with ⟨rfl, rfl⟩ | ⟨rfl, rfl⟩ | ⟨rfl, rfl⟩ | ⟨rfl, rfl⟩ | rfl | ⟨rfl, rfl⟩ | ⟨rfl, rfl⟩
    · exact text_0 n h w hG
    · exact text_1 n h w hG
    · exact text_2 n h w hG
    · exact text_3 n h w hG
    · exact text_4 n s h w hG
    · exact text_5 n h w hG
    · exact text_6 n h w hG
end Go.Proofs.YtibjhcgfjhbgoaaGreatDoor.Va
