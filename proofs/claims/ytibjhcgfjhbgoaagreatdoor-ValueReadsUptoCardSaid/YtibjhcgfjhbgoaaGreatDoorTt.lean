/-
  Contract of the reference's Text: it computes what package value's Text computes.
-/
import Derived.Test.YtibjhcgfjhbgoaaGreatDoorTl
namespace Go.Proofs.YtibjhcgfjhbgoaaGreatDoor.Va
open Go Go.RowKit Mp

set_option maxRecDepth 3000 in
theorem refText_wrong (k n : Int) (s : ByteArray) (hm : s.size ≤ maxLen) (hr : rightB k n s = false) (w : World) :
    Calls Tryz.prog 12 #[vv k n s] w (LitOf [] w) := by
  have C := Lib.hid (fun w => refRight_at k n s false hr hm w)
  have hs := Lib.hid ((Sx0.init w).add #[.int .i64 k, .int .i64 n, .string s] 23)
  clear hm hr
  unfold vv
  go_enter Tryz.func12, Tryz.ntmps12
  go_wp2_with fail
  refine (C.out _).mono ?_
  rintro e w1 ⟨rfl, hb⟩
  replace hs := Lib.hid (hs.out.step hb)
  clear hb
  go_wp2_with fail
  go_ret
  exact litOf rfl hs.out.be
set_option maxRecDepth 3000 in
theorem refText_0 (n : Int) (hr : rightB 0 n es = true) (w : World) :
    Calls Tryz.prog 12 #[vv 0 n es] w (LitOf [117, 110, 115, 101, 116] w) := by
  have C := Lib.hid (fun w => refRight_at 0 n es true hr es_le w)
  have hs := Lib.hid ((Sx0.init w).add #[.int .i64 0, .int .i64 n, .string es] 23)
  clear hr
  unfold vv
  go_enter Tryz.func12, Tryz.ntmps12
  go_wp2_with fail
  refine (C.out _).mono ?_
  rintro e w1 ⟨rfl, hb⟩
  replace hs := Lib.hid (hs.out.step hb)
  clear hb
  obtain ⟨a0, a1, a2, _, _⟩ := hs.out.res _ _ _ _ _ (.head _)
  go_wp2_with fail
  go_ret
  exact litOf rfl hs.out.be
set_option maxRecDepth 3000 in
theorem refText_5 (n : Int) (hr : rightB 5 n es = true) (w : World) :
    Calls Tryz.prog 12 #[vv 5 n es] w (LitOf (64 :: Lib.itoa n) w) := by
  have C := Lib.hid (fun w => refRight_at 5 n es true hr es_le w)
  have hb := bnd_of hr
  unfold bndB at hb
  simp only [decide_eq_true_eq] at hb
  have CD := Lib.hid (decimal_any n (by omega))
  have hl := Lib.itoa_length_le n (by omega) (by omega)
  have hs := Lib.hid ((Sx0.init w).add #[.int .i64 5, .int .i64 n, .string es] 23)
  clear hr hb
  unfold vv
  go_enter Tryz.func12, Tryz.ntmps12
  go_wp2_with fail
  refine (C.out _).mono ?_
  rintro e w1 ⟨rfl, hb⟩
  replace hs := Lib.hid (hs.out.step hb)
  clear hb
  obtain ⟨a0, a1, a2, _, _⟩ := hs.out.res _ _ _ _ _ (.head _)
  go_wp2_with fail
  refine (CD.out _).mono ?_
  rintro e w2 ⟨rfl, hb⟩
  replace hs := Lib.hid (hs.out.step hb)
  clear hb a0 a1 a2
  rw [← bs_size] at hl
  have hz := bs_list (Lib.itoa n)
  have HZ := Lib.hid hz
  clear hz
  generalize bs (Lib.itoa n) = t at *
  go_wp2_with fail
  go_ret
  exact litOf (by rw [ByteArray.data_append, Array.toList_append, HZ.out]; rfl) hs.out.be
set_option maxRecDepth 3000 in
theorem refText_6 (n : Int) (hr : rightB 6 n es = true) (w : World) :
    Calls Tryz.prog 12 #[vv 6 n es] w (LitOf (38 :: Lib.itoa n) w) := by
  have C := Lib.hid (fun w => refRight_at 6 n es true hr es_le w)
  have hb := bnd_of hr
  unfold bndB at hb
  simp only [decide_eq_true_eq] at hb
  have CD := Lib.hid (decimal_any n (by omega))
  have hl := Lib.itoa_length_le n (by omega) (by omega)
  have hs := Lib.hid ((Sx0.init w).add #[.int .i64 6, .int .i64 n, .string es] 23)
  clear hr hb
  unfold vv
  go_enter Tryz.func12, Tryz.ntmps12
  go_wp2_with fail
  refine (C.out _).mono ?_
  rintro e w1 ⟨rfl, hb⟩
  replace hs := Lib.hid (hs.out.step hb)
  clear hb
  obtain ⟨a0, a1, a2, _, _⟩ := hs.out.res _ _ _ _ _ (.head _)
  go_wp2_with fail
  refine (CD.out _).mono ?_
  rintro e w2 ⟨rfl, hb⟩
  replace hs := Lib.hid (hs.out.step hb)
  clear hb a0 a1 a2
  rw [← bs_size] at hl
  have hz := bs_list (Lib.itoa n)
  have HZ := Lib.hid hz
  clear hz
  generalize bs (Lib.itoa n) = t at *
  go_wp2_with fail
  go_ret
  exact litOf (by rw [ByteArray.data_append, Array.toList_append, HZ.out]; rfl) hs.out.be
set_option maxRecDepth 3000 in
theorem refText_lit (k n : Int) (s : ByteArray) (hm : s.size ≤ maxLen) (hr : rightB k n s = true) (h0 : (k == 0) = false) (h5 : (k == 5) = false) (h6 : (k == 6) = false) (w : World) :
    Calls Tryz.prog 12 #[vv k n s] w (LitOf (lit3 (k, n, s)) w) := by
  have C := Lib.hid (fun w => refRight_at k n s true hr hm w)
  have CL := Lib.hid (fun w => literal_any (k, n, s) hm w)
  have hs := Lib.hid ((Sx0.init w).add #[.int .i64 k, .int .i64 n, .string s] 23)
  generalize lit3 (k, n, s) = l at *
  clear hm hr
  unfold vv
  go_enter Tryz.func12, Tryz.ntmps12
  go_wp2_with fail
  refine (C.out _).mono ?_
  rintro e w1 ⟨rfl, hb⟩
  replace hs := Lib.hid (hs.out.step hb)
  clear hb
  obtain ⟨a0, a1, a2, _, _⟩ := hs.out.res _ _ _ _ _ (.head _)
  go_wp2_with fail
  refine (CL.out _).mono ?_
  rintro e w2 ⟨rfl, hb⟩
  replace hs := Lib.hid (hs.out.step hb)
  clear hb a0 a1 a2
  go_wp2_with fail
  go_ret
  exact ⟨rfl, hs.out.be⟩
theorem refText_any (v : V3) (hm : v.2.2.size ≤ maxLen) (w : World) :
    Calls Tryz.prog 12 #[v.val] w (LitOf (text3 v) w) := by
  obtain ⟨k, n, s⟩ := v
  simp only at hm
  show Calls Tryz.prog 12 #[vv k n s] w _
  cases hr : rightB k n s
  · rw [text_no (show right3 (k, n, s) = false from hr)]; exact refText_wrong k n s hm hr w
  rcases kinds_of hr with ⟨rfl, rfl⟩ | ⟨rfl, rfl⟩ | ⟨rfl, rfl⟩ | ⟨rfl, rfl⟩ | rfl | ⟨rfl, rfl⟩ | ⟨rfl, rfl⟩
  · rw [tx_0 hr]; exact refText_0 n hr w
  · rw [← lit_yes (by decide)]; exact refText_lit 1 n es hm hr rfl rfl rfl w
  · rw [← lit_yes (by decide)]; exact refText_lit 2 n es hm hr rfl rfl rfl w
  · rw [← lit_yes (by decide)]; exact refText_lit 3 n es hm hr rfl rfl rfl w
  · rw [← lit_yes (by decide)]; exact refText_lit 4 n s hm hr rfl rfl rfl w
  · rw [tx_5 hr]; exact refText_5 n hr w
  · rw [tx_6 hr]; exact refText_6 n hr w
end Go.Proofs.YtibjhcgfjhbgoaaGreatDoor.Va
