/-
  Contracts of the reference's Split and BentText, for a text of one line.
-/
import Derived.Test.YtibjhcgfjhbgoaaGreatDoorRn
import Derived.Test.YtibjhcgfjhbgoaaGreatDoorSy
import Derived.Deep.AppendLies
import Derived.RegionTactic
import Derived.BigRegion
import Derived.Deep.QuietTactic
import Derived.BigQuiet
import Derived.Deep.RegionHeld3
import Derived.Deep.DeepCutAuto
namespace Go.Proofs.YtibjhcgfjhbgoaaGreatDoor.Va
open Go Go.RowKit Mp

theorem ownsRow_nil (w : World) (base : Nat) (e : TypeId) (size : Nat) : w.ownsRow base e size (.slice none 0 0) 0 [] := ⟨by simp, .inl ⟨rfl, rfl⟩⟩
theorem Below.grown {B : Nat} {a w w' : World} {row : Option Nat} (h : Below B a w) (hg : w.grownBy w' row) (hr : ∀ b, row = some b → B ≤ b) (hB : B ≤ w.heap.size) : Below B a w' :=
  ⟨hg.os.trans h.os, hg.tape.trans h.tape, hg.output.trans h.output, Nat.le_trans h.size hg.size, fun i hi => (hg.block i (Nat.lt_of_lt_of_le hi hB) (fun e => by have := hr i e.symm; omega)).trans (h.block i hi)⟩
/-- A row of one string. -/
def Spl (s : ByteArray) (w : World) (e : Ending) (w' : World) : Prop :=
  ∃ (g cap : Nat) (cur : Array Value), e = .returned (.slice (some ⟨g, 0, none⟩) 1 cap) ∧ w.heap.size ≤ g ∧ 1 ≤ cap ∧ cur.size = cap ∧ cap ≤ maxLen ∧ cur[0]? = some (.string s) ∧ Own w' g cur 9 ∧ Below w.heap.size w w'
theorem spl_of {w : World} {base g cap : Nat} {s : ByteArray} (h : w.ownsRow base 9 1 (.slice (some ⟨g, 0, none⟩) 1 cap) 1 [.string s]) :
    ∃ cur : Array Value, base ≤ g ∧ 1 ≤ cap ∧ cur.size = cap ∧ cap ≤ maxLen ∧ cur[0]? = some (.string s) ∧ Own w g cur 9 := by
  rcases h.2 with ⟨h, _⟩ | ⟨g', cap', cur, hv, hb, hg, h1, h2, h3, h4⟩
  · cases h
  · injection hv with e1 _ e3
    injection e1 with e1
    injection e1 with e1 _ _
    subst e1 e3
    refine ⟨cur, hb, h1, by omega, h2, ?_, hg⟩
    have := congrArg (fun l : List Value => l[0]?) h4
    simpa using this
theorem ext_all (s : ByteArray) : s.extract 0 s.size = s := by
  apply bytes_of_list
  rw [Lib.extract_data, List.drop_zero, List.take_of_length_le (by rw [show s.data.toList.length = s.size from Array.length_toList]; omega)]
theorem Own.new1 (w : World) (o : Obj) (c : Array Value) (T : TypeId) : Own ((w.alloc o).alloc (.cells c T)).drew (w.heap.size + 1) c T := by
  have h := Own.new (w.alloc o) c T
  rw [World.size_alloc] at h
  exact h
theorem cut_bd (n o : Nat) (e : TypeId) (t : Nat) (h : n < 1000) : n ≤ (Question.appendCap n o e).cut t ∧ (Question.appendCap n o e).cut t ≤ maxLen := by
  show n ≤ n + t % (2 ^ 63 - n) ∧ n + t % (2 ^ 63 - n) ≤ maxLen
  have := Nat.mod_lt t (show 0 < 2 ^ 63 - n by omega)
  unfold maxLen
  omega
set_option maxRecDepth 5000 in
theorem split_any (s : ByteArray) (hs : s.size ≤ 1000) (hn : ∀ k (h : k < s.size), s[k] ≠ 10) (w : World) :
    Calls Tryz.prog 34 #[.string s, .int .u8 10] w (Spl s w) := by
  have hs' : (s.size : Int) ≤ 1000 := by omega
  have HN := Lib.hid hn
  clear hn
  go_enter Tryz.func34, Tryz.ntmps34
  go_wp2_with fail
  go_loop [5, 6, 7] (fun o f i => ∃ k : Nat, k ≤ s.size ∧ i = .int .i64 k ∧ o = .slice none 0 0 ∧ f = .int .i64 0) (fun _ _ i => s.size - (intOf i).toNat)
  case atStart => exact ⟨0, Nat.zero_le _, rfl, rfl, rfl⟩
  case round =>
    obtain ⟨k, hk, rfl, rfl, rfl⟩ := hrel
    by_cases hlt : k < s.size
    · have i0 : (0 : Int) ≤ k := by omega
      have i1 : (k : Int) < s.size := by omega
      have hb : ((s[k].toNat : Int) == 10) = false := by
        simp only [beq_eq_false_iff_ne]
        exact fun h => HN.out k hlt (UInt8.toNat_inj.1 (by show s[k].toNat = 10; omega))
      go_wp2_with fail
      go_round
      case rel => exact ⟨k + 1, by omega, by go_num, rfl, rfl⟩
      case measure => simp [intOf]; omega
    · obtain rfl : k = s.size := by omega
      have he := ext_all s
      go_wp2_with fail
      have hcut := cut_bd 1 0 9 (w.tape w.drawn (Question.appendCap 1 0 9)) (by decide)
      generalize (Question.appendCap 1 0 9).cut (w.tape w.drawn (Question.appendCap 1 0 9)) = cap at *
      go_ret
      refine ⟨w.heap.size + 1, cap, _, rfl, by omega, hcut.1, ?_, hcut.2, ?_, Own.new1 _ _ _ _, (((Below.refl _ _).alloc (Nat.le_refl _) _).alloc (by simp) _).drew⟩
      · rw [Array.size_append, size_zeroCells]; simp; omega
      · rw [Array.getElem?_append_left (by simp)]; rfl
theorem ext_le (s : ByteArray) (a b : Nat) : (s.extract a b).size ≤ s.size := by
  have h := congrArg List.length (Lib.extract_data s a b)
  rw [List.length_take, List.length_drop, show (s.extract a b).data.toList.length = (s.extract a b).size from Array.length_toList, show s.data.toList.length = s.size from Array.length_toList] at h
  omega
theorem convD (w : World) (x : Int) (c : UInt8) (hx : x = c.toNat) : (convert 56 9 (.slice (some ⟨w.heap.size, 0, none⟩) 1 1)).run Tryz.prog (w.alloc (.cells #[.int .u8 x] 5)).drew = .ok (.string ⟨#[c]⟩) (w.alloc (.cells #[.int .u8 x] 5)).drew := by
  refine run_convert_bytes_back _ 56 9 5 ⟨w.heap.size, 0, none⟩ 1 [c] Tryz.underlying56 Tryz.underlying5 Tryz.underlying9 fun j hj => ?_
  obtain rfl : j = 0 := by simpa using hj
  subst hx
  exact (Own.new w #[.int .u8 (c.toNat : Int)] 5).cell 0
theorem byte_of (n : Int) : ∃ c : UInt8, IntKind.u8.wrap n = (c.toNat : Int) := by
  have h : 0 ≤ IntKind.u8.wrap n ∧ IntKind.u8.wrap n ≤ 255 := by rw [IntKind.wrap_u8]; omega
  exact ⟨UInt8.ofNat (IntKind.u8.wrap n).toNat, by rw [UInt8.toNat_ofNat']; omega⟩
theorem cellTop2 (w : World) (o1 o2 : Obj) (c : Array Value) (T : TypeId) (j : Nat) (v : Value) (hv : c[j]? = some v) : ((((w.alloc o1).alloc o2).alloc (.cells c T)).drew.drew).cell? ⟨w.heap.size + 1 + 1, j, none⟩ = some v := by
  have h := (Own.new ((w.alloc o1).alloc o2) c T).cell j
  rw [World.size_alloc, World.size_alloc, hv] at h
  exact h
theorem cellTop3 (w : World) (o1 o2 o3 : Obj) (c : Array Value) (T : TypeId) (j : Nat) (v : Value) (hv : c[j]? = some v) : (((((w.alloc o1).alloc o2).alloc o3).alloc (.cells c T)).drew.drew.drew).cell? ⟨w.heap.size + 1 + 1 + 1, j, none⟩ = some v := by
  have h := (Own.new (((w.alloc o1).alloc o2).alloc o3) c T).cell j
  rw [World.size_alloc, World.size_alloc, World.size_alloc, hv] at h
  exact h
theorem zero_len (n : Nat) : (Builtin.zeroCells #[.string ⟨#[]⟩] n).size = n := by rw [size_zeroCells]; simp
theorem zero_at (s : ByteArray) (n : Nat) (h : 2 ≤ n) : ∃ v, (#[.string s] ++ Builtin.zeroCells #[.string ⟨#[]⟩] (n - 1) : Array Value)[1]? = some v := by
  have h1 := zero_len (n - 1)
  rw [Array.getElem?_append_right (by simp)]
  exact ⟨_, Array.getElem?_eq_getElem (by simp; omega)⟩
theorem set_at (s : ByteArray) (n : Nat) (h : 2 ≤ n) : (#[.string s] ++ (Builtin.zeroCells #[.string ⟨#[]⟩] (n - 1)).setIfInBounds 0 (.string s) : Array Value)[0]? = some (.string s) ∧
    (#[.string s] ++ (Builtin.zeroCells #[.string ⟨#[]⟩] (n - 1)).setIfInBounds 0 (.string s) : Array Value)[1]? = some (.string s) := by
  have h1 := zero_len (n - 1)
  refine ⟨by rw [Array.getElem?_append_left (by simp)]; rfl, ?_⟩
  rw [Array.getElem?_append_right (by simp)]
  simp only [List.size_toArray, List.length_cons, List.length_nil, Nat.zero_add, Nat.sub_self]
  rw [Array.getElem?_setIfInBounds_self_of_lt (by omega)]
def Bent (w : World) (e : Ending) (w' : World) : Prop := ∃ t : ByteArray, e = .returned (.string t) ∧ t.size ≤ 4000 ∧ Below w.heap.size w w'
theorem bent_of {w w' : World} {t : ByteArray} (ht : t.size ≤ 4000) (hb : Below w.heap.size w w') : Bent w (.returned (.string t)) w' := ⟨t, rfl, ht, hb⟩
set_option maxRecDepth 5000 in
set_option maxHeartbeats 4000000 in
theorem bent_0 (s : ByteArray) (q0 q1 q2 : Int) (h0 : 1 ≤ s.size) (hs : s.size ≤ 1000) (hn : ∀ k (h : k < s.size), s[k] ≠ 10) (hm : md q0 7 = 0) (w : World) :
    Calls Tryz.prog 14 #[.string s, .agg #[.int .i64 q0, .int .i64 q1, .int .i64 q2]] w (Bent w) := by
  obtain ⟨a, ha⟩ : ∃ a : Nat, md q1 s.size = a := ⟨(md q1 s.size).toNat, by have := (md_bd q1 s.size (by omega)).1; omega⟩
  have hal : a < s.size := by have := (md_bd q1 s.size (by omega)).2; omega
  have MA : Hid (∀ w, Calls Tryz.prog 23 #[.int .i64 q1, .int .i64 (s.size : Int)] w fun e w' => e = .returned (.int .i64 a) ∧ w = w') := Lib.hid (fun w => by have := mod_any q1 s.size (by omega) (by omega) w; rw [ha] at this; exact this)
  have M1 : Hid (∀ w, Calls Tryz.prog 23 #[.int .i64 q1, .int .i64 1] w fun e w' => e = .returned (.int .i64 0) ∧ w = w') := Lib.hid (fun w => by have := mod_any q1 1 (by omega) (by omega) w; rw [show md q1 1 = 0 by have := md_bd q1 1 (by omega); omega] at this; exact this)
  have M7 : Hid (∀ w, Calls Tryz.prog 23 #[.int .i64 q0, .int .i64 7] w fun e w' => e = .returned (.int .i64 0) ∧ w = w') := Lib.hid (fun w => by have := mod_any q0 7 (by omega) (by omega) w; rw [hm] at this; exact this)
  have SP := Lib.hid (split_any s hs hn)
  have hs0 := Lib.hid ((Sx0.init w).add #[.int .i64 q0, .int .i64 q1, .int .i64 q2] 32)
  have z0 : (1 : Int) ≤ s.size := by omega
  have z1 : (s.size : Int) ≤ 1000 := by omega
  have ne : ((s.size : Int) == 0) = false := beq_eq_false_iff_ne.2 (by omega)
  have a0 : (0 : Int) ≤ a := by omega
  have a1 : (a : Int) < s.size := by omega
  have a2 : (a : Int) ≤ s.size := by omega
  have a3 : (a : Int) + 1 ≤ s.size := by omega
  clear ha hm hn
  go_enter Tryz.func14, Tryz.ntmps14
  go_wp2_with fail
  refine (MA.out _).mono ?_
  rintro e w1 ⟨rfl, rfl⟩
  go_wp2_with fail
  refine (SP.out _).mono ?_
  rintro e w1 ⟨g, cap, cur, rfl, hg, hc1, hc2, hc3, hc4, ho, hb⟩
  have og := Lib.hid ho
  replace hs0 := Lib.hid (hs0.out.step hb)
  clear hb ho
  obtain ⟨b0, b1, b2, _, _⟩ := hs0.out.res _ _ _ _ _ (.head _)
  have g0 : w1.cell? ⟨g, 0, none⟩ = some (.string s) := by rw [og.out.cell 0]; exact hc4
  have gf := og.out.frozen
  have gl := og.out.lt
  go_wp2_with fail
  refine (M1.out _).mono ?_
  rintro e w2 ⟨rfl, rfl⟩
  go_wp2_with fail
  refine (M7.out _).mono ?_
  rintro e w2 ⟨rfl, rfl⟩
  obtain ⟨c, hc⟩ := byte_of q2
  have hcv := convD w1 (c.toNat : Int) c rfl
  have hw : IntKind.i64.wrap ((a : Int) + 1) = (a : Int) + 1 := IntWalk.i64_in _ (by omega)
  have nb := World.new_ne _ _ b2
  have e1 := ext_le s 0 a
  have e2 := ext_le s a s.size
  have e3 := ext_le s (a + 1) s.size
  go_wp2_with fail
  have e4 : (⟨#[c]⟩ : ByteArray).size = 1 := rfl
  have E4 := Lib.hid e4
  clear e4
  go_region
  all_goals (go_wp2_with fail)
  all_goals go_ret
  all_goals (refine bent_of (by have := E4.out; simp only [cat_size]; omega) ?_)
  all_goals exact (hs0.out.be.alloc hs0.out.be.size _).drew
set_option maxRecDepth 5000 in
set_option maxHeartbeats 4000000 in
theorem bent_1 (s : ByteArray) (q0 q1 q2 : Int) (h0 : 1 ≤ s.size) (hs : s.size ≤ 1000) (hn : ∀ k (h : k < s.size), s[k] ≠ 10) (hm : md q0 7 = 1) (w : World) :
    Calls Tryz.prog 14 #[.string s, .agg #[.int .i64 q0, .int .i64 q1, .int .i64 q2]] w (Bent w) := by
  obtain ⟨a, ha⟩ : ∃ a : Nat, md q1 s.size = a := ⟨(md q1 s.size).toNat, by have := (md_bd q1 s.size (by omega)).1; omega⟩
  have hal : a < s.size := by have := (md_bd q1 s.size (by omega)).2; omega
  have MA : Hid (∀ w, Calls Tryz.prog 23 #[.int .i64 q1, .int .i64 (s.size : Int)] w fun e w' => e = .returned (.int .i64 a) ∧ w = w') := Lib.hid (fun w => by have := mod_any q1 s.size (by omega) (by omega) w; rw [ha] at this; exact this)
  have M1 : Hid (∀ w, Calls Tryz.prog 23 #[.int .i64 q1, .int .i64 1] w fun e w' => e = .returned (.int .i64 0) ∧ w = w') := Lib.hid (fun w => by have := mod_any q1 1 (by omega) (by omega) w; rw [show md q1 1 = 0 by have := md_bd q1 1 (by omega); omega] at this; exact this)
  have M7 : Hid (∀ w, Calls Tryz.prog 23 #[.int .i64 q0, .int .i64 7] w fun e w' => e = .returned (.int .i64 1) ∧ w = w') := Lib.hid (fun w => by have := mod_any q0 7 (by omega) (by omega) w; rw [hm] at this; exact this)
  have SP := Lib.hid (split_any s hs hn)
  have hs0 := Lib.hid ((Sx0.init w).add #[.int .i64 q0, .int .i64 q1, .int .i64 q2] 32)
  have z0 : (1 : Int) ≤ s.size := by omega
  have z1 : (s.size : Int) ≤ 1000 := by omega
  have ne : ((s.size : Int) == 0) = false := beq_eq_false_iff_ne.2 (by omega)
  have a0 : (0 : Int) ≤ a := by omega
  have a1 : (a : Int) < s.size := by omega
  have a2 : (a : Int) ≤ s.size := by omega
  have a3 : (a : Int) + 1 ≤ s.size := by omega
  clear ha hm hn
  go_enter Tryz.func14, Tryz.ntmps14
  go_wp2_with fail
  refine (MA.out _).mono ?_
  rintro e w1 ⟨rfl, rfl⟩
  go_wp2_with fail
  refine (SP.out _).mono ?_
  rintro e w1 ⟨g, cap, cur, rfl, hg, hc1, hc2, hc3, hc4, ho, hb⟩
  have og := Lib.hid ho
  replace hs0 := Lib.hid (hs0.out.step hb)
  clear hb ho
  obtain ⟨b0, b1, b2, _, _⟩ := hs0.out.res _ _ _ _ _ (.head _)
  have g0 : w1.cell? ⟨g, 0, none⟩ = some (.string s) := by rw [og.out.cell 0]; exact hc4
  have gf := og.out.frozen
  have gl := og.out.lt
  go_wp2_with fail
  refine (M1.out _).mono ?_
  rintro e w2 ⟨rfl, rfl⟩
  go_wp2_with fail
  refine (M7.out _).mono ?_
  rintro e w2 ⟨rfl, rfl⟩
  have hw : IntKind.i64.wrap ((a : Int) + 1) = (a : Int) + 1 := IntWalk.i64_in _ (by omega)
  have e1 := ext_le s 0 a
  have e3 := ext_le s (a + 1) s.size
  go_wp2_with fail
  go_quiet (fail)
  go_wp2_with fail
  go_ret
  exact bent_of (by simp only [cat_size]; omega) (below_drewN hs0.out.be _)
set_option maxRecDepth 5000 in
set_option maxHeartbeats 4000000 in
theorem bent_2 (s : ByteArray) (q0 q1 q2 : Int) (h0 : 1 ≤ s.size) (hs : s.size ≤ 1000) (hn : ∀ k (h : k < s.size), s[k] ≠ 10) (hm : md q0 7 = 2) (w : World) :
    Calls Tryz.prog 14 #[.string s, .agg #[.int .i64 q0, .int .i64 q1, .int .i64 q2]] w (Bent w) := by
  obtain ⟨a, ha⟩ : ∃ a : Nat, md q1 s.size = a := ⟨(md q1 s.size).toNat, by have := (md_bd q1 s.size (by omega)).1; omega⟩
  have hal : a < s.size := by have := (md_bd q1 s.size (by omega)).2; omega
  have MA : Hid (∀ w, Calls Tryz.prog 23 #[.int .i64 q1, .int .i64 (s.size : Int)] w fun e w' => e = .returned (.int .i64 a) ∧ w = w') := Lib.hid (fun w => by have := mod_any q1 s.size (by omega) (by omega) w; rw [ha] at this; exact this)
  have M1 : Hid (∀ w, Calls Tryz.prog 23 #[.int .i64 q1, .int .i64 1] w fun e w' => e = .returned (.int .i64 0) ∧ w = w') := Lib.hid (fun w => by have := mod_any q1 1 (by omega) (by omega) w; rw [show md q1 1 = 0 by have := md_bd q1 1 (by omega); omega] at this; exact this)
  have M7 : Hid (∀ w, Calls Tryz.prog 23 #[.int .i64 q0, .int .i64 7] w fun e w' => e = .returned (.int .i64 2) ∧ w = w') := Lib.hid (fun w => by have := mod_any q0 7 (by omega) (by omega) w; rw [hm] at this; exact this)
  have SP := Lib.hid (split_any s hs hn)
  have hs0 := Lib.hid ((Sx0.init w).add #[.int .i64 q0, .int .i64 q1, .int .i64 q2] 32)
  have z0 : (1 : Int) ≤ s.size := by omega
  have z1 : (s.size : Int) ≤ 1000 := by omega
  have ne : ((s.size : Int) == 0) = false := beq_eq_false_iff_ne.2 (by omega)
  have a0 : (0 : Int) ≤ a := by omega
  have a1 : (a : Int) < s.size := by omega
  have a2 : (a : Int) ≤ s.size := by omega
  have a3 : (a : Int) + 1 ≤ s.size := by omega
  clear ha hm hn
  go_enter Tryz.func14, Tryz.ntmps14
  go_wp2_with fail
  refine (MA.out _).mono ?_
  rintro e w1 ⟨rfl, rfl⟩
  go_wp2_with fail
  refine (SP.out _).mono ?_
  rintro e w1 ⟨g, cap, cur, rfl, hg, hc1, hc2, hc3, hc4, ho, hb⟩
  have og := Lib.hid ho
  replace hs0 := Lib.hid (hs0.out.step hb)
  clear hb ho
  obtain ⟨b0, b1, b2, _, _⟩ := hs0.out.res _ _ _ _ _ (.head _)
  have g0 : w1.cell? ⟨g, 0, none⟩ = some (.string s) := by rw [og.out.cell 0]; exact hc4
  have gf := og.out.frozen
  have gl := og.out.lt
  go_wp2_with fail
  refine (M1.out _).mono ?_
  rintro e w2 ⟨rfl, rfl⟩
  go_wp2_with fail
  refine (M7.out _).mono ?_
  rintro e w2 ⟨rfl, rfl⟩
  obtain ⟨c, hc⟩ := byte_of q2
  have hcv := convD w1 (c.toNat : Int) c rfl
  have hw : IntKind.i64.wrap ((a : Int) + 1) = (a : Int) + 1 := IntWalk.i64_in _ (by omega)
  have nb := World.new_ne _ _ b2
  have e1 := ext_le s 0 a
  have e2 := ext_le s a s.size
  have e3 := ext_le s (a + 1) s.size
  go_wp2_with fail
  have e4 : (⟨#[c]⟩ : ByteArray).size = 1 := rfl
  have E4 := Lib.hid e4
  clear e4
  go_region
  all_goals (go_wp2_with fail)
  all_goals go_ret
  all_goals (refine bent_of (by have := E4.out; simp only [cat_size]; omega) ?_)
  all_goals exact (hs0.out.be.alloc hs0.out.be.size _).drew
set_option maxRecDepth 5000 in
set_option maxHeartbeats 4000000 in
theorem bent_3 (s : ByteArray) (q0 q1 q2 : Int) (h0 : 1 ≤ s.size) (hs : s.size ≤ 1000) (hn : ∀ k (h : k < s.size), s[k] ≠ 10) (hm : md q0 7 = 3) (w : World) :
    Calls Tryz.prog 14 #[.string s, .agg #[.int .i64 q0, .int .i64 q1, .int .i64 q2]] w (Bent w) := by
  obtain ⟨a, ha⟩ : ∃ a : Nat, md q1 s.size = a := ⟨(md q1 s.size).toNat, by have := (md_bd q1 s.size (by omega)).1; omega⟩
  have hal : a < s.size := by have := (md_bd q1 s.size (by omega)).2; omega
  have MA : Hid (∀ w, Calls Tryz.prog 23 #[.int .i64 q1, .int .i64 (s.size : Int)] w fun e w' => e = .returned (.int .i64 a) ∧ w = w') := Lib.hid (fun w => by have := mod_any q1 s.size (by omega) (by omega) w; rw [ha] at this; exact this)
  have M1 : Hid (∀ w, Calls Tryz.prog 23 #[.int .i64 q1, .int .i64 1] w fun e w' => e = .returned (.int .i64 0) ∧ w = w') := Lib.hid (fun w => by have := mod_any q1 1 (by omega) (by omega) w; rw [show md q1 1 = 0 by have := md_bd q1 1 (by omega); omega] at this; exact this)
  have M7 : Hid (∀ w, Calls Tryz.prog 23 #[.int .i64 q0, .int .i64 7] w fun e w' => e = .returned (.int .i64 3) ∧ w = w') := Lib.hid (fun w => by have := mod_any q0 7 (by omega) (by omega) w; rw [hm] at this; exact this)
  have SP := Lib.hid (split_any s hs hn)
  have hs0 := Lib.hid ((Sx0.init w).add #[.int .i64 q0, .int .i64 q1, .int .i64 q2] 32)
  have z0 : (1 : Int) ≤ s.size := by omega
  have z1 : (s.size : Int) ≤ 1000 := by omega
  have ne : ((s.size : Int) == 0) = false := beq_eq_false_iff_ne.2 (by omega)
  have a0 : (0 : Int) ≤ a := by omega
  have a1 : (a : Int) < s.size := by omega
  have a2 : (a : Int) ≤ s.size := by omega
  have a3 : (a : Int) + 1 ≤ s.size := by omega
  clear ha hm hn
  go_enter Tryz.func14, Tryz.ntmps14
  go_wp2_with fail
  refine (MA.out _).mono ?_
  rintro e w1 ⟨rfl, rfl⟩
  go_wp2_with fail
  refine (SP.out _).mono ?_
  rintro e w1 ⟨g, cap, cur, rfl, hg, hc1, hc2, hc3, hc4, ho, hb⟩
  have og := Lib.hid ho
  replace hs0 := Lib.hid (hs0.out.step hb)
  clear hb ho
  obtain ⟨b0, b1, b2, _, _⟩ := hs0.out.res _ _ _ _ _ (.head _)
  have g0 : w1.cell? ⟨g, 0, none⟩ = some (.string s) := by rw [og.out.cell 0]; exact hc4
  have gf := og.out.frozen
  have gl := og.out.lt
  go_wp2_with fail
  refine (M1.out _).mono ?_
  rintro e w2 ⟨rfl, rfl⟩
  go_wp2_with fail
  refine (M7.out _).mono ?_
  rintro e w2 ⟨rfl, rfl⟩
  have e1 := ext_le s 0 a
  go_wp2_with fail
  go_ret
  exact bent_of (by omega) hs0.out.be
set_option maxRecDepth 5000 in
set_option maxHeartbeats 4000000 in
theorem bent_4 (s : ByteArray) (q0 q1 q2 : Int) (h0 : 1 ≤ s.size) (hs : s.size ≤ 1000) (hn : ∀ k (h : k < s.size), s[k] ≠ 10) (hm : md q0 7 = 4) (w : World) :
    Calls Tryz.prog 14 #[.string s, .agg #[.int .i64 q0, .int .i64 q1, .int .i64 q2]] w (Bent w) := by
  obtain ⟨a, ha⟩ : ∃ a : Nat, md q1 s.size = a := ⟨(md q1 s.size).toNat, by have := (md_bd q1 s.size (by omega)).1; omega⟩
  have hal : a < s.size := by have := (md_bd q1 s.size (by omega)).2; omega
  have MA : Hid (∀ w, Calls Tryz.prog 23 #[.int .i64 q1, .int .i64 (s.size : Int)] w fun e w' => e = .returned (.int .i64 a) ∧ w = w') := Lib.hid (fun w => by have := mod_any q1 s.size (by omega) (by omega) w; rw [ha] at this; exact this)
  have M1 : Hid (∀ w, Calls Tryz.prog 23 #[.int .i64 q1, .int .i64 1] w fun e w' => e = .returned (.int .i64 0) ∧ w = w') := Lib.hid (fun w => by have := mod_any q1 1 (by omega) (by omega) w; rw [show md q1 1 = 0 by have := md_bd q1 1 (by omega); omega] at this; exact this)
  have M7 : Hid (∀ w, Calls Tryz.prog 23 #[.int .i64 q0, .int .i64 7] w fun e w' => e = .returned (.int .i64 4) ∧ w = w') := Lib.hid (fun w => by have := mod_any q0 7 (by omega) (by omega) w; rw [hm] at this; exact this)
  have SP := Lib.hid (split_any s hs hn)
  have hs0 := Lib.hid ((Sx0.init w).add #[.int .i64 q0, .int .i64 q1, .int .i64 q2] 32)
  have z0 : (1 : Int) ≤ s.size := by omega
  have z1 : (s.size : Int) ≤ 1000 := by omega
  have ne : ((s.size : Int) == 0) = false := beq_eq_false_iff_ne.2 (by omega)
  have a0 : (0 : Int) ≤ a := by omega
  have a1 : (a : Int) < s.size := by omega
  have a2 : (a : Int) ≤ s.size := by omega
  have a3 : (a : Int) + 1 ≤ s.size := by omega
  clear ha hm hn
  go_enter Tryz.func14, Tryz.ntmps14
  go_wp2_with fail
  refine (MA.out _).mono ?_
  rintro e w1 ⟨rfl, rfl⟩
  go_wp2_with fail
  refine (SP.out _).mono ?_
  rintro e w1 ⟨g, cap, cur, rfl, hg, hc1, hc2, hc3, hc4, ho, hb⟩
  have og := Lib.hid ho
  replace hs0 := Lib.hid (hs0.out.step hb)
  clear hb ho
  obtain ⟨b0, b1, b2, _, _⟩ := hs0.out.res _ _ _ _ _ (.head _)
  have g0 : w1.cell? ⟨g, 0, none⟩ = some (.string s) := by rw [og.out.cell 0]; exact hc4
  have gf := og.out.frozen
  have gl := og.out.lt
  go_wp2_with fail
  refine (M1.out _).mono ?_
  rintro e w2 ⟨rfl, rfl⟩
  go_wp2_with fail
  refine (M7.out _).mono ?_
  rintro e w2 ⟨rfl, rfl⟩
  have hnx : Builtin.nextslicecap 1 0 * Tryz.t9.bytes = 16 := by kernel_rfl
  have hny : Builtin.nextslicecap 2 1 * Tryz.t9.bytes = 32 := by kernel_rfl
  have gA : ∀ o1 o2 o3, (((w1.alloc o1).alloc o2).alloc o3).cell? ⟨g, 0, none⟩ = some (.string s) := fun _ _ _ => keepA (keepA (keepA g0 _) _) _
  have hcap := cut_bd 1 0 9 (w1.tape (w1.drawn + 1) (Question.appendCap 1 0 9)) (by decide)
  have hCC := hcap.1
  by_cases hC : 2 ≤ (Question.appendCap 1 0 9).cut (w1.tape (w1.drawn + 1) (Question.appendCap 1 0 9))
  · obtain ⟨z1, hz1⟩ := zero_at s ((Question.appendCap 1 0 9).cut (w1.tape (w1.drawn + 1) (Question.appendCap 1 0 9))) hC
    obtain ⟨hy0, hy1⟩ := set_at s ((Question.appendCap 1 0 9).cut (w1.tape (w1.drawn + 1) (Question.appendCap 1 0 9))) hC
    clear hCC
    go_wp2_with fail
    go_region
    all_goals
      go_wp2_with fail
      go_loop [10, 11] (fun o i => (i = .int .i64 0 ∧ o = .string ⟨#[]⟩) ∨ (i = .int .i64 1 ∧ ∃ t : ByteArray, o = .string t ∧ t.size ≤ 1000) ∨ (i = .int .i64 2 ∧ ∃ t : ByteArray, o = .string t ∧ t.size ≤ 2001)) (fun _ i => 2 - (intOf i).toNat)
      case atStart => exact .inl ⟨rfl, rfl⟩
      case round =>
        rcases hrel with ⟨rfl, rfl⟩ | ⟨rfl, t, rfl, ht⟩ | ⟨rfl, t, rfl, ht⟩
        · go_wp2_with fail
          go_round
          case rel => exact .inr (.inl ⟨rfl, _, rfl, by simp only [cat_size]; have : (⟨#[]⟩ : ByteArray).size = 0 := rfl; omega⟩)
          case measure => simp [intOf]
        · go_wp2_with fail
          go_round
          case rel => exact .inr (.inr ⟨rfl, _, rfl, by simp only [cat_size]; have : (⟨#[10]⟩ : ByteArray).size = 1 := rfl; omega⟩)
          case measure => simp [intOf]
        · go_wp2_with fail
          go_ret
          exact bent_of (by omega) ((((hs0.out.be.alloc (by have := hs0.out.be.size; first | omega | (simp only [World.size_alloc]; omega)) _).alloc (by have := hs0.out.be.size; first | omega | (simp only [World.size_alloc]; omega)) _).alloc (by have := hs0.out.be.size; first | omega | (simp only [World.size_alloc]; omega)) _).drew).drew
  · have hz0 : (#[.string s] ++ Builtin.zeroCells #[.string ⟨#[]⟩] 0 : Array Value)[0]? = some (.string s) := by rw [Array.getElem?_append_left (by simp)]; rfl
    have hy0 : ∀ n, (#[.string s, .string s] ++ Builtin.zeroCells #[.string ⟨#[]⟩] n : Array Value)[0]? = some (.string s) := fun n => by rw [Array.getElem?_append_left (by simp)]; rfl
    have hy1 : ∀ n, (#[.string s, .string s] ++ Builtin.zeroCells #[.string ⟨#[]⟩] n : Array Value)[1]? = some (.string s) := fun n => by rw [Array.getElem?_append_left (by simp)]; rfl
    have hC1 : (Question.appendCap 1 0 9).cut (w1.tape (w1.drawn + 1) (Question.appendCap 1 0 9)) = 1 := by omega
    clear hC hCC
    go_wp2_with fail
    go_region
    all_goals
      go_wp2_with fail
      go_loop [10, 11] (fun o i => (i = .int .i64 0 ∧ o = .string ⟨#[]⟩) ∨ (i = .int .i64 1 ∧ ∃ t : ByteArray, o = .string t ∧ t.size ≤ 1000) ∨ (i = .int .i64 2 ∧ ∃ t : ByteArray, o = .string t ∧ t.size ≤ 2001)) (fun _ i => 2 - (intOf i).toNat)
      case atStart => exact .inl ⟨rfl, rfl⟩
      case round =>
        rcases hrel with ⟨rfl, rfl⟩ | ⟨rfl, t, rfl, ht⟩ | ⟨rfl, t, rfl, ht⟩
        · go_wp2_with fail
          go_round
          case rel => exact .inr (.inl ⟨rfl, _, rfl, by simp only [cat_size]; have : (⟨#[]⟩ : ByteArray).size = 0 := rfl; omega⟩)
          case measure => simp [intOf]
        · go_wp2_with fail
          go_round
          case rel => exact .inr (.inr ⟨rfl, _, rfl, by simp only [cat_size]; have : (⟨#[10]⟩ : ByteArray).size = 1 := rfl; omega⟩)
          case measure => simp [intOf]
        · go_wp2_with fail
          go_ret
          exact bent_of (by omega) (((((hs0.out.be.alloc (by have := hs0.out.be.size; first | omega | (simp only [World.size_alloc]; omega)) _).alloc (by have := hs0.out.be.size; first | omega | (simp only [World.size_alloc]; omega)) _).alloc (by have := hs0.out.be.size; first | omega | (simp only [World.size_alloc]; omega)) _).alloc (by have := hs0.out.be.size; first | omega | (simp only [World.size_alloc]; omega)) _).drew).drew.drew
set_option maxRecDepth 5000 in
set_option maxHeartbeats 4000000 in
theorem bent_5 (s : ByteArray) (q0 q1 q2 : Int) (h0 : 1 ≤ s.size) (hs : s.size ≤ 1000) (hn : ∀ k (h : k < s.size), s[k] ≠ 10) (hm : md q0 7 = 5) (w : World) :
    Calls Tryz.prog 14 #[.string s, .agg #[.int .i64 q0, .int .i64 q1, .int .i64 q2]] w (Bent w) := by
  obtain ⟨a, ha⟩ : ∃ a : Nat, md q1 s.size = a := ⟨(md q1 s.size).toNat, by have := (md_bd q1 s.size (by omega)).1; omega⟩
  have hal : a < s.size := by have := (md_bd q1 s.size (by omega)).2; omega
  have MA : Hid (∀ w, Calls Tryz.prog 23 #[.int .i64 q1, .int .i64 (s.size : Int)] w fun e w' => e = .returned (.int .i64 a) ∧ w = w') := Lib.hid (fun w => by have := mod_any q1 s.size (by omega) (by omega) w; rw [ha] at this; exact this)
  have M1 : Hid (∀ w, Calls Tryz.prog 23 #[.int .i64 q1, .int .i64 1] w fun e w' => e = .returned (.int .i64 0) ∧ w = w') := Lib.hid (fun w => by have := mod_any q1 1 (by omega) (by omega) w; rw [show md q1 1 = 0 by have := md_bd q1 1 (by omega); omega] at this; exact this)
  have M7 : Hid (∀ w, Calls Tryz.prog 23 #[.int .i64 q0, .int .i64 7] w fun e w' => e = .returned (.int .i64 5) ∧ w = w') := Lib.hid (fun w => by have := mod_any q0 7 (by omega) (by omega) w; rw [hm] at this; exact this)
  have SP := Lib.hid (split_any s hs hn)
  have hs0 := Lib.hid ((Sx0.init w).add #[.int .i64 q0, .int .i64 q1, .int .i64 q2] 32)
  have z0 : (1 : Int) ≤ s.size := by omega
  have z1 : (s.size : Int) ≤ 1000 := by omega
  have ne : ((s.size : Int) == 0) = false := beq_eq_false_iff_ne.2 (by omega)
  have a0 : (0 : Int) ≤ a := by omega
  have a1 : (a : Int) < s.size := by omega
  have a2 : (a : Int) ≤ s.size := by omega
  have a3 : (a : Int) + 1 ≤ s.size := by omega
  clear ha hm hn
  go_enter Tryz.func14, Tryz.ntmps14
  go_wp2_with fail
  refine (MA.out _).mono ?_
  rintro e w1 ⟨rfl, rfl⟩
  go_wp2_with fail
  refine (SP.out _).mono ?_
  rintro e w1 ⟨g, cap, cur, rfl, hg, hc1, hc2, hc3, hc4, ho, hb⟩
  have og := Lib.hid ho
  replace hs0 := Lib.hid (hs0.out.step hb)
  clear hb ho
  obtain ⟨b0, b1, b2, _, _⟩ := hs0.out.res _ _ _ _ _ (.head _)
  have g0 : w1.cell? ⟨g, 0, none⟩ = some (.string s) := by rw [og.out.cell 0]; exact hc4
  have gf := og.out.frozen
  have gl := og.out.lt
  go_wp2_with fail
  refine (M1.out _).mono ?_
  rintro e w2 ⟨rfl, rfl⟩
  go_wp2_with fail
  refine (M7.out _).mono ?_
  rintro e w2 ⟨rfl, rfl⟩
  by_cases hcap : cap = 1
  · subst hcap
    go_wp2_with fail
    go_region
    go_wp2_with fail
    go_loop [10, 11] (fun o i => i = .int .i64 0 ∧ o = .string ⟨#[]⟩) (fun _ _ => 0)
    case atStart => exact ⟨rfl, rfl⟩
    case round =>
      obtain ⟨rfl, rfl⟩ := hrel
      go_wp2_with fail
      go_ret
      exact bent_of (by decide) (hs0.out.be.alloc hs0.out.be.size _).drew
  · have hk : 1 < cap := by omega
    go_wp2_with fail
    go_region
    go_wp2_with fail
    go_loop [10, 11] (fun o i => i = .int .i64 0 ∧ o = .string ⟨#[]⟩) (fun _ _ => 0)
    case atStart => exact ⟨rfl, rfl⟩
    case round =>
      obtain ⟨rfl, rfl⟩ := hrel
      go_wp2_with fail
      go_ret
      exact bent_of (by decide) (hs0.out.be.alloc hs0.out.be.size _).drew
set_option maxRecDepth 5000 in
set_option maxHeartbeats 4000000 in
theorem bent_6 (s : ByteArray) (q0 q1 q2 : Int) (h0 : 1 ≤ s.size) (hs : s.size ≤ 1000) (hn : ∀ k (h : k < s.size), s[k] ≠ 10) (hm : md q0 7 = 6) (w : World) :
    Calls Tryz.prog 14 #[.string s, .agg #[.int .i64 q0, .int .i64 q1, .int .i64 q2]] w (Bent w) := by
  obtain ⟨a, ha⟩ : ∃ a : Nat, md q1 s.size = a := ⟨(md q1 s.size).toNat, by have := (md_bd q1 s.size (by omega)).1; omega⟩
  have hal : a < s.size := by have := (md_bd q1 s.size (by omega)).2; omega
  have MA : Hid (∀ w, Calls Tryz.prog 23 #[.int .i64 q1, .int .i64 (s.size : Int)] w fun e w' => e = .returned (.int .i64 a) ∧ w = w') := Lib.hid (fun w => by have := mod_any q1 s.size (by omega) (by omega) w; rw [ha] at this; exact this)
  have M1 : Hid (∀ w, Calls Tryz.prog 23 #[.int .i64 q1, .int .i64 1] w fun e w' => e = .returned (.int .i64 0) ∧ w = w') := Lib.hid (fun w => by have := mod_any q1 1 (by omega) (by omega) w; rw [show md q1 1 = 0 by have := md_bd q1 1 (by omega); omega] at this; exact this)
  have M7 : Hid (∀ w, Calls Tryz.prog 23 #[.int .i64 q0, .int .i64 7] w fun e w' => e = .returned (.int .i64 6) ∧ w = w') := Lib.hid (fun w => by have := mod_any q0 7 (by omega) (by omega) w; rw [hm] at this; exact this)
  have SP := Lib.hid (split_any s hs hn)
  have hs0 := Lib.hid ((Sx0.init w).add #[.int .i64 q0, .int .i64 q1, .int .i64 q2] 32)
  have z0 : (1 : Int) ≤ s.size := by omega
  have z1 : (s.size : Int) ≤ 1000 := by omega
  have ne : ((s.size : Int) == 0) = false := beq_eq_false_iff_ne.2 (by omega)
  have a0 : (0 : Int) ≤ a := by omega
  have a1 : (a : Int) < s.size := by omega
  have a2 : (a : Int) ≤ s.size := by omega
  have a3 : (a : Int) + 1 ≤ s.size := by omega
  clear ha hm hn
  go_enter Tryz.func14, Tryz.ntmps14
  go_wp2_with fail
  refine (MA.out _).mono ?_
  rintro e w1 ⟨rfl, rfl⟩
  go_wp2_with fail
  refine (SP.out _).mono ?_
  rintro e w1 ⟨g, cap, cur, rfl, hg, hc1, hc2, hc3, hc4, ho, hb⟩
  have og := Lib.hid ho
  replace hs0 := Lib.hid (hs0.out.step hb)
  clear hb ho
  obtain ⟨b0, b1, b2, _, _⟩ := hs0.out.res _ _ _ _ _ (.head _)
  have g0 : w1.cell? ⟨g, 0, none⟩ = some (.string s) := by rw [og.out.cell 0]; exact hc4
  have gf := og.out.frozen
  have gl := og.out.lt
  go_wp2_with fail
  refine (M1.out _).mono ?_
  rintro e w2 ⟨rfl, rfl⟩
  go_wp2_with fail
  refine (M7.out _).mono ?_
  rintro e w2 ⟨rfl, rfl⟩
  go_wp2_with fail
  have hgw : w.heap.size ≤ g := by have := hg; simp only [World.size_alloc] at this; omega
  obtain ⟨w6, hw6⟩ : ∃ w6 : World, w6 = (w1.setCell ⟨g, 0, none⟩ (.string s)).setCell ⟨g, 0, none⟩ (.string s) := ⟨_, rfl⟩
  have g6 : w6.cell? ⟨g, 0, none⟩ = some (.string s) := by
    rw [hw6, ((og.out.set 0 (.string s)).set 0 (.string s)).cell 0]
    have : 0 < cur.size := by omega
    simp [this]
  have be6 := Lib.hid (show Below w.heap.size w w6 by rw [hw6]; exact (hs0.out.be.setCell (p := ⟨g, 0, none⟩) hgw _).setCell (p := ⟨g, 0, none⟩) hgw _)
  rw [← hw6]
  clear hw6 g0
  go_loop [10, 11] (fun o i => (i = .int .i64 0 ∧ o = .string ⟨#[]⟩) ∨ (i = .int .i64 1 ∧ ∃ t : ByteArray, o = .string t ∧ t.size ≤ 1000)) (fun _ i => 1 - (intOf i).toNat)
  case atStart => exact .inl ⟨rfl, rfl⟩
  case round =>
    rcases hrel with ⟨rfl, rfl⟩ | ⟨rfl, t, rfl, ht⟩
    · go_wp2_with fail
      go_round
      case rel => exact .inr ⟨rfl, _, rfl, by simp only [cat_size]; have : (⟨#[]⟩ : ByteArray).size = 0 := rfl; omega⟩
      case measure => simp [intOf]
    · go_wp2_with fail
      go_ret
      exact bent_of (by omega) be6.out
theorem bent_any (s : ByteArray) (q0 q1 q2 : Int) (h0 : 1 ≤ s.size) (hs : s.size ≤ 1000) (hn : ∀ k (h : k < s.size), s[k] ≠ 10) (w : World) :
    Calls Tryz.prog 14 #[.string s, .agg #[.int .i64 q0, .int .i64 q1, .int .i64 q2]] w (Bent w) := by
  have hb := md_bd q0 7 (by decide)
  rcases (show md q0 7 = 0 ∨ md q0 7 = 1 ∨ md q0 7 = 2 ∨ md q0 7 = 3 ∨ md q0 7 = 4 ∨ md q0 7 = 5 ∨ md q0 7 = 6 by omega) with h | h | h | h | h | h | h
  · exact bent_0 s q0 q1 q2 h0 hs hn h w
  · exact bent_1 s q0 q1 q2 h0 hs hn h w
  · exact bent_2 s q0 q1 q2 h0 hs hn h w
  · exact bent_3 s q0 q1 q2 h0 hs hn h w
  · exact bent_4 s q0 q1 q2 h0 hs hn h w
  · exact bent_5 s q0 q1 q2 h0 hs hn h w
  · exact bent_6 s q0 q1 q2 h0 hs hn h w
end Go.Proofs.YtibjhcgfjhbgoaaGreatDoor.Va
