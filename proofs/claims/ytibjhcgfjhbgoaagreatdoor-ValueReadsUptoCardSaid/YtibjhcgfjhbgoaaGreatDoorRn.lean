/-
  Contracts of the reference's digit, number, inner.
-/
import Derived.Test.YtibjhcgfjhbgoaaGreatDoorRm
namespace Go.Proofs.YtibjhcgfjhbgoaaGreatDoor.Va
open Go Go.RowKit Mp

theorem refDigit_any (c : UInt8) (w : World) : Calls Tryz.prog 69 #[.int .u8 (c.toNat : Int)] w fun e w' => e = .returned (.bool (digB c)) ∧ w = w' := by
  go_enter Tryz.func69, Tryz.ntmps69
  go_wp2
  all_goals go_ret
  all_goals exact ⟨ret_bool (by unfold digB; rw [Bool.eq_iff_iff]; simp; omega), rfl⟩
theorem take_fold (s : ByteArray) (k : Nat) (h : k < s.size) : (s.data.toList.take (k + 1)).foldl numStep 0 = numStep ((s.data.toList.take k).foldl numStep 0) s[k] := by
  rw [take_one s k h, List.foldl_append]; rfl
theorem fold_take_bd (s : ByteArray) (k : Nat) (hk : k ≤ 17) : (s.data.toList.take k).foldl numStep 0 < 100000000000000000 := by
  have h1 := fold_lt (s.data.toList.take k) 0 0 (by decide)
  have h2 : (s.data.toList.take k).length ≤ k := List.length_take_le _ _
  have h3 : 10 ^ (0 + (s.data.toList.take k).length) ≤ 10 ^ 17 := Nat.pow_le_pow_right (by decide) (by omega)
  have h4 : (10 : Nat) ^ 17 = 100000000000000000 := by decide
  omega
theorem head_of (s : ByteArray) (h : 0 < s.size) : s.data.toList.head? = some s[0] := by
  have := drop_data s 0 h
  rw [List.drop_zero] at this
  rw [this]; rfl
set_option maxRecDepth 3000 in
theorem number_any' (s : ByteArray) (hs : s.size ≤ maxLen) (w : World) :
    Calls Tryz.prog 49 #[.string s] w fun e w' => e = .returned (.int .i64 (num s.data.toList)) ∧ w = w' := by
  unfold maxLen at hs
  go_enter Tryz.func49, Tryz.ntmps49
  go_wp2_with fail
  go_loop [3, 4] (fun n i => ∃ (k m : Nat), k ≤ s.size ∧ k ≤ 18 ∧ i = .int .i64 k ∧ n = .int .i64 m ∧ Hid ((s.data.toList.take k).foldl numStep 0 = m)) (fun _ i => 18 - (intOf i).toNat)
  case atStart => exact ⟨0, 0, Nat.zero_le _, by omega, rfl, rfl, Lib.hid rfl⟩
  case round =>
    obtain ⟨k, m, hk, hk8, rfl, rfl, hm⟩ := hrel
    by_cases h1 : k < s.size
    · by_cases h2 : k < 18
      · have i0 : (0 : Int) ≤ k := by omega
        have i1 : (k : Int) < s.size := by omega
        have i2 : (k : Int) < 18 := by omega
        have hst := Lib.hid (take_fold s k h1)
        have hb := fold_take_bd s k (by omega)
        rw [hm.out] at hb
        have m0 : (0 : Int) ≤ m := by omega
        have m1 : (m : Int) ≤ 100000000000000000 := by omega
        clear hb
        have C := refDigit_any s[k]
        cases hd : digB s[k]
        · rw [hd] at C
          have HS : Hid ((s.data.toList.take (k + 1)).foldl numStep 0 = m) := Lib.hid (by rw [hst.out, hm.out]; unfold numStep; rw [if_neg (by rw [hd]; decide)])
          have CC := Lib.hid C
          clear C hd hst
          go_wp2_with (go_at_call 69; refine (CC.out _).mono ?_; rintro e w' ⟨rfl, rfl⟩)
          go_round
          case rel => exact ⟨k + 1, m, by omega, by omega, by go_num, rfl, HS⟩
          case measure => simp [intOf]; omega
        · rw [hd] at C
          have hdd := (digB_iff _).1 hd
          have d0 : (48 : Int) ≤ (s[k].toNat : Int) := by omega
          have d1 : (s[k].toNat : Int) ≤ 57 := by omega
          have HS : Hid ((s.data.toList.take (k + 1)).foldl numStep 0 = 10 * m + (s[k].toNat - 48)) := Lib.hid (by rw [hst.out, hm.out]; unfold numStep; rw [if_pos hd])
          have CC := Lib.hid C
          clear C hd hst hdd
          go_wp2_with (go_at_call 69; refine (CC.out _).mono ?_; rintro e w' ⟨rfl, rfl⟩)
          go_round
          case rel => exact ⟨k + 1, 10 * m + (s[k].toNat - 48), by omega, by omega, by go_num, by congr 1; omega, HS⟩
          case measure => simp [intOf]; omega
      · obtain rfl : k = 18 := by omega
        have i1 : (18 : Int) < s.size := by omega
        have HM : Hid (numAbs s.data.toList = m) := Lib.hid (by
          rw [← hm.out]; unfold numAbs
          rfl)
        by_cases h0 : 0 < s.size
        · have z0 : (0 : Int) < s.size := by omega
          have hh := Lib.hid (head_of s h0)
          by_cases hc : s[0] = 45
          · have HN : Hid (num s.data.toList = -(m : Int)) := Lib.hid (by unfold num; rw [hh.out, if_pos (by rw [hc]), HM.out])
            have hb : ((s[0].toNat : Int) == 45) = true := by rw [hc]; rfl
            have mb := numAbs_bd s.data.toList
            rw [HM.out] at mb
            have m0 : (0 : Int) ≤ m := by omega
            have m1 : (m : Int) ≤ 1000000000000000000 := by omega
            clear hc mb
            go_wp2_with fail
            go_ret
            exact ⟨ret_int HN.out.symm, rfl⟩
          · have HN : Hid (num s.data.toList = (m : Int)) := Lib.hid (by unfold num; rw [hh.out, if_neg (fun e => hc (Option.some.inj e)), HM.out])
            have hb : ((s[0].toNat : Int) == 45) = false := by
              simp only [beq_eq_false_iff_ne]
              exact fun h => hc (UInt8.toNat_inj.1 (by show s[0].toNat = 45; omega))
            clear hc
            go_wp2_with fail
            go_ret
            exact ⟨ret_int HN.out.symm, rfl⟩
        · have z0 : (s.size : Int) ≤ 0 := by omega
          have hnil : s.data.toList = [] := List.length_eq_zero_iff.1 (by rw [show s.data.toList.length = s.size from Array.length_toList]; omega)
          have HN : Hid (num s.data.toList = (m : Int)) := Lib.hid (by unfold num; rw [if_neg (by rw [hnil]; simp), HM.out])
          clear hnil
          go_wp2_with fail
          go_ret
          exact ⟨ret_int HN.out.symm, rfl⟩
    · obtain rfl : k = s.size := by omega
      have HM : Hid (numAbs s.data.toList = m) := Lib.hid (by
        rw [← hm.out]; unfold numAbs
        rw [List.take_of_length_le (by rw [show s.data.toList.length = s.size from Array.length_toList]; omega), List.take_of_length_le (by rw [show s.data.toList.length = s.size from Array.length_toList]; exact Nat.le_refl _)])
      by_cases h0 : 0 < s.size
      · have z0 : (0 : Int) < s.size := by omega
        have hh := Lib.hid (head_of s h0)
        by_cases hc : s[0] = 45
        · have HN : Hid (num s.data.toList = -(m : Int)) := Lib.hid (by unfold num; rw [hh.out, if_pos (by rw [hc]), HM.out])
          have hb : ((s[0].toNat : Int) == 45) = true := by rw [hc]; rfl
          have mb := numAbs_bd s.data.toList
          rw [HM.out] at mb
          have m0 : (0 : Int) ≤ m := by omega
          have m1 : (m : Int) ≤ 1000000000000000000 := by omega
          clear hc mb
          go_wp2_with fail
          go_ret
          exact ⟨ret_int HN.out.symm, rfl⟩
        · have HN : Hid (num s.data.toList = (m : Int)) := Lib.hid (by unfold num; rw [hh.out, if_neg (fun e => hc (Option.some.inj e)), HM.out])
          have hb : ((s[0].toNat : Int) == 45) = false := by
            simp only [beq_eq_false_iff_ne]
            exact fun h => hc (UInt8.toNat_inj.1 (by show s[0].toNat = 45; omega))
          clear hc
          go_wp2_with fail
          go_ret
          exact ⟨ret_int HN.out.symm, rfl⟩
      · have z0 : (s.size : Int) ≤ 0 := by omega
        have hnil : s.data.toList = [] := List.length_eq_zero_iff.1 (by rw [show s.data.toList.length = s.size from Array.length_toList]; omega)
        have HN : Hid (num s.data.toList = (m : Int)) := Lib.hid (by unfold num; rw [if_neg (by rw [hnil]; simp), HM.out])
        clear hnil
        go_wp2_with fail
        go_ret
        exact ⟨ret_int HN.out.symm, rfl⟩
/-- What inner has written when k bytes have been gone by. -/
def Inn (s : ByteArray) (k : Nat) (t : ByteArray) : Prop := t.data.toList ++ innL (s.data.toList.drop k) = innL (s.data.toList.drop 1) ∧ t.size ≤ k
theorem innL_two (c d : UInt8) (r : List UInt8) : innL (c :: d :: r) = c :: (if c = 39 then innL r else innL (d :: r)) := rfl
theorem drop_two (s : ByteArray) (k : Nat) (h : k + 1 < s.size) : s.data.toList.drop k = s[k] :: s[k + 1] :: s.data.toList.drop (k + 2) := by
  rw [drop_data s k (by omega), drop_data s (k + 1) h]
theorem ext_size (s : ByteArray) (k : Nat) (h : k < s.size) : (s.extract k (k + 1)).size = 1 := by
  have := congrArg List.length (ext_one s k h)
  exact this
theorem cat_size (a b : ByteArray) : (a ++ b).size = a.size + b.size := by
  have h : (a ++ b).data.toList.length = a.data.toList.length + b.data.toList.length := by rw [ByteArray.data_append, Array.toList_append, List.length_append]
  exact h
theorem Inn.one {s t : ByteArray} {k : Nat} (h : Inn s k t) (hk : k + 1 < s.size) (hc : s[k] ≠ 39) : Inn s (k + 1) (t ++ s.extract k (k + 1)) := by
  refine ⟨?_, by rw [cat_size, ext_size s k (by omega)]; have := h.2; omega⟩
  rw [← h.1, drop_two s k hk, innL_two, if_neg hc, ← drop_data s (k + 1) hk, ByteArray.data_append, Array.toList_append, ext_one s k (by omega)]
  simp
theorem Inn.two {s t : ByteArray} {k : Nat} (h : Inn s k t) (hk : k + 1 < s.size) (hc : s[k] = 39) : Inn s (k + 1 + 1) (t ++ s.extract k (k + 1)) := by
  refine ⟨?_, by rw [cat_size, ext_size s k (by omega)]; have := h.2; omega⟩
  rw [← h.1, drop_two s k hk, innL_two, if_pos hc, ByteArray.data_append, Array.toList_append, ext_one s k (by omega)]
  simp
theorem Inn.stop {s t : ByteArray} {k : Nat} (h : Inn s k t) (hk : ¬ k + 1 < s.size) : t.data.toList = innL (s.data.toList.drop 1) := by
  rw [← h.1]
  have hl : (s.data.toList.drop k).length ≤ 1 := by rw [List.length_drop, show s.data.toList.length = s.size from Array.length_toList]; omega
  have e : innL (s.data.toList.drop k) = [] := by
    match s.data.toList.drop k, hl with
    | [], _ => rfl
    | [_], _ => rfl
  rw [e, List.append_nil]
set_option maxRecDepth 3000 in
theorem inner_any (s : ByteArray) (hs : s.size < 4294967281) (w : World) :
    Calls Tryz.prog 50 #[.string s] w fun e w' => e = .returned (.string (bs (innL (s.data.toList.drop 1)))) ∧ w = w' := by
  have hs' : (s.size : Int) < 4294967281 := by omega
  go_enter Tryz.func50, Tryz.ntmps50
  go_wp2_with fail
  go_loop [3, 4] (fun o i => ∃ (k : Nat) (t : ByteArray), 1 ≤ k ∧ k ≤ s.size + 2 ∧ i = .int .i64 k ∧ o = .string t ∧ Hid (Inn s k t)) (fun _ i => s.size + 2 - (intOf i).toNat)
  case atStart => exact ⟨1, ⟨#[]⟩, by omega, by omega, rfl, rfl, Lib.hid ⟨by simp, by decide⟩⟩
  case round =>
    obtain ⟨k, t, k1, hk, rfl, rfl, hi⟩ := hrel
    have ht := hi.out.2
    by_cases hlt : k + 1 < s.size
    · have i0 : (0 : Int) ≤ k := by omega
      have i1 : (k : Int) < s.size := by omega
      have i2 : (k : Int) + 1 < s.size := by omega
      have i3 : (k : Int) + 1 ≤ s.size := by omega
      have t1 : t.size ≤ 4294967290 := by omega
      by_cases hc : s[k] = 39
      · have h1 := Lib.hid (hi.out.two hlt hc)
        have hb : ((s[k].toNat : Int) == 39) = true := by rw [hc]; rfl
        clear hc
        go_wp2_with fail
        go_round
        case rel => exact ⟨k + 1 + 1, _, by omega, by omega, by go_num, rfl, h1⟩
        case measure => simp [intOf]; omega
      · have h1 := Lib.hid (hi.out.one hlt hc)
        have hb : ((s[k].toNat : Int) == 39) = false := by
          simp only [beq_eq_false_iff_ne]
          exact fun h => hc (UInt8.toNat_inj.1 (by show s[k].toNat = 39; omega))
        clear hc
        go_wp2_with fail
        go_round
        case rel => exact ⟨k + 1, _, by omega, by omega, by go_num, rfl, h1⟩
        case measure => simp [intOf]; omega
    · have h1 := Lib.hid (hi.out.stop hlt)
      have k9 : (k : Int) ≤ 4294967290 := by omega
      have i2 : (s.size : Int) ≤ (k : Int) + 1 := by omega
      clear hs'
      go_wp2_with fail
      go_ret
      exact ⟨ret_str (bytes_of_list (by rw [bs_list]; simpa using h1.out)), rfl⟩
end Go.Proofs.YtibjhcgfjhbgoaaGreatDoor.Va
