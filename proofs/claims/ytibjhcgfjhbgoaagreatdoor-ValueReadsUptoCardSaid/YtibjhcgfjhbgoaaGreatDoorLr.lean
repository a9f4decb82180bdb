/-
  The walk of ValueReads.
-/
import Derived.Test.YtibjhcgfjhbgoaaGreatDoorRd
import Derived.Test.YtibjhcgfjhbgoaaGreatDoorBt
import Derived.Test.YtibjhcgfjhbgoaaGreatDoorMl
import Derived.Test.YtibjhcgfjhbgoaaGreatDoorOm
namespace Go.Proofs.YtibjhcgfjhbgoaaGreatDoor.Va
open Go Go.RowKit Mp

theorem quo_mem : ∀ (l : List UInt8) (c : UInt8), c ∈ quo l → c ∈ l
  | [], c, h => by simp [quo] at h
  | b :: l, c, h => by
    by_cases hb : b = 39
    · subst hb
      have : c = 39 ∨ c ∈ quo l := by simpa [quo] using h
      rcases this with rfl | h
      · exact List.mem_cons_self ..
      · exact List.mem_cons_of_mem _ (quo_mem l c h)
    · have : c = b ∨ c ∈ quo l := by simpa [quo, hb] using h
      rcases this with rfl | h
      · exact List.mem_cons_self ..
      · exact List.mem_cons_of_mem _ (quo_mem l c h)
theorem itoa_no (n : Int) (c : UInt8) (h : c ∈ Lib.itoa n) : c ≠ 10 := by
  unfold Lib.itoa at h
  have hd : ∀ u : Nat, c ∈ Lib.decDigits u → c ≠ 10 := by
    rintro u hu rfl
    have := dec_digit _ _ (Nat.lt_succ_self u) 10 hu
    revert this; decide
  by_cases hn : n < 0
  · rw [if_pos hn] at h
    rcases List.mem_cons.1 h with rfl | h
    · decide
    · exact hd _ h
  · rw [if_neg hn] at h; exact hd _ h
/-- The text of a right value is one line. -/
theorem text_line (v : V3) (h : right3 v = true) (c : UInt8) (hc : c ∈ text3 v) : c ≠ 10 := by
  obtain ⟨k, n, s⟩ := v
  unfold right3 at h
  simp only at h
  have hp : prtB s.data.toList = true := by
    unfold rightB at h
    simp only [Bool.and_eq_true] at h
    exact h.2
  rcases kinds_of h with ⟨rfl, rfl⟩ | ⟨rfl, rfl⟩ | ⟨rfl, rfl⟩ | ⟨rfl, rfl⟩ | rfl | ⟨rfl, rfl⟩ | ⟨rfl, rfl⟩
  · rw [tx_0 h] at hc; revert c; decide
  · rw [tx_1 h] at hc; revert c; decide
  · rw [tx_2 h] at hc; revert c; cases (n == 1) <;> decide
  · rw [tx_3 h] at hc; exact itoa_no n c hc
  · rw [tx_4 h] at hc
    have : c = 39 ∨ c ∈ quo s.data.toList := by
      simp only [List.mem_cons, List.mem_append, List.not_mem_nil, or_false] at hc
      rcases hc with h | h | h
      · exact .inl h
      · exact .inr h
      · exact .inl h
    rcases this with rfl | hq
    · decide
    · have hm := quo_mem _ c hq
      unfold prtB allB at hp
      simp only [Bool.and_eq_true, List.all_eq_true] at hp
      have := hp.2 c hm
      rintro rfl
      revert this; decide
  · rw [tx_5 h] at hc
    rcases List.mem_cons.1 hc with rfl | hc
    · decide
    · exact itoa_no n c hc
  · rw [tx_6 h] at hc
    rcases List.mem_cons.1 hc with rfl | hc
    · decide
    · exact itoa_no n c hc
theorem text_len2 (v : V3) : (text3 v).length ≤ 1000 := by
  cases h : right3 v
  · rw [text_no h]; simp
  obtain ⟨k, n, s⟩ := v
  unfold right3 at h
  simp only at h
  have hb := bnd_of h
  unfold bndB at hb
  simp only [decide_eq_true_eq] at hb
  have hl := Lib.itoa_length_le n (by omega) (by omega)
  rcases kinds_of h with ⟨rfl, rfl⟩ | ⟨rfl, rfl⟩ | ⟨rfl, rfl⟩ | ⟨rfl, rfl⟩ | rfl | ⟨rfl, rfl⟩ | ⟨rfl, rfl⟩
  · rw [tx_0 h]; simp
  · rw [tx_1 h]; simp
  · rw [tx_2 h]; cases (n == 1) <;> decide
  · rw [tx_3 h]; omega
  · rw [tx_4 h]
    have h1 := (quo_len s.data.toList).2
    have h2 := str_bd h
    have h3 : s.data.toList.length = s.size := Array.length_toList
    simp only [List.length_cons, List.length_append, List.length_nil]
    omega
  · rw [tx_5 h]; simp; omega
  · rw [tx_6 h]; simp; omega
theorem read_sound (x : ByteArray) : (read3 x).2 = true → bs (text3 (read3 x).1) = x := by
  unfold read3
  intro h
  by_cases hs : same (bs (text3 (guess3 x))) x = true
  · rw [if_pos hs] at h ⊢
    unfold same at hs
    exact bytes_of_list (beq_iff_eq.1 hs)
  · rw [if_neg hs] at h; cases h
theorem read_len (x : ByteArray) (hx : x.size < 4294967281) : (read3 x).1.2.2.size ≤ maxLen := by
  unfold read3
  split
  · exact guess_s x hx
  · exact es_le
set_option maxRecDepth 5000 in
set_option maxHeartbeats 8000000 in
theorem reads_walk (n : Int) (x : ByteArray) (q0 q1 q2 : Int) (h1 : -9223372036854775808 ≤ n) (h2 : n ≤ 9223372036854775807) (hx : x.size ≤ 1048576) (w : World) (hG : Gl w) :
    Calls Tryz.prog 4 #[.int .i64 n, .string x, .agg #[.int .i64 q0, .int .i64 q1, .int .i64 q2]] w fun e w' => e = .returned (.bool true) ∧ Below w.heap.size w w' := by
  have MD := Lib.hid (made_any n h1 h2)
  have MR := made_right n
  have ML := made_len n
  generalize made3 n = mv at *
  have TC := Lib.hid (fun w => refText_any mv ML w)
  have t1 : 1 ≤ (bs (text3 mv)).size := by
    rw [bs_size]
    have := text_ne mv MR
    cases e : text3 mv with
    | nil => exact absurd e this
    | cons c l => simp
  have t2 : (bs (text3 mv)).size ≤ 1000 := by rw [bs_size]; exact text_len2 mv
  have t3 : ∀ k (h : k < (bs (text3 mv)).size), (bs (text3 mv))[k] ≠ 10 := by
    intro k hk
    refine text_line mv MR _ ?_
    have h := drop_data (bs (text3 mv)) k hk
    rw [bs_list] at h
    exact List.mem_of_mem_drop (by rw [h]; exact List.mem_cons_self ..)
  obtain ⟨mk, mn, ms⟩ := mv
  replace MD : Hid (∀ w, Calls Tryz.prog 8 #[.int .i64 n] w fun e w' => e = .returned (.agg #[.int .i64 mk, .int .i64 mn, .string ms]) ∧ Below w.heap.size w w') := MD
  unfold LitOf V3.val vv at TC
  simp only at TC
  generalize bs (text3 (mk, mn, ms)) = t at *
  have BC := Lib.hid (bent_any t q0 q1 q2 t1 t2 t3)
  have hs := Lib.hid ((Sx.init hG).add #[.int .i64 q0, .int .i64 q1, .int .i64 q2] 32)
  have Z0 : x.size ≤ 2000000 := by omega
  have Z2 : (t ++ x).size ≤ 2000000 := by rw [ByteArray.size_append]; omega
  have Z3 : ((⟨#[64]⟩ : ByteArray) ++ x).size ≤ 2000000 := by rw [ByteArray.size_append]; show 1 + x.size ≤ _; omega
  have Z4 : ((⟨#[38]⟩ : ByteArray) ++ x).size ≤ 2000000 := by rw [ByteArray.size_append]; show 1 + x.size ≤ _; omega
  have Z5 : ((⟨#[45]⟩ : ByteArray) ++ t).size ≤ 2000000 := by rw [ByteArray.size_append]; show 1 + t.size ≤ _; omega
  have Z6 : ((⟨#[39]⟩ : ByteArray) ++ x ++ ⟨#[39]⟩).size ≤ 2000000 := by rw [ByteArray.size_append, ByteArray.size_append]; show 1 + x.size + 1 ≤ _; omega
  clear MR ML t3 h1 h2 hG
  go_enter Tryz.func4, Tryz.ntmps4
  go_wp2_with fail
  refine (sanity_any _ hs.out.gl).mono ?_
  rintro e w1 ⟨rfl, hb⟩
  replace hs := Lib.hid (hs.out.step hb)
  clear hb
  go_wp2_with fail
  refine (MD.out _).mono ?_
  rintro e w2 ⟨rfl, hb⟩
  replace hs := Lib.hid (hs.out.step hb)
  clear hb
  go_wp2_with fail
  refine (TC.out _).mono ?_
  rintro e w3 ⟨rfl, hb⟩
  replace hs := Lib.hid (hs.out.step hb)
  clear hb
  obtain ⟨c0, c1, c2⟩ := hs.out.c3 w.heap.size _ _ _ _ (.head _)
  go_wp2_with fail
  refine (BC.out _).mono ?_
  rintro e w4 ⟨y, rfl, hy, hb⟩
  have Z1 : y.size ≤ 2000000 := by omega
  replace hs := Lib.hid (hs.out.step hb)
  clear hb c0 c1 c2
  go_wp2_with fail
  replace hs := Lib.hid (hs.out.add #[.string x, .string y, .string (t ++ x), .string (⟨#[64]⟩ ++ x), .string (⟨#[38]⟩ ++ x), .string (⟨#[45]⟩ ++ t), .string (⟨#[39]⟩ ++ x ++ ⟨#[39]⟩)] 9)
  obtain ⟨wi, hwi⟩ : ∃ wi : World, wi = w4.alloc (.cells #[.string x, .string y, .string (t ++ x), .string (⟨#[64]⟩ ++ x), .string (⟨#[38]⟩ ++ x), .string (⟨#[45]⟩ ++ t), .string (⟨#[39]⟩ ++ x ++ ⟨#[39]⟩)] 9) := ⟨_, rfl⟩
  rw [← hwi] at hs ⊢
  obtain ⟨S, hS⟩ : ∃ S : Nat, S = w4.heap.size := ⟨_, rfl⟩
  rw [← hS] at hs ⊢
  clear hwi hS MD TC BC
  go_loopw [37] (fun i wr => ∃ j : Nat, j ≤ 7 ∧ i = .int .i64 j ∧ Hid (Sx w [(S, #[.string x, .string y, .string (t ++ x), .string (⟨#[64]⟩ ++ x), .string (⟨#[38]⟩ ++ x), .string (⟨#[45]⟩ ++ t), .string (⟨#[39]⟩ ++ x ++ ⟨#[39]⟩)], 9)] wr)) (fun i _ => 7 - (intOf i).toNat)
  case atStart => exact ⟨0, by omega, by simp, Lib.hid (hs.out.drop (fun p hp => by simp only [List.mem_cons, List.not_mem_nil, or_false] at hp; subst hp; exact .head _))⟩
  case round =>
    clear hs
    obtain ⟨j, hj, rfl, hs⟩ := hrel
    rcases Nat.lt_or_ge j 7 with j5 | j5
    · have jj : (j : Int) < 7 := by omega
      go_upto_region 5 with fail
      go_cut [10] (fun c wc => ∃ z : ByteArray, c = .string z ∧ Hid (z.size ≤ 2000000) ∧ Hid (Sx w [(S, #[.string x, .string y, .string (t ++ x), .string (⟨#[64]⟩ ++ x), .string (⟨#[38]⟩ ++ x), .string (⟨#[45]⟩ ++ t), .string (⟨#[39]⟩ ++ x ++ ⟨#[39]⟩)], 9)] wc))
      case first =>
        rcases (show j = 0 ∨ j = 1 ∨ j = 2 ∨ j = 3 ∨ j = 4 ∨ j = 5 ∨ j = 6 by omega) with rfl | rfl | rfl | rfl | rfl | rfl | rfl
        · have c0 := hs.out.cell S _ _ (.head _) 0 _ rfl
          go_wp2_with fail
          go_meet
          exact ⟨_, rfl, Lib.hid (Z0), hs⟩
        · have c0 := hs.out.cell S _ _ (.head _) 1 _ rfl
          go_wp2_with fail
          go_meet
          exact ⟨_, rfl, Lib.hid (Z1), hs⟩
        · have c0 := hs.out.cell S _ _ (.head _) 2 _ rfl
          go_wp2_with fail
          go_meet
          exact ⟨_, rfl, Lib.hid (Z2), hs⟩
        · have c0 := hs.out.cell S _ _ (.head _) 3 _ rfl
          go_wp2_with fail
          go_meet
          exact ⟨_, rfl, Lib.hid (Z3), hs⟩
        · have c0 := hs.out.cell S _ _ (.head _) 4 _ rfl
          go_wp2_with fail
          go_meet
          exact ⟨_, rfl, Lib.hid (Z4), hs⟩
        · have c0 := hs.out.cell S _ _ (.head _) 5 _ rfl
          go_wp2_with fail
          go_meet
          exact ⟨_, rfl, Lib.hid (Z5), hs⟩
        · have c0 := hs.out.cell S _ _ (.head _) 6 _ rfl
          go_wp2_with fail
          go_meet
          exact ⟨_, rfl, Lib.hid (Z6), hs⟩
      case rest =>
        clear hs
        obtain ⟨z, rfl, ZL, hs⟩ := hcut
        have RA := Lib.hid (fun w hG => read_any z (by have := ZL.out; omega) w hG)
        have RB := Lib.hid (fun w => refRead_any z (by have := ZL.out; omega) w)
        rw [rr_eq] at RB
        have VL := Lib.hid (read_len z (by have := ZL.out; omega))
        have VS := Lib.hid (read_sound z)
        generalize read3 z = rv at *
        obtain ⟨⟨vk, vn, vs⟩, ok⟩ := rv
        have TA := Lib.hid (fun w hG => text_any (vk, vn, vs) VL.out w hG)
        unfold TupB at RB
        unfold V3.val vv at RA RB TA
        simp only at RA RB TA VS
        go_wp2_with fail
        refine (RA.out _ hs.out.gl).mono ?_
        rintro e v1 ⟨rfl, hb⟩
        replace hs := Lib.hid (hs.out.step hb)
        clear hb
        replace hs := Lib.hid (hs.out.add #[.int .i64 vk, .int .i64 vn, .string vs] 23)
        go_wp2_with fail
        obtain ⟨wj, hwj⟩ : ∃ wj : World, wj = v1.alloc (.cells #[.int .i64 vk, .int .i64 vn, .string vs] 23) := ⟨_, rfl⟩
        rw [← hwj] at hs ⊢
        obtain ⟨P, hP⟩ : ∃ P : Nat, P = v1.heap.size := ⟨_, rfl⟩
        rw [← hP] at hs ⊢
        clear hwj hP
        refine (RB.out _).mono ?_
        rintro e v2 ⟨rfl, hb⟩
        replace hs := Lib.hid (hs.out.step hb)
        clear hb
        replace hs := Lib.hid (hs.out.add #[.int .i64 vk, .int .i64 vn, .string vs] 23)
        obtain ⟨p0, p1, p2⟩ := hs.out.c3 P _ _ _ _ (.tail _ (.head _))
        obtain ⟨d0, d1, d2⟩ := hs.out.c3 v2.heap.size _ _ _ _ (.head _)
        have hv := run_vrefl vk vn vs
        cases ok
        · go_wp2_with fail
          refine ⟨⟨j + 1, by omega, by simp, Lib.hid (hs.out.drop (fun p hp => .tail _ (.tail _ hp)))⟩, by simp [intOf]; omega⟩
        · have hz := VS.out rfl
          rw [hz] at TA
          go_wp2_with fail
          refine (TA.out _ hs.out.gl).mono ?_
          rintro e v3 ⟨rfl, hb⟩
          replace hs := Lib.hid (hs.out.step hb)
          clear hb p0 p1 p2 d0 d1 d2
          go_wp2_with fail
          refine ⟨⟨j + 1, by omega, by simp, Lib.hid (hs.out.drop (fun p hp => .tail _ (.tail _ hp)))⟩, by simp [intOf]; omega⟩
    · obtain rfl : j = 7 := by omega
      go_wp2_with fail
      go_ret
      exact ⟨rfl, hs.out.be⟩
end Go.Proofs.YtibjhcgfjhbgoaaGreatDoor.Va
