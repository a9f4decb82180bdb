/-
  The walk of ValueTexts.
-/
import Derived.Test.YtibjhcgfjhbgoaaGreatDoorTt
import Derived.Test.YtibjhcgfjhbgoaaGreatDoorMl
import Derived.Deep.RegionHeld3
import Derived.Deep.DeepCutAuto
namespace Go.Proofs.YtibjhcgfjhbgoaaGreatDoor.Va
open Go Go.RowKit Mp

theorem text_len (v : V3) : (text3 v).length ≤ 1000 := by
  cases h : right3 v
  · rw [text_no h]; simp
  obtain ⟨k, n, s⟩ := v
  unfold right3 at h
  simp only at h
  have hb := bnd_of h
  unfold bndB at hb
  simp only [decide_eq_true_eq] at hb
  have hl := Lib.itoa_length_le n (by omega) (by omega)
  rcases kinds_of h with ⟨rfl, rfl⟩ | ⟨rfl, rfl⟩ | ⟨rfl, rfl⟩ | ⟨rfl, rfl⟩ | rfl | ⟨rfl, rfl⟩ | ⟨rfl, rfl⟩
  · rw [tx_0 h]; simp
  · rw [tx_1 h]; simp
  · rw [tx_2 h]; cases (n == 1) <;> decide
  · rw [tx_3 h]; omega
  · rw [tx_4 h]
    have h1 := (quo_len s.data.toList).2
    have h2 := str_bd h
    have h3 : s.data.toList.length = s.size := Array.length_toList
    simp only [List.length_cons, List.length_append, List.length_nil]
    omega
  · rw [tx_5 h]; simp; omega
  · rw [tx_6 h]; simp; omega
theorem text_size (v : V3) : (bs (text3 v)).size < 4294967281 := by rw [bs_size]; have := text_len v; omega
theorem text_full (v : V3) (h : right3 v = true) : (bs (text3 v)).toList.isEmpty = false := by
  rw [bs_toList]; simpa using text_ne v h
set_option maxRecDepth 5000 in
set_option maxHeartbeats 8000000 in
theorem texts_walk (n : Int) (raw : V3) (h1 : -9223372036854775808 ≤ n) (h2 : n ≤ 9223372036854775807) (hm : raw.2.2.size ≤ maxLen) (w : World) (hG : Gl w) :
    Calls Tryz.prog 3 #[.int .i64 n, raw.val] w fun e w' => e = .returned (.bool true) ∧ Below w.heap.size w w' := by
  obtain ⟨rk, rn, rs⟩ := raw
  have RL := Lib.hid hm
  have EL := Lib.hid es_le
  have MD := Lib.hid (made_any n h1 h2)
  have ML := Lib.hid (made_len n)
  generalize made3 n = mv at *
  obtain ⟨mk, mn, ms⟩ := mv
  replace MD : Hid (∀ w, Calls Tryz.prog 8 #[.int .i64 n] w fun e w' => e = .returned (.agg #[.int .i64 mk, .int .i64 mn, .string ms]) ∧ Below w.heap.size w w') := MD
  have hs := Lib.hid ((Sx.init hG).add #[.int .i64 rk, .int .i64 rn, .string rs] 23)
  clear hm h1 h2 hG
  unfold V3.val vv
  simp only
  go_enter Tryz.func3, Tryz.ntmps3
  go_wp2_with fail
  refine (sanity_any _ hs.out.gl).mono ?_
  rintro e w1 ⟨rfl, hb⟩
  replace hs := Lib.hid (hs.out.step hb)
  clear hb
  go_wp2_with fail
  obtain ⟨r0, r1, r2⟩ := hs.out.c3 w.heap.size _ _ _ _ (.head _)
  go_region_held3 (fun w' => w'.cell? ⟨w.heap.size, 0, none⟩ = some (.int .i64 rk) ∧ w'.cell? ⟨w.heap.size, 1, none⟩ = some (.int .i64 rn) ∧ w'.cell? ⟨w.heap.size, 2, none⟩ = some (.string rs)) (first | exact ⟨r0, r1, r2⟩ | exact (hs.out.alloc _).c3 w.heap.size _ _ _ _ (.head _)) ((go_at_call 8; refine (MD.out _).mono ?_; rintro e w2 ⟨rfl, hb⟩; (first | (replace hs := Lib.hid (hs.out.step hb)) | (replace hs := Lib.hid (hs.out.drew.step hb))); clear hb; clear r0 r1 r2; obtain ⟨r0, r1, r2⟩ := hs.out.c3 w.heap.size _ _ _ _ (.head _)))
  generalize bits BinOp.and IntKind.i64 rk 7 = z at *
  replace hs := Lib.hid (hs.out.add #[.int .i64 mk, .int .i64 mn, .string ms, .int .i64 rk, .int .i64 rn, .string rs, .int .i64 rk, .int .i64 rn, .string ⟨#[]⟩, .int .i64 z, .int .i64 n, .string ⟨#[]⟩] 23)
  clear r0 r1 r2
  go_wp2_with fail
  obtain ⟨wi, hwi⟩ : ∃ wi : World, wi = w2.alloc (.cells #[.int .i64 mk, .int .i64 mn, .string ms, .int .i64 rk, .int .i64 rn, .string rs, .int .i64 rk, .int .i64 rn, .string ⟨#[]⟩, .int .i64 z, .int .i64 n, .string ⟨#[]⟩] 23) := ⟨_, rfl⟩
  rw [← hwi] at hs ⊢
  obtain ⟨S, hS⟩ : ∃ S : Nat, S = w2.heap.size := ⟨_, rfl⟩
  rw [← hS] at hs ⊢
  clear hwi hS
  go_loopw [28] (fun i wr => ∃ j : Nat, j ≤ 4 ∧ i = .int .i64 j ∧ Hid (Sx w [(S, #[.int .i64 mk, .int .i64 mn, .string ms, .int .i64 rk, .int .i64 rn, .string rs, .int .i64 rk, .int .i64 rn, .string ⟨#[]⟩, .int .i64 z, .int .i64 n, .string ⟨#[]⟩], 23)] wr)) (fun i _ => 4 - (intOf i).toNat)
  case atStart => exact ⟨0, by omega, by simp, Lib.hid (hs.out.drop (fun p hp => by simp only [List.mem_cons, List.not_mem_nil, or_false] at hp; subst hp; exact .head _))⟩
  case round =>
    clear hs
    obtain ⟨j, hj, rfl, hs⟩ := hrel
    rcases Nat.lt_or_ge j 4 with j5 | j5
    · have jj : (j : Int) < 4 := by omega
      go_upto_region 4 with fail
      go_cut [7] (fun c wc => ∃ (C : Nat) (x : V3), c = .pointer (some ⟨C, 0, none⟩) ∧ Hid (x.2.2.size ≤ maxLen) ∧ Hid (Sx w [(C, #[.int .i64 x.1, .int .i64 x.2.1, .string x.2.2], 23), (S, #[.int .i64 mk, .int .i64 mn, .string ms, .int .i64 rk, .int .i64 rn, .string rs, .int .i64 rk, .int .i64 rn, .string ⟨#[]⟩, .int .i64 z, .int .i64 n, .string ⟨#[]⟩], 23)] wc))
      case first =>
        rcases (show j = 0 ∨ j = 1 ∨ j = 2 ∨ j = 3 by omega) with rfl | rfl | rfl | rfl
        · have c0 := hs.out.cell S _ _ (.head _) 0 _ rfl
          have c1 := hs.out.cell S _ _ (.head _) 1 _ rfl
          have c2 := hs.out.cell S _ _ (.head _) 2 _ rfl
          go_wp2_with fail
          go_meet
          exact ⟨_, (mk, mn, ms), rfl, ML, Lib.hid (hs.out.add _ _)⟩
        · have c0 := hs.out.cell S _ _ (.head _) 3 _ rfl
          have c1 := hs.out.cell S _ _ (.head _) 4 _ rfl
          have c2 := hs.out.cell S _ _ (.head _) 5 _ rfl
          go_wp2_with fail
          go_meet
          exact ⟨_, (rk, rn, rs), rfl, RL, Lib.hid (hs.out.add _ _)⟩
        · have c0 := hs.out.cell S _ _ (.head _) 6 _ rfl
          have c1 := hs.out.cell S _ _ (.head _) 7 _ rfl
          have c2 := hs.out.cell S _ _ (.head _) 8 _ rfl
          go_wp2_with fail
          go_meet
          exact ⟨_, (rk, rn, ⟨#[]⟩), rfl, EL, Lib.hid (hs.out.add _ _)⟩
        · have c0 := hs.out.cell S _ _ (.head _) 9 _ rfl
          have c1 := hs.out.cell S _ _ (.head _) 10 _ rfl
          have c2 := hs.out.cell S _ _ (.head _) 11 _ rfl
          go_wp2_with fail
          go_meet
          exact ⟨_, (z, n, ⟨#[]⟩), rfl, EL, Lib.hid (hs.out.add _ _)⟩
      case rest =>
      clear hs
      obtain ⟨C, ⟨xk, xn, xs⟩, rfl, XL, hs⟩ := hcut
      simp only at XL hs
      have TA := Lib.hid (fun w hG => text_any (xk, xn, xs) XL.out w hG)
      have RA := Lib.hid (fun w hB => right_any xk xn xs w XL.out hB)
      have FR := Lib.hid (fun w => refRight_any (xk, xn, xs) w XL.out)
      have FT := Lib.hid (fun w => refText_any (xk, xn, xs) XL.out w)
      have RD := Lib.hid (fun w hG => read_any (bs (text3 (xk, xn, xs))) (text_size _) w hG)
      rw [read_text] at RD
      have TF := Lib.hid (text_full (xk, xn, xs))
      have TN := Lib.hid (text_no (v := (xk, xn, xs)))
      replace FR : Hid (∀ w, Calls Tryz.prog 11 #[V3.val (xk, xn, xs)] w fun e w' => e = .returned (.bool (rightB xk xn xs)) ∧ Below w.heap.size w w') := FR
      replace TF : Hid (rightB xk xn xs = true → (bs (text3 (xk, xn, xs))).toList.isEmpty = false) := TF
      replace TN : Hid (rightB xk xn xs = false → text3 (xk, xn, xs) = []) := TN
      replace RD : Hid (∀ w, Gl w → Calls Tryz.prog 13 #[.string (bs (text3 (xk, xn, xs)))] w fun e w' => e = .returned (.tuple #[V3.val (if rightB xk xn xs = true then ((xk, xn, xs), true) else (z3, false)).1, .bool (if rightB xk xn xs = true then ((xk, xn, xs), true) else (z3, false)).2]) ∧ Below w.heap.size w w') := RD
      unfold LitOf at FT
      unfold V3.val vv at TA FR FT
      simp only at TA FR FT
      generalize hr : rightB xk xn xs = rr at *
      replace TN : Hid (rr = false → (bs (text3 (xk, xn, xs))).toList.isEmpty = true) := Lib.hid (fun h => by rw [TN.out h]; rw [bs_toList]; rfl)
      generalize bs (text3 (xk, xn, xs)) = t at *
      clear hr
      cases rr
      · have ht := TN.out rfl
        rw [if_neg (by decide)] at RD
        clear TF TN
        obtain ⟨c0, c1, c2⟩ := hs.out.c3 C _ _ _ _ (.head _)
        go_wp2_with fail
        refine (TA.out _ hs.out.gl).mono ?_
        rintro e v1 ⟨rfl, hb⟩
        replace hs := Lib.hid (hs.out.step hb)
        clear hb c0 c1 c2
        obtain ⟨c0, c1, c2⟩ := hs.out.c3 C _ _ _ _ (.head _)
        go_wp2_with fail
        refine (RA.out _ hs.out.gl.bnds).mono ?_
        rintro e v2 ⟨rfl, hb⟩
        replace hs := Lib.hid (hs.out.step hb)
        clear hb c0 c1 c2
        obtain ⟨c0, c1, c2⟩ := hs.out.c3 C _ _ _ _ (.head _)
        go_wp2_with fail
        refine (FR.out _).mono ?_
        rintro e v3 ⟨rfl, hb⟩
        replace hs := Lib.hid (hs.out.step hb)
        clear hb c0 c1 c2
        obtain ⟨c0, c1, c2⟩ := hs.out.c3 C _ _ _ _ (.head _)
        go_wp2_with fail
        refine (FT.out _).mono ?_
        rintro e v4 ⟨rfl, hb⟩
        replace hs := Lib.hid (hs.out.step hb)
        clear hb c0 c1 c2
        go_wp2_with fail
        refine (RD.out _ hs.out.gl).mono ?_
        rintro e v5 ⟨rfl, hb⟩
        replace hs := Lib.hid (hs.out.step hb)
        clear hb
        unfold z3 V3.val vv es
        simp only
        replace hs := Lib.hid (hs.out.add #[.int .i64 0, .int .i64 0, .string ⟨#[]⟩] 23)
        go_wp2_with fail
        refine ⟨⟨j + 1, by omega, by simp, Lib.hid (hs.out.drop (fun p hp => .tail _ (.tail _ hp)))⟩, by simp [intOf]; omega⟩
      · have ht := TF.out rfl
        rw [if_pos rfl] at RD
        clear TF TN
        obtain ⟨c0, c1, c2⟩ := hs.out.c3 C _ _ _ _ (.head _)
        go_wp2_with fail
        refine (TA.out _ hs.out.gl).mono ?_
        rintro e v1 ⟨rfl, hb⟩
        replace hs := Lib.hid (hs.out.step hb)
        clear hb c0 c1 c2
        obtain ⟨c0, c1, c2⟩ := hs.out.c3 C _ _ _ _ (.head _)
        go_wp2_with fail
        refine (RA.out _ hs.out.gl.bnds).mono ?_
        rintro e v2 ⟨rfl, hb⟩
        replace hs := Lib.hid (hs.out.step hb)
        clear hb c0 c1 c2
        obtain ⟨c0, c1, c2⟩ := hs.out.c3 C _ _ _ _ (.head _)
        go_wp2_with fail
        refine (FR.out _).mono ?_
        rintro e v3 ⟨rfl, hb⟩
        replace hs := Lib.hid (hs.out.step hb)
        clear hb c0 c1 c2
        obtain ⟨c0, c1, c2⟩ := hs.out.c3 C _ _ _ _ (.head _)
        go_wp2_with fail
        refine (FT.out _).mono ?_
        rintro e v4 ⟨rfl, hb⟩
        replace hs := Lib.hid (hs.out.step hb)
        clear hb c0 c1 c2
        go_wp2_with fail
        refine (RD.out _ hs.out.gl).mono ?_
        rintro e v5 ⟨rfl, hb⟩
        replace hs := Lib.hid (hs.out.step hb)
        clear hb
        unfold V3.val vv
        simp only
        replace hs := Lib.hid (hs.out.add #[.int .i64 xk, .int .i64 xn, .string xs] 23)
        obtain ⟨c0, c1, c2⟩ := hs.out.c3 C _ _ _ _ (.tail _ (.head _))
        obtain ⟨d0, d1, d2⟩ := hs.out.c3 v5.heap.size _ _ _ _ (.head _)
        have hv := run_vrefl xk xn xs
        go_wp2_with fail
        refine ⟨⟨j + 1, by omega, by simp, Lib.hid (hs.out.drop (fun p hp => .tail _ (.tail _ hp)))⟩, by simp [intOf]; omega⟩
    · obtain rfl : j = 4 := by omega
      go_wp2_with fail
      go_ret
      exact ⟨rfl, hs.out.be⟩
end Go.Proofs.YtibjhcgfjhbgoaaGreatDoor.Va
