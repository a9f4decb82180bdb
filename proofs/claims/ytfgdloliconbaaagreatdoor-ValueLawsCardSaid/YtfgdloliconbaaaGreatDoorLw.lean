/-
  The walk of ValueLaws.
-/
import Derived.Test.YtfgdloliconbaaaGreatDoorRa
import Derived.Test.YtfgdloliconbaaaGreatDoorLm
import Derived.Test.YtfgdloliconbaaaGreatDoorSy
import Derived.Deep.RegionHeld3
import Derived.Deep.DeepCutAuto
namespace Go.Proofs.YtfgdloliconbaaaGreatDoor.Va
open Go Go.RowKit Mp

set_option maxRecDepth 5000 in
set_option maxHeartbeats 8000000 in
theorem laws_walk (m n : Int) (m1 : -9223372036854775808 ≤ m) (m2 : m ≤ 9223372036854775807) (h1 : -9223372036854775808 ≤ n) (h2 : n ≤ 9223372036854775807) (w : World) (hG : Gl w) :
    Calls Tryz.prog 7 #[.agg #[.int .i64 m, .int .i64 n]] w fun e w' => e = .returned (.bool true) ∧ Below w.heap.size w w' := by
  have MA := Lib.hid (made_any m m1 m2)
  have ML := Lib.hid (made_len m)
  have NA := Lib.hid (made_any n h1 h2)
  have NL := Lib.hid (made_len n)
  generalize made3 m = av at *
  generalize made3 n = bv at *
  obtain ⟨ka, na, sa⟩ := av
  obtain ⟨kb, nb, sb⟩ := bv
  replace MA : Hid (∀ w, Calls Tryz.prog 10 #[.int .i64 m] w fun e w' => e = .returned (.agg #[.int .i64 ka, .int .i64 na, .string sa]) ∧ Below w.heap.size w w') := MA
  replace NA : Hid (∀ w, Calls Tryz.prog 10 #[.int .i64 n] w fun e w' => e = .returned (.agg #[.int .i64 kb, .int .i64 nb, .string sb]) ∧ Below w.heap.size w w') := NA
  have hs := Lib.hid (Sx.init hG)
  have GW := Lib.hid hG
  clear m1 m2 h1 h2 hG
  go_enter Tryz.func7, Tryz.ntmps7
  go_wp2_with fail
  refine (sanity_any _ (hs.out.add #[.int .i64 m, .int .i64 n] 42).gl).mono ?_
  rintro e w1 ⟨rfl, hb⟩
  replace hs := Lib.hid ((hs.out.add #[.int .i64 m, .int .i64 n] 42).step hb)
  clear hb
  go_upto_region 2 with fail
  go_cut [4, 5] (fun p q wc => ∃ A B : Nat, p = .pointer (some ⟨A, 0, none⟩) ∧ q = .pointer (some ⟨B, 0, none⟩) ∧ Hid (Sx w [(A, #[.int .i64 ka, .int .i64 na, .string sa], 23), (B, #[.int .i64 kb, .int .i64 nb, .string sb], 23)] wc))
  case first =>
    go_wp2_with fail
    obtain ⟨c0, c1⟩ := hs.out.c2 w.heap.size (.int .i64 m) (.int .i64 n) 42 (by simp)
    have n1 := hs.out.lt w.heap.size #[.int .i64 m, .int .i64 n] 42 (by simp)
    have n2 : ¬ w.heap.size = w1.heap.size := by omega
    have n3 : ¬ w.heap.size = w1.heap.size + 1 := by omega
    go_region_held3 (fun w' => w'.cell? ⟨w.heap.size, 0, none⟩ = some (.int .i64 m) ∧ w'.cell? ⟨w.heap.size, 1, none⟩ = some (.int .i64 n)) (first | (with_reducible exact ⟨c0, c1⟩) | (refine ⟨?_, ?_⟩ <;> (repeat (first | (with_reducible exact c0) | (with_reducible exact c1) | (with_reducible refine keepD ?_) | (with_reducible refine keepA ?_ _) | ((with_reducible refine keepT ?_ ?_); (· first | omega | (dsimp only; omega))))) <;> done) | (refine ⟨?_, ?_⟩ <;> go_keep)) ((go_at_call 10; (first | (with_reducible refine (MA.out _).mono ?_) | (with_reducible refine (NA.out _).mono ?_)); rintro e w' ⟨rfl, hb⟩; (first | (with_reducible replace hs := Lib.hid (hs.out.step hb)) | (with_reducible replace hs := Lib.hid ((hs.out.add #[.int .i64 0, .int .i64 0, .string ⟨#[]⟩] 23).step hb)) | (with_reducible replace hs := Lib.hid (((hs.out.add #[.int .i64 0, .int .i64 0, .string ⟨#[]⟩] 23).add #[.int .i64 0, .int .i64 0, .string ⟨#[]⟩] 23).step hb)) | (with_reducible replace hs := Lib.hid (hs.out.drew.step hb)) | (with_reducible replace hs := Lib.hid ((hs.out.add #[.int .i64 0, .int .i64 0, .string ⟨#[]⟩] 23).drew.step hb)) | (with_reducible replace hs := Lib.hid (((hs.out.add #[.int .i64 0, .int .i64 0, .string ⟨#[]⟩] 23).add #[.int .i64 0, .int .i64 0, .string ⟨#[]⟩] 23).drew.step hb))); clear hb; clear c0 c1; (try simp only [World.size_alloc] at hs); (have n1 := hs.out.lt w.heap.size #[.int .i64 m, .int .i64 n] 42 (by simp); have n2 : ¬ w.heap.size = w'.heap.size := (by omega); have n3 : ¬ w.heap.size = w'.heap.size + 1 := (by omega)); (try obtain ⟨y0, y1, y2, yf, yl⟩ := (hs.out.own (_, #[.int .i64 0, .int .i64 0, .string ⟨#[]⟩], 23) (.head _)).facts); (try obtain ⟨x0, x1, x2, xf, xl⟩ := (hs.out.own (_, #[.int .i64 0, .int .i64 0, .string ⟨#[]⟩], 23) (.tail _ (.head _))).facts); obtain ⟨c0, c1⟩ := hs.out.c2 w.heap.size (.int .i64 m) (.int .i64 n) 42 (by simp)))
    all_goals (go_wp2_with fail)
    all_goals go_meet
    all_goals (refine ⟨_, _, rfl, rfl, Lib.hid ?_⟩)
    all_goals first
      | (with_reducible exact Sx.zero hs.out _ _ _)
      | (with_reducible exact (Sx.zero hs.out _ _ _).swap)
      | (with_reducible refine Sx.one GW.out hs.out _ (.int .i64 0) (.int .i64 0) (.string ⟨#[]⟩) _ _ _ _ _ ?_ ?_)
      | (with_reducible refine (Sx.one GW.out hs.out _ (.int .i64 0) (.int .i64 0) (.string ⟨#[]⟩) _ _ _ _ _ ?_ ?_).swap)
      | (with_reducible refine Sx.two GW.out hs.out _ _ (.int .i64 0) (.int .i64 0) (.string ⟨#[]⟩) _ _ _ _ _ _ _ ?_ ?_ ?_ ?_ ?_)
    all_goals first
      | omega
      | simp
  case rest =>
  obtain ⟨A, B, rfl, rfl, hs⟩ := hcut
  clear GW MA NA
  go_wp2_with fail
  replace hs := Lib.hid (hs.out.add #[.int .i64 5, .int .i64 7, .int .i64 12, .int .i64 13, .int .i64 11] 3)
  obtain ⟨wo, hwo⟩ : ∃ wo : World, wo = wc.alloc (.cells #[.int .i64 5, .int .i64 7, .int .i64 12, .int .i64 13, .int .i64 11] 3) := ⟨_, rfl⟩
  rw [← hwo] at hs ⊢
  obtain ⟨C, hC⟩ : ∃ C : Nat, C = wc.heap.size := ⟨_, rfl⟩
  rw [← hC] at hs ⊢
  clear hwo hC
  go_loopw [35] (fun i wr => ∃ k : Nat, k ≤ 5 ∧ i = .int .i64 k ∧ Hid (Sx w [(C, #[.int .i64 5, .int .i64 7, .int .i64 12, .int .i64 13, .int .i64 11], 3), (A, #[.int .i64 ka, .int .i64 na, .string sa], 23), (B, #[.int .i64 kb, .int .i64 nb, .string sb], 23)] wr)) (fun i _ => 5 - (intOf i).toNat)
  case atStart => exact ⟨0, by omega, by simp, hs⟩
  case round =>
    clear hs
    obtain ⟨k, hk, rfl, hs⟩ := hrel
    rcases Nat.lt_or_ge k 5 with h5 | h5
    · obtain ⟨o, ho, hc⟩ : ∃ o : Int, wr.cell? ⟨C, k, none⟩ = some (.int .i64 o) ∧ Hid (commutes o) := by
        rcases (show k = 0 ∨ k = 1 ∨ k = 2 ∨ k = 3 ∨ k = 4 by omega) with rfl | rfl | rfl | rfl | rfl
        · exact ⟨_, hs.out.cell C _ _ (.head _) 0 _ rfl, .inl rfl⟩
        · exact ⟨_, hs.out.cell C _ _ (.head _) 1 _ rfl, .inr (.inl rfl)⟩
        · exact ⟨_, hs.out.cell C _ _ (.head _) 2 _ rfl, .inr (.inr (.inl rfl))⟩
        · exact ⟨_, hs.out.cell C _ _ (.head _) 3 _ rfl, .inr (.inr (.inr (.inl rfl)))⟩
        · exact ⟨_, hs.out.cell C _ _ (.head _) 4 _ rfl, .inr (.inr (.inr (.inr rfl)))⟩
      have hk5 : (k : Int) < 5 := by omega
      obtain ⟨a0, a1, a2⟩ := hs.out.c3 A _ _ _ _ (.tail _ (.head _))
      obtain ⟨b0, b1, b2⟩ := hs.out.c3 B _ _ _ _ (.tail _ (.tail _ (.head _)))
      go_wp2_with fail
      refine (binary_any o (ka, na, sa) (kb, nb, sb) _ hs.out.gl.bnds ML.out NL.out).mono ?_
      generalize hr : bin o (ka, na, sa) (kb, nb, sb) = r
      have HR := Lib.hid hr
      clear hr
      obtain ⟨⟨p, q, s⟩, f⟩ := r
      rintro e v1 ⟨rfl, hb⟩
      replace hs := Lib.hid (hs.out.step hb)
      clear hb
      unfold V3.val vv
      simp only
      clear a0 a1 a2 b0 b1 b2
      clear ho
      replace hs := Lib.hid (hs.out.add #[.int .i64 p, .int .i64 q, .string s] 23)
      obtain ⟨a0, a1, a2⟩ := hs.out.c3 A _ _ _ _ (.tail _ (.tail _ (.head _)))
      obtain ⟨b0, b1, b2⟩ := hs.out.c3 B _ _ _ _ (.tail _ (.tail _ (.tail _ (.head _))))
      go_wp2_with fail
      refine (binary_any o (kb, nb, sb) (ka, na, sa) _ hs.out.gl.bnds NL.out ML.out).mono ?_
      rw [← bin_comm hc.out, HR.out]
      rintro e v2 ⟨rfl, hb⟩
      replace hs := Lib.hid (hs.out.step hb)
      clear hb
      unfold V3.val vv
      simp only
      clear a0 a1 a2 b0 b1 b2
      replace hs := Lib.hid (hs.out.add #[.int .i64 p, .int .i64 q, .string s] 23)
      obtain ⟨a0, a1, a2⟩ := hs.out.c3 v1.heap.size _ _ _ _ (.tail _ (.head _))
      obtain ⟨b0, b1, b2⟩ := hs.out.c3 v2.heap.size _ _ _ _ (.head _)
      have hv := run_vrefl p q s
      go_wp2_with fail
      refine ⟨⟨k + 1, by omega, by simp, Lib.hid (hs.out.drop (fun p hp => .tail _ (.tail _ hp)))⟩, by simp [intOf]; omega⟩
    · obtain rfl : k = 5 := by omega
      obtain ⟨q, r, kk, f, e8, e9, hcase⟩ := div_mod (ka, na, sa) (kb, nb, sb)
      have E8 := Lib.hid e8
      have E9 := Lib.hid e9
      have HC := Lib.hid hcase
      clear e8 e9 hcase
      obtain ⟨a0, a1, a2⟩ := hs.out.c3 A _ _ _ _ (.tail _ (.head _))
      obtain ⟨b0, b1, b2⟩ := hs.out.c3 B _ _ _ _ (.tail _ (.tail _ (.head _)))
      go_wp2_with fail
      refine (binary_any 8 (ka, na, sa) (kb, nb, sb) _ hs.out.gl.bnds ML.out NL.out).mono ?_
      rw [E8.out]
      rintro e v1 ⟨rfl, hb⟩
      replace hs := Lib.hid (hs.out.step hb)
      clear hb
      unfold V3.val vv
      simp only
      clear a0 a1 a2 b0 b1 b2
      replace hs := Lib.hid (hs.out.add #[.int .i64 kk, .int .i64 q, .string es] 23)
      obtain ⟨a0, a1, a2⟩ := hs.out.c3 A _ _ _ _ (.tail _ (.tail _ (.head _)))
      obtain ⟨b0, b1, b2⟩ := hs.out.c3 B _ _ _ _ (.tail _ (.tail _ (.tail _ (.head _))))
      go_wp2_with fail
      refine (binary_any 9 (ka, na, sa) (kb, nb, sb) _ hs.out.gl.bnds ML.out NL.out).mono ?_
      rw [E9.out]
      rintro e v2 ⟨rfl, hb⟩
      replace hs := Lib.hid (hs.out.step hb)
      clear hb
      unfold V3.val vv
      simp only
      clear a0 a1 a2 b0 b1 b2
      replace hs := Lib.hid (hs.out.add #[.int .i64 kk, .int .i64 r, .string es] 23)
      clear E8 E9
      rcases HC.out with hne | ⟨rfl, rfl, p, e7, e5⟩
      · have hne' := bytes_full hne
        clear hne
        go_wp2_with fail
        replace hs := Lib.hid ((hs.out.drop (L' := [(A, #[.int .i64 ka, .int .i64 na, .string sa], 23), (B, #[.int .i64 kb, .int .i64 nb, .string sb], 23)]) (fun p hp => .tail _ (.tail _ (.tail _ (hp))))).add #[.int .i64 3, .int .i64 4] 3)
        simp only [World.size_alloc] at hs
        obtain ⟨wd, hwd⟩ : ∃ wd : World, wd = (v2.alloc (.cells #[.int .i64 kk, .int .i64 r, .string es] 23)).alloc (.cells #[.int .i64 3, .int .i64 4] 3) := ⟨_, rfl⟩
        rw [← hwd] at hs ⊢
        obtain ⟨D, hD⟩ : ∃ D : Nat, D = v2.heap.size + 1 := ⟨_, rfl⟩
        rw [← hD] at hs ⊢
        clear hwd hD
        go_loopw [104] (fun i wq => ∃ k : Nat, k ≤ 2 ∧ i = .int .i64 k ∧ Hid (Sx w [(D, #[.int .i64 3, .int .i64 4], 3), (A, #[.int .i64 ka, .int .i64 na, .string sa], 23), (B, #[.int .i64 kb, .int .i64 nb, .string sb], 23)] wq)) (fun i _ => 2 - (intOf i).toNat)
        case atStart => exact ⟨0, by omega, by simp, hs⟩
        case round =>
          clear hs
          obtain ⟨j, hj, rfl, hs⟩ := hrel
          rcases Nat.lt_or_ge j 2 with j2 | j2
          · obtain ⟨o, ho, hu⟩ : ∃ o : Int, wr.cell? ⟨D, j, none⟩ = some (.int .i64 o) ∧ Hid (o = 3 ∨ o = 4) := by
              rcases (show j = 0 ∨ j = 1 by omega) with rfl | rfl
              · exact ⟨_, hs.out.cell D _ _ (.head _) 0 _ rfl, .inl rfl⟩
              · exact ⟨_, hs.out.cell D _ _ (.head _) 1 _ rfl, .inr rfl⟩
            have hj2 : (j : Int) < 2 := by omega
            obtain ⟨k2, n2, h2, e1, hc⟩ := un_un hu.out (ka, na, sa)
            have E1 := Lib.hid e1
            have HC2 := Lib.hid hc
            clear e1 hc
            obtain ⟨a0, a1, a2⟩ := hs.out.c3 A _ _ _ _ (.tail _ (.head _))
            go_wp2_with fail
            refine (unary_any o (ka, na, sa) _ hs.out.gl.bnds ML.out).mono ?_
            rw [E1.out]
            rintro e x1 ⟨rfl, hb⟩
            replace hs := Lib.hid (hs.out.step hb)
            clear hb
            unfold V3.val vv
            simp only
            clear a0 a1 a2
            clear ho E1
            replace hs := Lib.hid (hs.out.add #[.int .i64 k2, .int .i64 n2, .string es] 23)
            obtain ⟨g0, g1, g2⟩ := hs.out.c3 x1.heap.size _ _ _ _ (.head _)
            go_wp2_with fail
            refine (unary_any o (k2, n2, es) _ hs.out.gl.bnds es_le).mono ?_
            rcases HC2.out with hne | ⟨rfl, e2⟩
            · generalize un o (k2, n2, es) = r
              obtain ⟨⟨p3, q3, s3⟩, f3⟩ := r
              rintro e x2 ⟨rfl, hb⟩
              replace hs := Lib.hid (hs.out.step hb)
              clear hb
              unfold V3.val vv
              simp only
              clear g0 g1 g2
              replace hs := Lib.hid (hs.out.add #[.int .i64 p3, .int .i64 q3, .string s3] 23)
              have hne' := bytes_full hne
              clear hne
              go_wp2_with fail
              refine ⟨⟨j + 1, by omega, by simp, Lib.hid (hs.out.drop (fun p hp => .tail _ (.tail _ (hp))))⟩, by simp [intOf]; omega⟩
            · rw [e2]
              rintro e x2 ⟨rfl, hb⟩
              replace hs := Lib.hid (hs.out.step hb)
              clear hb
              unfold V3.val vv
              simp only
              clear g0 g1 g2
              replace hs := Lib.hid (hs.out.add #[.int .i64 ka, .int .i64 na, .string sa] 23)
              obtain ⟨a0, a1, a2⟩ := hs.out.c3 A _ _ _ _ (.tail _ (.tail _ (.tail _ (.head _))))
              obtain ⟨g0, g1, g2⟩ := hs.out.c3 x2.heap.size _ _ _ _ (.head _)
              have hv := run_vrefl ka na sa
              have hes := es_empty
              go_wp2_with fail
              refine ⟨⟨j + 1, by omega, by simp, Lib.hid (hs.out.drop (fun p hp => .tail _ (.tail _ (hp))))⟩, by simp [intOf]; omega⟩
          · obtain rfl : j = 2 := by omega
            go_wp2_with fail
            go_ret
            exact ⟨rfl, hs.out.be⟩
      · have E7 := Lib.hid e7
        have E5 := Lib.hid e5
        clear e7 e5
        obtain ⟨b0, b1, b2⟩ := hs.out.c3 B _ _ _ _ (.tail _ (.tail _ (.tail _ (.tail _ (.head _)))))
        obtain ⟨g0, g1, g2⟩ := hs.out.c3 v1.heap.size _ _ _ _ (.tail _ (.head _))
        unfold es at *
        go_wp2_with fail
        refine (binary_any 7 (3, q, ⟨#[]⟩) (kb, nb, sb) _ hs.out.gl.bnds es_le NL.out).mono ?_
        rw [E7.out]
        rintro e v3 ⟨rfl, hb⟩
        replace hs := Lib.hid (hs.out.step hb)
        clear hb
        unfold V3.val vv
        simp only
        clear b0 b1 b2 g0 g1 g2
        replace hs := Lib.hid (hs.out.add #[.int .i64 3, .int .i64 p, .string ⟨#[]⟩] 23)
        obtain ⟨a0, a1, a2⟩ := hs.out.c3 v3.heap.size _ _ _ _ (.head _)
        obtain ⟨g0, g1, g2⟩ := hs.out.c3 v2.heap.size _ _ _ _ (.tail _ (.head _))
        go_wp2_with fail
        refine (binary_any 5 (3, p, ⟨#[]⟩) (3, r, ⟨#[]⟩) _ hs.out.gl.bnds es_le es_le).mono ?_
        rw [E5.out]
        rintro e v4 ⟨rfl, hb⟩
        replace hs := Lib.hid (hs.out.step hb)
        clear hb
        unfold V3.val vv
        simp only
        clear a0 a1 a2 g0 g1 g2
        replace hs := Lib.hid (hs.out.add #[.int .i64 ka, .int .i64 na, .string sa] 23)
        obtain ⟨a0, a1, a2⟩ := hs.out.c3 A _ _ _ _ (.tail _ (.tail _ (.tail _ (.tail _ (.tail _ (.head _))))))
        obtain ⟨g0, g1, g2⟩ := hs.out.c3 v4.heap.size _ _ _ _ (.head _)
        have hv := run_vrefl ka na sa
        go_wp2_with fail
        replace hs := Lib.hid ((hs.out.drop (L' := [(A, #[.int .i64 ka, .int .i64 na, .string sa], 23), (B, #[.int .i64 kb, .int .i64 nb, .string sb], 23)]) (fun p hp => .tail _ (.tail _ (.tail _ (.tail _ (.tail _ (hp))))))).add #[.int .i64 3, .int .i64 4] 3)
        simp only [World.size_alloc] at hs
        obtain ⟨wd, hwd⟩ : ∃ wd : World, wd = (v4.alloc (.cells #[.int .i64 ka, .int .i64 na, .string sa] 23)).alloc (.cells #[.int .i64 3, .int .i64 4] 3) := ⟨_, rfl⟩
        rw [← hwd] at hs ⊢
        obtain ⟨D, hD⟩ : ∃ D : Nat, D = v4.heap.size + 1 := ⟨_, rfl⟩
        rw [← hD] at hs ⊢
        clear hwd hD
        go_loopw [104] (fun i wq => ∃ k : Nat, k ≤ 2 ∧ i = .int .i64 k ∧ Hid (Sx w [(D, #[.int .i64 3, .int .i64 4], 3), (A, #[.int .i64 ka, .int .i64 na, .string sa], 23), (B, #[.int .i64 kb, .int .i64 nb, .string sb], 23)] wq)) (fun i _ => 2 - (intOf i).toNat)
        case atStart => exact ⟨0, by omega, by simp, hs⟩
        case round =>
          clear hs
          obtain ⟨j, hj, rfl, hs⟩ := hrel
          rcases Nat.lt_or_ge j 2 with j2 | j2
          · obtain ⟨o, ho, hu⟩ : ∃ o : Int, wr.cell? ⟨D, j, none⟩ = some (.int .i64 o) ∧ Hid (o = 3 ∨ o = 4) := by
              rcases (show j = 0 ∨ j = 1 by omega) with rfl | rfl
              · exact ⟨_, hs.out.cell D _ _ (.head _) 0 _ rfl, .inl rfl⟩
              · exact ⟨_, hs.out.cell D _ _ (.head _) 1 _ rfl, .inr rfl⟩
            have hj2 : (j : Int) < 2 := by omega
            obtain ⟨k2, n2, h2, e1, hc⟩ := un_un hu.out (ka, na, sa)
            have E1 := Lib.hid e1
            have HC2 := Lib.hid hc
            clear e1 hc
            obtain ⟨a0, a1, a2⟩ := hs.out.c3 A _ _ _ _ (.tail _ (.head _))
            go_wp2_with fail
            refine (unary_any o (ka, na, sa) _ hs.out.gl.bnds ML.out).mono ?_
            rw [E1.out]
            rintro e x1 ⟨rfl, hb⟩
            replace hs := Lib.hid (hs.out.step hb)
            clear hb
            unfold V3.val vv
            simp only
            clear a0 a1 a2
            clear ho E1
            replace hs := Lib.hid (hs.out.add #[.int .i64 k2, .int .i64 n2, .string es] 23)
            obtain ⟨g0, g1, g2⟩ := hs.out.c3 x1.heap.size _ _ _ _ (.head _)
            go_wp2_with fail
            refine (unary_any o (k2, n2, es) _ hs.out.gl.bnds es_le).mono ?_
            rcases HC2.out with hne | ⟨rfl, e2⟩
            · generalize un o (k2, n2, es) = r
              obtain ⟨⟨p3, q3, s3⟩, f3⟩ := r
              rintro e x2 ⟨rfl, hb⟩
              replace hs := Lib.hid (hs.out.step hb)
              clear hb
              unfold V3.val vv
              simp only
              clear g0 g1 g2
              replace hs := Lib.hid (hs.out.add #[.int .i64 p3, .int .i64 q3, .string s3] 23)
              have hne' := bytes_full hne
              clear hne
              go_wp2_with fail
              refine ⟨⟨j + 1, by omega, by simp, Lib.hid (hs.out.drop (fun p hp => .tail _ (.tail _ (hp))))⟩, by simp [intOf]; omega⟩
            · rw [e2]
              rintro e x2 ⟨rfl, hb⟩
              replace hs := Lib.hid (hs.out.step hb)
              clear hb
              unfold V3.val vv
              simp only
              clear g0 g1 g2
              replace hs := Lib.hid (hs.out.add #[.int .i64 ka, .int .i64 na, .string sa] 23)
              obtain ⟨a0, a1, a2⟩ := hs.out.c3 A _ _ _ _ (.tail _ (.tail _ (.tail _ (.head _))))
              obtain ⟨g0, g1, g2⟩ := hs.out.c3 x2.heap.size _ _ _ _ (.head _)
              have hv := run_vrefl ka na sa
              have hes := es_empty
              go_wp2_with fail
              refine ⟨⟨j + 1, by omega, by simp, Lib.hid (hs.out.drop (fun p hp => .tail _ (.tail _ (hp))))⟩, by simp [intOf]; omega⟩
          · obtain rfl : j = 2 := by omega
            go_wp2_with fail
            go_ret
            exact ⟨rfl, hs.out.be⟩
end Go.Proofs.YtfgdloliconbaaaGreatDoor.Va
