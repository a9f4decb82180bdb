/-
  The walk of ValueUnary.
-/
import Derived.Test.YtfgdloliconbaaaGreatDoorRb
import Derived.Test.YtfgdloliconbaaaGreatDoorSx
import Derived.Deep.RegionHeld3
namespace Go.Proofs.YtfgdloliconbaaaGreatDoor.Va
open Go Go.RowKit Mp

/-- The loop's values: what is made, what came in, and what came in with another Kind. -/
def three (a b c : V3) : Array Value := #[.int .i64 a.1, .int .i64 a.2.1, .string a.2.2, .int .i64 b.1, .int .i64 b.2.1, .string b.2.2, .int .i64 c.1, .int .i64 c.2.1, .string c.2.2]
set_option maxRecDepth 5000 in
set_option maxHeartbeats 8000000 in
theorem unary_walk (op n : Int) (raw : V3) (h1 : -9223372036854775808 ≤ n) (h2 : n ≤ 9223372036854775807) (hm : raw.2.2.size ≤ maxLen) (w : World) (hG : Gl w) :
    Calls Tryz.prog 5 #[.int .i64 op, .int .i64 n, raw.val] w fun e w' => e = .returned (.bool true) ∧ Below w.heap.size w w' := by
  obtain ⟨rk, rn, rs⟩ := raw
  have HM := Lib.hid hm
  have MD := Lib.hid (made_any n h1 h2)
  have ML := Lib.hid (made_len n)
  generalize made3 n = mv at *
  obtain ⟨mk, mn, ms⟩ := mv
  replace MD : Hid (∀ w, Calls Tryz.prog 10 #[.int .i64 n] w fun e w' => e = .returned (.agg #[.int .i64 mk, .int .i64 mn, .string ms]) ∧ Below w.heap.size w w') := MD
  have hs := Lib.hid ((Sx.init hG).add #[.int .i64 rk, .int .i64 rn, .string rs] 23)
  clear hm h1 h2 hG
  unfold V3.val vv
  simp only
  go_enter Tryz.func5, Tryz.ntmps5
  go_wp2_with fail
  refine (sanity_any _ hs.out.gl).mono ?_
  rintro e w1 ⟨rfl, hb⟩
  replace hs := Lib.hid ((hs.out.step hb).add #[.int .i64 op, .int .i64 3, .int .i64 4] 3)
  clear hb
  go_wp2_with fail
  obtain ⟨wo, hwo⟩ : ∃ wo : World, wo = w1.alloc (.cells #[.int .i64 op, .int .i64 3, .int .i64 4] 3) := ⟨_, rfl⟩
  rw [← hwo] at hs ⊢
  obtain ⟨B, hB⟩ : ∃ B : Nat, B = w1.heap.size := ⟨_, rfl⟩
  rw [← hB] at hs ⊢
  clear hwo hB
  go_loopw [24] (fun i wr => ∃ k : Nat, k ≤ 3 ∧ i = .int .i64 k ∧ Hid (Sx w [(B, #[.int .i64 op, .int .i64 3, .int .i64 4], 3), (w.heap.size, #[.int .i64 rk, .int .i64 rn, .string rs], 23)] wr)) (fun i _ => 3 - (intOf i).toNat)
  case atStart => exact ⟨0, by omega, by simp, hs⟩
  case round =>
    obtain ⟨k, hk, rfl, hs⟩ := hrel
    rcases Nat.lt_or_ge k 3 with h3 | h3
    · obtain ⟨o, ho⟩ : ∃ o : Int, wr.cell? ⟨B, k, none⟩ = some (.int .i64 o) := by
        rcases (show k = 0 ∨ k = 1 ∨ k = 2 by omega) with rfl | rfl | rfl
        · exact ⟨_, hs.out.cell B _ _ (.head _) 0 _ rfl⟩
        · exact ⟨_, hs.out.cell B _ _ (.head _) 1 _ rfl⟩
        · exact ⟨_, hs.out.cell B _ _ (.head _) 2 _ rfl⟩
      have hk3 : (k : Int) < 3 := by omega
      obtain ⟨r0, r1, r2⟩ := hs.out.c3 w.heap.size _ _ _ _ (.tail _ (.head _))
      go_wp2_with fail
      replace hs := Lib.hid hs.out.drew
      clear r0 r1 r2 ho
      obtain ⟨r0, r1, r2⟩ := hs.out.c3 w.heap.size _ _ _ _ (.tail _ (.head _))
      go_region_held3 (fun w' => w'.cell? ⟨w.heap.size, 0, none⟩ = some (.int .i64 rk) ∧ w'.cell? ⟨w.heap.size, 1, none⟩ = some (.int .i64 rn) ∧ w'.cell? ⟨w.heap.size, 2, none⟩ = some (.string rs)) (first | exact ⟨r0, r1, r2⟩ | exact (hs.out.alloc _).c3 w.heap.size _ _ _ _ (.tail _ (.head _))) ((go_at_call 10; refine (MD.out _).mono ?_; rintro e w2 ⟨rfl, hb⟩; replace hs := Lib.hid (hs.out.step hb); clear hb; clear r0 r1 r2; obtain ⟨r0, r1, r2⟩ := hs.out.c3 w.heap.size _ _ _ _ (.tail _ (.head _))))
      generalize bits BinOp.and IntKind.i64 rk 7 = z at *
      replace hs := Lib.hid (hs.out.add #[.int .i64 mk, .int .i64 mn, .string ms, .int .i64 rk, .int .i64 rn, .string rs, .int .i64 z, .int .i64 rn, .string ⟨#[]⟩] 23)
      clear r0 r1 r2
      obtain ⟨wi, hwi⟩ : ∃ wi : World, wi = w2.alloc (.cells #[.int .i64 mk, .int .i64 mn, .string ms, .int .i64 rk, .int .i64 rn, .string rs, .int .i64 z, .int .i64 rn, .string ⟨#[]⟩] 23) := ⟨_, rfl⟩
      rw [← hwi] at hs ⊢
      obtain ⟨C, hC⟩ : ∃ C : Nat, C = w2.heap.size := ⟨_, rfl⟩
      rw [← hC] at hs ⊢
      clear hwi hC
      go_wp2_with fail
      go_loopw [39] (fun i wq => ∃ k : Nat, k ≤ 3 ∧ i = .int .i64 k ∧ Hid (Sx w [(C, #[.int .i64 mk, .int .i64 mn, .string ms, .int .i64 rk, .int .i64 rn, .string rs, .int .i64 z, .int .i64 rn, .string ⟨#[]⟩], 23), (B, #[.int .i64 op, .int .i64 3, .int .i64 4], 3), (w.heap.size, #[.int .i64 rk, .int .i64 rn, .string rs], 23)] wq)) (fun i _ => 3 - (intOf i).toNat)
      case atStart => exact ⟨0, by omega, by simp, hs⟩
      case round =>
        clear hs
        obtain ⟨j, hj, rfl, hs⟩ := hrel
        rcases Nat.lt_or_ge j 3 with j3 | j3
        · rcases (show j = 0 ∨ j = 1 ∨ j = 2 by omega) with rfl | rfl | rfl
          · have c0 := hs.out.cell C _ _ (.head _) 0 _ rfl
            have c1 := hs.out.cell C _ _ (.head _) 1 _ rfl
            have c2 := hs.out.cell C _ _ (.head _) 2 _ rfl
            go_wp2_with fail
            clear c0 c1 c2
            replace hs := Lib.hid (hs.out.add #[.int .i64 mk, .int .i64 mn, .string ms] 23)
            refine (unary_any o (mk, mn, ms) _ hs.out.gl.bnds ML.out).mono ?_
            rintro e v1 ⟨rfl, hb⟩
            replace hs := Lib.hid (hs.out.step hb)
            clear hb
            generalize hu : un o (mk, mn, ms) = r
            obtain ⟨⟨p, q, s⟩, f⟩ := r
            have HU := Lib.hid hu
            clear hu
            unfold V3.val vv
            simp only
            replace hs := Lib.hid (hs.out.add #[.int .i64 p, .int .i64 q, .string s] 23)
            obtain ⟨d0, d1, d2⟩ := hs.out.c3 wr.heap.size _ _ _ _ (.tail _ (.head _))
            go_wp2_with fail
            refine (refUnary_any o (mk, mn, ms) _ ML.out).mono ?_
            rw [HU.out]
            rintro e v2 ⟨rfl, hb⟩
            replace hs := Lib.hid (hs.out.step hb)
            clear hb
            clear d0 d1 d2
            unfold V3.val vv
            simp only
            replace hs := Lib.hid (hs.out.add #[.int .i64 p, .int .i64 q, .string s] 23)
            obtain ⟨d0, d1, d2⟩ := hs.out.c3 wr.heap.size _ _ _ _ (.tail _ (.tail _ (.head _)))
            go_wp2_with fail
            refine (truth3_any (mk, mn, ms) _ hs.out.gl.bnds ML.out).mono ?_
            rintro e v3 ⟨rfl, hb⟩
            replace hs := Lib.hid (hs.out.step hb)
            clear hb
            clear d0 d1 d2
            generalize ht : truth3 (mk, mn, ms) = tt
            obtain ⟨yes, ok⟩ := tt
            have HT := Lib.hid ht
            clear ht
            obtain ⟨d0, d1, d2⟩ := hs.out.c3 wr.heap.size _ _ _ _ (.tail _ (.tail _ (.head _)))
            go_wp2_with fail
            refine (refTruth_any (mk, mn, ms) _ ML.out).mono ?_
            rw [HT.out]
            rintro e v4 ⟨rfl, hb⟩
            replace hs := Lib.hid (hs.out.step hb)
            clear hb
            clear d0 d1 d2
            obtain ⟨d0, d1, d2⟩ := hs.out.c3 v1.heap.size _ _ _ _ (.tail _ (.head _))
            obtain ⟨g0, g1, g2⟩ := hs.out.c3 v2.heap.size _ _ _ _ (.head _)
            have hv := run_vrefl p q s
            go_wp2_with fail
            refine ⟨⟨0 + 1, by omega, by simp, Lib.hid (hs.out.drop (fun p hp => .tail _ (.tail _ (.tail _ hp))))⟩, by simp [intOf]⟩
          · have c0 := hs.out.cell C _ _ (.head _) 3 _ rfl
            have c1 := hs.out.cell C _ _ (.head _) 4 _ rfl
            have c2 := hs.out.cell C _ _ (.head _) 5 _ rfl
            go_wp2_with fail
            clear c0 c1 c2
            replace hs := Lib.hid (hs.out.add #[.int .i64 rk, .int .i64 rn, .string rs] 23)
            refine (unary_any o (rk, rn, rs) _ hs.out.gl.bnds HM.out).mono ?_
            rintro e v1 ⟨rfl, hb⟩
            replace hs := Lib.hid (hs.out.step hb)
            clear hb
            generalize hu : un o (rk, rn, rs) = r
            obtain ⟨⟨p, q, s⟩, f⟩ := r
            have HU := Lib.hid hu
            clear hu
            unfold V3.val vv
            simp only
            replace hs := Lib.hid (hs.out.add #[.int .i64 p, .int .i64 q, .string s] 23)
            obtain ⟨d0, d1, d2⟩ := hs.out.c3 wr.heap.size _ _ _ _ (.tail _ (.head _))
            go_wp2_with fail
            refine (refUnary_any o (rk, rn, rs) _ HM.out).mono ?_
            rw [HU.out]
            rintro e v2 ⟨rfl, hb⟩
            replace hs := Lib.hid (hs.out.step hb)
            clear hb
            clear d0 d1 d2
            unfold V3.val vv
            simp only
            replace hs := Lib.hid (hs.out.add #[.int .i64 p, .int .i64 q, .string s] 23)
            obtain ⟨d0, d1, d2⟩ := hs.out.c3 wr.heap.size _ _ _ _ (.tail _ (.tail _ (.head _)))
            go_wp2_with fail
            refine (truth3_any (rk, rn, rs) _ hs.out.gl.bnds HM.out).mono ?_
            rintro e v3 ⟨rfl, hb⟩
            replace hs := Lib.hid (hs.out.step hb)
            clear hb
            clear d0 d1 d2
            generalize ht : truth3 (rk, rn, rs) = tt
            obtain ⟨yes, ok⟩ := tt
            have HT := Lib.hid ht
            clear ht
            obtain ⟨d0, d1, d2⟩ := hs.out.c3 wr.heap.size _ _ _ _ (.tail _ (.tail _ (.head _)))
            go_wp2_with fail
            refine (refTruth_any (rk, rn, rs) _ HM.out).mono ?_
            rw [HT.out]
            rintro e v4 ⟨rfl, hb⟩
            replace hs := Lib.hid (hs.out.step hb)
            clear hb
            clear d0 d1 d2
            obtain ⟨d0, d1, d2⟩ := hs.out.c3 v1.heap.size _ _ _ _ (.tail _ (.head _))
            obtain ⟨g0, g1, g2⟩ := hs.out.c3 v2.heap.size _ _ _ _ (.head _)
            have hv := run_vrefl p q s
            go_wp2_with fail
            refine ⟨⟨1 + 1, by omega, by simp, Lib.hid (hs.out.drop (fun p hp => .tail _ (.tail _ (.tail _ hp))))⟩, by simp [intOf]⟩
          · have c0 := hs.out.cell C _ _ (.head _) 6 _ rfl
            have c1 := hs.out.cell C _ _ (.head _) 7 _ rfl
            have c2 := hs.out.cell C _ _ (.head _) 8 _ rfl
            go_wp2_with fail
            clear c0 c1 c2
            replace hs := Lib.hid (hs.out.add #[.int .i64 z, .int .i64 rn, .string ⟨#[]⟩] 23)
            refine (unary_any o (z, rn, ⟨#[]⟩) _ hs.out.gl.bnds es_le).mono ?_
            rintro e v1 ⟨rfl, hb⟩
            replace hs := Lib.hid (hs.out.step hb)
            clear hb
            generalize hu : un o (z, rn, ⟨#[]⟩) = r
            obtain ⟨⟨p, q, s⟩, f⟩ := r
            have HU := Lib.hid hu
            clear hu
            unfold V3.val vv
            simp only
            replace hs := Lib.hid (hs.out.add #[.int .i64 p, .int .i64 q, .string s] 23)
            obtain ⟨d0, d1, d2⟩ := hs.out.c3 wr.heap.size _ _ _ _ (.tail _ (.head _))
            go_wp2_with fail
            refine (refUnary_any o (z, rn, ⟨#[]⟩) _ es_le).mono ?_
            rw [HU.out]
            rintro e v2 ⟨rfl, hb⟩
            replace hs := Lib.hid (hs.out.step hb)
            clear hb
            clear d0 d1 d2
            unfold V3.val vv
            simp only
            replace hs := Lib.hid (hs.out.add #[.int .i64 p, .int .i64 q, .string s] 23)
            obtain ⟨d0, d1, d2⟩ := hs.out.c3 wr.heap.size _ _ _ _ (.tail _ (.tail _ (.head _)))
            go_wp2_with fail
            refine (truth3_any (z, rn, ⟨#[]⟩) _ hs.out.gl.bnds es_le).mono ?_
            rintro e v3 ⟨rfl, hb⟩
            replace hs := Lib.hid (hs.out.step hb)
            clear hb
            clear d0 d1 d2
            generalize ht : truth3 (z, rn, ⟨#[]⟩) = tt
            obtain ⟨yes, ok⟩ := tt
            have HT := Lib.hid ht
            clear ht
            obtain ⟨d0, d1, d2⟩ := hs.out.c3 wr.heap.size _ _ _ _ (.tail _ (.tail _ (.head _)))
            go_wp2_with fail
            refine (refTruth_any (z, rn, ⟨#[]⟩) _ es_le).mono ?_
            rw [HT.out]
            rintro e v4 ⟨rfl, hb⟩
            replace hs := Lib.hid (hs.out.step hb)
            clear hb
            clear d0 d1 d2
            obtain ⟨d0, d1, d2⟩ := hs.out.c3 v1.heap.size _ _ _ _ (.tail _ (.head _))
            obtain ⟨g0, g1, g2⟩ := hs.out.c3 v2.heap.size _ _ _ _ (.head _)
            have hv := run_vrefl p q s
            go_wp2_with fail
            refine ⟨⟨2 + 1, by omega, by simp, Lib.hid (hs.out.drop (fun p hp => .tail _ (.tail _ (.tail _ hp))))⟩, by simp [intOf]⟩
        · obtain rfl : j = 3 := by omega
          go_wp2_with fail
          refine ⟨⟨k + 1, by omega, by simp, Lib.hid (hs.out.drop (fun p hp => .tail _ hp))⟩, by simp [intOf]; omega⟩
    · obtain rfl : k = 3 := by omega
      go_wp2_with fail
      go_ret
      exact ⟨rfl, hs.out.be⟩
end Go.Proofs.YtfgdloliconbaaaGreatDoor.Va
