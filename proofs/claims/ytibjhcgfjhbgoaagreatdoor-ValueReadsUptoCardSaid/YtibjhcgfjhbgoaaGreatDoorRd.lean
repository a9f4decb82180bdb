/-
  Contract of the reference's Read.
-/
import Derived.Test.YtibjhcgfjhbgoaaGreatDoorRl
import Derived.Test.YtibjhcgfjhbgoaaGreatDoorTt
import Derived.Test.YtibjhcgfjhbgoaaGreatDoorSy
import Derived.Deep.RegionHeld3
namespace Go.Proofs.YtibjhcgfjhbgoaaGreatDoor.Va
open Go Go.RowKit Mp

theorem ext_tail (s : ByteArray) : (s.extract 1 s.size).data.toList = s.data.toList.drop 1 := by
  rw [Lib.extract_data, List.take_of_length_le (by rw [List.length_drop, show s.data.toList.length = s.size from Array.length_toList]; exact Nat.le_refl _)]
theorem ext_tail_size (s : ByteArray) (h : s.size < 4294967281) : (s.extract 1 s.size).size < 4294967281 := by
  have h1 := congrArg List.length (ext_tail s)
  rw [List.length_drop, show (s.extract 1 s.size).data.toList.length = (s.extract 1 s.size).size from Array.length_toList, show s.data.toList.length = s.size from Array.length_toList] at h1
  omega
theorem Sx0.drew {W : World} {L : List (Nat × Array Value × TypeId)} {w : World} (h : Sx0 W L w) : Sx0 W L w.drew := h.step (Below.refl _ _).drew
set_option maxRecDepth 5000 in
set_option maxHeartbeats 4000000 in
theorem refRead_any (s : ByteArray) (hs : s.size < 4294967281) (w : World) : Calls Tryz.prog 15 #[.string s] w (TupB (rr3 s.data.toList) w) := by
  have RA := Lib.hid (fun w => readLit_any s hs w)
  have RB := Lib.hid (fun w => readLit_any (s.extract 1 s.size) (ext_tail_size s hs) w)
  rw [ext_tail] at RB
  have hs0 := Lib.hid ((Sx0.init w).add #[.int .i64 0, .int .i64 0, .string ⟨#[]⟩] 23)
  have hln : s.data.toList.length = s.size := Array.length_toList
  generalize hR : rr3 s.data.toList = R
  unfold rr3 at hR
  rw [hln] at hR
  generalize rl3 s.data.toList = r1 at *
  generalize rl3 (s.data.toList.drop 1) = r2 at *
  obtain ⟨⟨p1, q1, s1⟩, b1⟩ := r1
  obtain ⟨⟨p2, q2, s2⟩, b2⟩ := r2
  simp only at hR
  have HR := Lib.hid hR
  clear hR hln
  have EU : Hid (s.data.toList = s.toList) := Lib.hid (ByteArray.toList_eq s).symm
  go_enter Tryz.func15, Tryz.ntmps15
  go_wp2_with fail
  refine (RA.out _).mono ?_
  rintro e w1 ⟨rfl, hb⟩
  replace hs0 := Lib.hid (hs0.out.step hb)
  clear hb
  unfold V3.val vv
  simp only
  replace hs0 := Lib.hid (hs0.out.add #[.int .i64 p1, .int .i64 q1, .string s1] 23)
  obtain ⟨k0, k1, k2, kf, kz⟩ := hs0.out.res _ _ _ _ _ (.tail _ (.head _))
  cases b1
  · cases hu : s.toList == [117, 110, 115, 101, 116]
    · by_cases h2 : s.size < 2
      · have i2 : (s.size : Int) < 2 := by omega
        have E : Hid ((z3, false) = R) := Lib.hid (by rw [← HR.out, if_neg (by decide), if_neg (by rw [EU.out]; unfold unsetL; simpa using hu), if_pos h2])
        go_wp2_with fail
        rw [← E.out]
        exact bodyPost_ret (v := .tuple #[zv, .bool false]) (by simp [results, Tryz.results15, go_sem, vv, es, zv, k0, k1, k2]) rfl ⟨rfl, setres hs0.out.be _ _ _⟩
      · have i2 : (2 : Int) ≤ s.size := by omega
        have HR2 := Lib.hid (HR.out)
        rw [if_neg (by decide), if_neg (by rw [EU.out]; unfold unsetL; simpa using hu), if_neg h2] at HR2
        clear k0 k1 k2 kf kz HR
        go_wp2_with fail
        refine (RB.out _).mono ?_
        rintro e w2 ⟨rfl, hb⟩
        replace hs0 := Lib.hid (hs0.out.step hb)
        clear hb
        unfold V3.val vv
        simp only
        replace hs0 := Lib.hid (hs0.out.add #[.int .i64 p2, .int .i64 q2, .string s2] 23)
        obtain ⟨k0, k1, k2, kf, kz⟩ := hs0.out.res _ _ _ _ _ (.tail _ (.tail _ (.head _)))
        obtain ⟨d0, d1, d2⟩ : _ ∧ _ ∧ _ := ⟨hs0.out.cell w2.heap.size _ _ (.head _) 0 _ rfl, hs0.out.cell w2.heap.size _ _ (.head _) 1 _ rfl, hs0.out.cell w2.heap.size _ _ (.head _) 2 _ rfl⟩
        cases b2
        · have E : Hid ((z3, false) = R) := Lib.hid (by rw [← HR2.out, if_pos (.inl rfl)])
          go_wp2_with fail
          rw [← E.out]
          exact bodyPost_ret (v := .tuple #[zv, .bool false]) (by simp [results, Tryz.results15, go_sem, vv, es, zv, k0, k1, k2]) rfl ⟨rfl, setres hs0.out.be _ _ _⟩
        by_cases h3 : p2 = 3
        · subst h3
          have HR3 := Lib.hid (HR2.out)
          rw [if_neg (by simp)] at HR3
          clear k0 k1 k2 kf kz HR2
          go_wp2_with fail
          clear d0 d1 d2
          replace hs0 := Lib.hid (hs0.out.add #[.int .i64 5, .int .i64 6] 3)
          simp only [World.size_alloc] at hs0
          obtain ⟨wo, hwo⟩ : ∃ wo : World, wo = (w2.alloc (.cells #[.int .i64 3, .int .i64 q2, .string s2] 23)).alloc (.cells #[.int .i64 5, .int .i64 6] 3) := ⟨_, rfl⟩
          rw [← hwo] at hs0 ⊢
          obtain ⟨K, hK⟩ : ∃ K : Nat, K = w2.heap.size + 1 := ⟨_, rfl⟩
          rw [← hK] at hs0 ⊢
          clear hwo hK
          go_loopw [9] (fun i wr => (i = .int .i64 0 ∧ Hid ((if text3 (5, q2, es) = s.data.toList then ((5, q2, es), true) else if text3 (6, q2, es) = s.data.toList then ((6, q2, es), true) else (z3, false)) = R) ∧ Hid (Sx0 w [(K, #[.int .i64 5, .int .i64 6], 3), (w2.heap.size, #[.int .i64 3, .int .i64 q2, .string s2], 23), (w.heap.size, #[.int .i64 0, .int .i64 0, .string ⟨#[]⟩], 23)] wr)) ∨ (i = .int .i64 1 ∧ Hid ((if text3 (6, q2, es) = s.data.toList then ((6, q2, es), true) else (z3, false)) = R) ∧ Hid (Sx0 w [(K, #[.int .i64 5, .int .i64 6], 3), (w2.heap.size, #[.int .i64 3, .int .i64 q2, .string s2], 23), (w.heap.size, #[.int .i64 0, .int .i64 0, .string ⟨#[]⟩], 23)] wr)) ∨ (i = .int .i64 2 ∧ Hid ((z3, false) = R) ∧ Hid (Sx0 w [(K, #[.int .i64 5, .int .i64 6], 3), (w2.heap.size, #[.int .i64 3, .int .i64 q2, .string s2], 23), (w.heap.size, #[.int .i64 0, .int .i64 0, .string ⟨#[]⟩], 23)] wr))) (fun i _ => 2 - (intOf i).toNat)
          case atStart => exact .inl ⟨rfl, HR3, Lib.hid (hs0.out.drop (fun p hp => by simp only [List.mem_cons, List.not_mem_nil, or_false] at hp ⊢; rcases hp with rfl | rfl | rfl <;> simp))⟩
          case round =>
            clear hs0
            rcases hrel with ⟨rfl, hr, hs0⟩ | ⟨rfl, hr, hs0⟩ | ⟨rfl, hr, hs0⟩
            · have x0 : wr.cell? ⟨K, 0, none⟩ = some (.int .i64 5) := hs0.out.cell K _ _ (.head _) 0 _ rfl
              have x1 : wr.cell? ⟨w2.heap.size, 1, none⟩ = some (.int .i64 q2) := hs0.out.cell w2.heap.size _ _ (.tail _ (.head _)) 1 _ rfl
              go_wp2_with fail
              go_region_held3 (fun w' => w'.cell? ⟨K, 0, none⟩ = some (.int .i64 5) ∧ w'.cell? ⟨w2.heap.size, 1, none⟩ = some (.int .i64 q2)) (first | (with_reducible exact ⟨x0, x1⟩) | (refine ⟨?_, ?_⟩ <;> (repeat (first | (with_reducible assumption) | (with_reducible refine keepD ?_) | (with_reducible refine keepA ?_ _))) <;> done)) (fail)
              replace hs0 := Lib.hid ((hs0.out.add #[.int .i64 5, .int .i64 q2, .string ⟨#[]⟩] 23).drew)
              clear x0 x1
              have c0 := hs0.out.cell wr.heap.size _ _ (.head _) 0 _ rfl
              have c1 := hs0.out.cell wr.heap.size _ _ (.head _) 1 _ rfl
              have c2 := hs0.out.cell wr.heap.size _ _ (.head _) 2 _ rfl
              have TC := Lib.hid (fun w => refText_any (5, q2, es) es_le w)
              unfold LitOf V3.val vv es at TC
              simp only at TC
              have PT : Hid (((bs (text3 (5, q2, ⟨#[]⟩))).toList == s.toList) = decide (text3 (5, q2, es) = s.data.toList)) := Lib.hid (by rw [bs_toList, ByteArray.toList_eq]; rw [Bool.eq_iff_iff, beq_iff_eq, decide_eq_true_iff]; exact Iff.rfl)
              generalize bs (text3 (5, q2, ⟨#[]⟩)) = t at *
              go_wp2_with fail
              refine (TC.out _).mono ?_
              rintro e v1 ⟨rfl, hb⟩
              replace hs0 := Lib.hid (hs0.out.step hb)
              clear hb c0 c1 c2
              cases ht : t.toList == s.toList
              · have HN : Hid ((if text3 (6, q2, es) = s.data.toList then ((6, q2, es), true) else (z3, false)) = R) := Lib.hid (by rw [← hr.out, if_neg (of_decide_eq_false (PT.out.symm.trans ht))])
                clear PT
                have HS := Lib.hid (hs0.out.drop (L' := [(K, #[.int .i64 5, .int .i64 6], 3), (w2.heap.size, #[.int .i64 3, .int .i64 q2, .string s2], 23), (w.heap.size, #[.int .i64 0, .int .i64 0, .string ⟨#[]⟩], 23)]) (fun p hp => .tail _ hp))
                go_wp2_with fail
                refine ⟨.inr (.inl ⟨rfl, HN, HS⟩), by simp [intOf]⟩
              · have E : Hid (((5, q2, es), true) = R) := Lib.hid (by rw [← hr.out, if_pos (of_decide_eq_true (PT.out.symm.trans ht))])
                clear PT
                have c0 := hs0.out.cell wr.heap.size _ _ (.head _) 0 _ rfl
                have c1 := hs0.out.cell wr.heap.size _ _ (.head _) 1 _ rfl
                have c2 := hs0.out.cell wr.heap.size _ _ (.head _) 2 _ rfl
                obtain ⟨k0, k1, k2, kf, kz⟩ := hs0.out.res _ _ _ _ _ (.tail _ (.tail _ (.tail _ (.head _))))
                go_wp2_with fail
                rw [← E.out]
                exact bodyPost_ret (v := .tuple #[vv 5 q2 es, .bool true]) (by simp [results, Tryz.results15, go_sem, vv, es, k0, k1, k2]) rfl ⟨rfl, setres hs0.out.be _ _ _⟩
            · have x0 : wr.cell? ⟨K, 1, none⟩ = some (.int .i64 6) := hs0.out.cell K _ _ (.head _) 1 _ rfl
              have x1 : wr.cell? ⟨w2.heap.size, 1, none⟩ = some (.int .i64 q2) := hs0.out.cell w2.heap.size _ _ (.tail _ (.head _)) 1 _ rfl
              go_wp2_with fail
              go_region_held3 (fun w' => w'.cell? ⟨K, 1, none⟩ = some (.int .i64 6) ∧ w'.cell? ⟨w2.heap.size, 1, none⟩ = some (.int .i64 q2)) (first | (with_reducible exact ⟨x0, x1⟩) | (refine ⟨?_, ?_⟩ <;> (repeat (first | (with_reducible assumption) | (with_reducible refine keepD ?_) | (with_reducible refine keepA ?_ _))) <;> done)) (fail)
              replace hs0 := Lib.hid ((hs0.out.add #[.int .i64 6, .int .i64 q2, .string ⟨#[]⟩] 23).drew)
              clear x0 x1
              have c0 := hs0.out.cell wr.heap.size _ _ (.head _) 0 _ rfl
              have c1 := hs0.out.cell wr.heap.size _ _ (.head _) 1 _ rfl
              have c2 := hs0.out.cell wr.heap.size _ _ (.head _) 2 _ rfl
              have TC := Lib.hid (fun w => refText_any (6, q2, es) es_le w)
              unfold LitOf V3.val vv es at TC
              simp only at TC
              have PT : Hid (((bs (text3 (6, q2, ⟨#[]⟩))).toList == s.toList) = decide (text3 (6, q2, es) = s.data.toList)) := Lib.hid (by rw [bs_toList, ByteArray.toList_eq]; rw [Bool.eq_iff_iff, beq_iff_eq, decide_eq_true_iff]; exact Iff.rfl)
              generalize bs (text3 (6, q2, ⟨#[]⟩)) = t at *
              go_wp2_with fail
              refine (TC.out _).mono ?_
              rintro e v1 ⟨rfl, hb⟩
              replace hs0 := Lib.hid (hs0.out.step hb)
              clear hb c0 c1 c2
              cases ht : t.toList == s.toList
              · have HN : Hid ((z3, false) = R) := Lib.hid (by rw [← hr.out, if_neg (of_decide_eq_false (PT.out.symm.trans ht))])
                clear PT
                have HS := Lib.hid (hs0.out.drop (L' := [(K, #[.int .i64 5, .int .i64 6], 3), (w2.heap.size, #[.int .i64 3, .int .i64 q2, .string s2], 23), (w.heap.size, #[.int .i64 0, .int .i64 0, .string ⟨#[]⟩], 23)]) (fun p hp => .tail _ hp))
                go_wp2_with fail
                refine ⟨.inr (.inr ⟨rfl, HN, HS⟩), by simp [intOf]⟩
              · have E : Hid (((6, q2, es), true) = R) := Lib.hid (by rw [← hr.out, if_pos (of_decide_eq_true (PT.out.symm.trans ht))])
                clear PT
                have c0 := hs0.out.cell wr.heap.size _ _ (.head _) 0 _ rfl
                have c1 := hs0.out.cell wr.heap.size _ _ (.head _) 1 _ rfl
                have c2 := hs0.out.cell wr.heap.size _ _ (.head _) 2 _ rfl
                obtain ⟨k0, k1, k2, kf, kz⟩ := hs0.out.res _ _ _ _ _ (.tail _ (.tail _ (.tail _ (.head _))))
                go_wp2_with fail
                rw [← E.out]
                exact bodyPost_ret (v := .tuple #[vv 6 q2 es, .bool true]) (by simp [results, Tryz.results15, go_sem, vv, es, k0, k1, k2]) rfl ⟨rfl, setres hs0.out.be _ _ _⟩
            · obtain ⟨k0, k1, k2, kf, kz⟩ := hs0.out.res _ _ _ _ _ (.tail _ (.tail _ (.head _)))
              go_wp2_with fail
              rw [← hr.out]
              exact bodyPost_ret (v := .tuple #[zv, .bool false]) (by simp [results, Tryz.results15, go_sem, vv, es, zv, k0, k1, k2]) rfl ⟨rfl, setres hs0.out.be _ _ _⟩
        · have n3 : (p2 != 3) = true := by simpa using h3
          have E : Hid ((z3, false) = R) := Lib.hid (by rw [← HR2.out, if_pos (.inr h3)])
          go_wp2_with fail
          rw [← E.out]
          exact bodyPost_ret (v := .tuple #[zv, .bool false]) (by simp [results, Tryz.results15, go_sem, vv, es, zv, k0, k1, k2]) rfl ⟨rfl, setres hs0.out.be _ _ _⟩
    · have E : Hid ((z3, true) = R) := Lib.hid (by rw [← HR.out, if_neg (by decide), if_pos (by rw [EU.out]; unfold unsetL; simpa using hu)])
      go_wp2_with fail
      rw [← E.out]
      exact bodyPost_ret (v := .tuple #[zv, .bool true]) (by simp [results, Tryz.results15, go_sem, vv, es, zv, k0, k1, k2]) rfl ⟨rfl, setres hs0.out.be _ _ _⟩
  · have E : Hid (((p1, q1, s1), true) = R) := Lib.hid (by rw [← HR.out, if_pos rfl])
    go_wp2_with fail
    rw [← E.out]
    exact bodyPost_ret (v := .tuple #[vv p1 q1 s1, .bool true]) (by simp [results, Tryz.results15, go_sem, vv, k0, k1, k2]) rfl ⟨rfl, setres hs0.out.be _ _ _⟩
end Go.Proofs.YtibjhcgfjhbgoaaGreatDoor.Va
