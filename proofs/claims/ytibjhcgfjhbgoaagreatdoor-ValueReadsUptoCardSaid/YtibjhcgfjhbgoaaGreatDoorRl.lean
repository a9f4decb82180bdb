/-
  Contract of the reference's ReadLiteral.
-/
import Derived.Test.YtibjhcgfjhbgoaaGreatDoorRn
import Derived.Deep.DeepCutAuto
namespace Go.Proofs.YtibjhcgfjhbgoaaGreatDoor.Va
open Go Go.RowKit Mp

theorem Sx0.cell {W : World} {L : List (Nat × Array Value × TypeId)} {w : World} (h : Sx0 W L w) (b : Nat) (c : Array Value) (T : TypeId) (hp : (b, c, T) ∈ L) (j : Nat) (v : Value) (hv : c[j]? = some v) : w.cell? ⟨b, j, none⟩ = some v := by
  rw [(h.own _ hp).cell j]; exact hv
theorem Sx0.drop {W : World} {L L' : List (Nat × Array Value × TypeId)} {w : World} (h : Sx0 W L w) (hs : ∀ p, p ∈ L' → p ∈ L) : Sx0 W L' w := ⟨h.be, fun p hp => h.own p (hs p hp)⟩
theorem Sx0.lt {W : World} {L : List (Nat × Array Value × TypeId)} {w : World} (h : Sx0 W L w) (b : Nat) (c : Array Value) (T : TypeId) (hp : (b, c, T) ∈ L) : b < w.heap.size := (h.own _ hp).lt
def TupB (r : V3 × Bool) (w : World) (e : Ending) (w' : World) : Prop := e = .returned (.tuple #[r.1.val, .bool r.2]) ∧ Below w.heap.size w w'
theorem innL_len : ∀ l : List UInt8, (innL l).length ≤ l.length
  | [] => by simp [innL]
  | [_] => by simp [innL]
  | c :: d :: r => by
    rw [innL_two]
    have h1 := innL_len r
    have h2 := innL_len (d :: r)
    by_cases h : c = 39
    · rw [if_pos h]; simp; omega
    · rw [if_neg h]; simp at h2 ⊢; omega
theorem inn_size (s : ByteArray) (hs : s.size < 4294967281) : (bs (innL (s.data.toList.drop 1))).size ≤ maxLen := by
  rw [bs_size]
  have h1 := innL_len (s.data.toList.drop 1)
  rw [List.length_drop, show s.data.toList.length = s.size from Array.length_toList] at h1
  unfold maxLen; omega
theorem pick_of {s t : ByteArray} {v : V3} (he : s.toList.isEmpty = false) (h : t = bs (lit3 v)) : pick3 s.data.toList v = (t.toList == s.toList) := by
  unfold pick3
  rw [ByteArray.toList_eq] at he
  rw [he, h, bs_toList, ByteArray.toList_eq]; rfl
set_option maxRecDepth 5000 in
theorem readLit_empty (s : ByteArray) (he : s.toList.isEmpty = true) (hs : s.size < 4294967281) (w : World) :
    Calls Tryz.prog 35 #[.string s] w fun e w' => e = .returned (.tuple #[zv, .bool false]) ∧ Below w.heap.size w w' := by
  have NC := Lib.hid (fun w => number_any' s (by unfold maxLen; omega) w)
  have IC := Lib.hid (fun w => inner_any s hs w)
  have IL := Lib.hid (inn_size s hs)
  have hs0 := Lib.hid ((Sx0.init w).add #[.int .i64 0, .int .i64 0, .string ⟨#[]⟩] 23)
  generalize hq : cands s.data.toList = q
  unfold cands at hq
  generalize num s.data.toList = nn at *
  generalize bs (innL (s.data.toList.drop 1)) = ii at *
  clear hq
  go_enter Tryz.func35, Tryz.ntmps35
  go_wp2_with (first | (go_at_call 49; refine (NC.out _).mono ?_; rintro e w' ⟨rfl, rfl⟩) | (go_at_call 50; refine (IC.out _).mono ?_; rintro e w' ⟨rfl, rfl⟩))
  replace hs0 := Lib.hid (hs0.out.add #[.int .i64 1, .int .i64 0, .string ⟨#[]⟩, .int .i64 2, .int .i64 0, .string ⟨#[]⟩, .int .i64 2, .int .i64 1, .string ⟨#[]⟩, .int .i64 3, .int .i64 nn, .string ⟨#[]⟩, .int .i64 4, .int .i64 0, .string ii] 23)
  obtain ⟨wo, hwo⟩ : ∃ wo : World, wo = (w.alloc (.cells #[.int .i64 0, .int .i64 0, .string ⟨#[]⟩] 23)).alloc (.cells #[.int .i64 1, .int .i64 0, .string ⟨#[]⟩, .int .i64 2, .int .i64 0, .string ⟨#[]⟩, .int .i64 2, .int .i64 1, .string ⟨#[]⟩, .int .i64 3, .int .i64 nn, .string ⟨#[]⟩, .int .i64 4, .int .i64 0, .string ii] 23) := ⟨_, rfl⟩
  rw [← hwo] at hs0 ⊢
  simp only [World.size_alloc] at hs0
  clear hwo
  go_loopw [5] (fun i wr => ∃ k : Nat, k ≤ 5 ∧ i = .int .i64 k ∧ Hid (Sx0 w [(w.heap.size + 1, #[.int .i64 1, .int .i64 0, .string ⟨#[]⟩, .int .i64 2, .int .i64 0, .string ⟨#[]⟩, .int .i64 2, .int .i64 1, .string ⟨#[]⟩, .int .i64 3, .int .i64 nn, .string ⟨#[]⟩, .int .i64 4, .int .i64 0, .string ii], 23), (w.heap.size, #[.int .i64 0, .int .i64 0, .string ⟨#[]⟩], 23)] wr)) (fun i _ => 5 - (intOf i).toNat)
  case atStart => exact ⟨0, by omega, rfl, hs0⟩
  case round =>
    clear hs0
    obtain ⟨k, hk, rfl, hs0⟩ := hrel
    rcases Nat.lt_or_ge k 5 with h5 | h5
    · have k5 : (k : Int) < 5 := by omega
      go_wp2_with fail
      refine ⟨⟨k + 1, by omega, by go_num, hs0⟩, by simp [intOf]; omega⟩
    · obtain rfl : k = 5 := by omega
      obtain ⟨k0, k1, k2, kf, kz⟩ := hs0.out.res _ _ _ _ _ (.tail _ (.head _))
      go_wp2_with fail
      exact bodyPost_ret (v := .tuple #[zv, .bool false]) (by simp [results, Tryz.results35, go_sem, vv, es, zv, k0, k1, k2]) rfl ⟨rfl, setres hs0.out.be _ _ _⟩
set_option maxRecDepth 5000 in
set_option maxHeartbeats 4000000 in
theorem readLit_full (s : ByteArray) (he : s.toList.isEmpty = false) (hs : s.size < 4294967281) (w : World) :
    Calls Tryz.prog 35 #[.string s] w (TupB (rl3 s.data.toList) w) := by
  unfold rl3
  have P := Lib.hid (fun (t : ByteArray) (v : V3) (h : t = bs (lit3 v)) => pick_of (s := s) he h)
  have NC := Lib.hid (fun w => number_any' s (by unfold maxLen; omega) w)
  have IC := Lib.hid (fun w => inner_any s hs w)
  have IL := Lib.hid (inn_size s hs)
  have hs0 := Lib.hid ((Sx0.init w).add #[.int .i64 0, .int .i64 0, .string ⟨#[]⟩] 23)
  generalize hq : cands s.data.toList = q
  unfold cands at hq
  generalize num s.data.toList = nn at *
  generalize bs (innL (s.data.toList.drop 1)) = ii at *
  subst hq
  generalize hr : find3 s.data.toList [(1, 0, es), (2, 0, es), (2, 1, es), (3, nn, es), (4, 0, ii)] = r
  have hr0 := Lib.hid hr
  clear hr
  go_enter Tryz.func35, Tryz.ntmps35
  go_wp2_with (first | (go_at_call 49; refine (NC.out _).mono ?_; rintro e w' ⟨rfl, rfl⟩) | (go_at_call 50; refine (IC.out _).mono ?_; rintro e w' ⟨rfl, rfl⟩))
  replace hs0 := Lib.hid (hs0.out.add #[.int .i64 1, .int .i64 0, .string ⟨#[]⟩, .int .i64 2, .int .i64 0, .string ⟨#[]⟩, .int .i64 2, .int .i64 1, .string ⟨#[]⟩, .int .i64 3, .int .i64 nn, .string ⟨#[]⟩, .int .i64 4, .int .i64 0, .string ii] 23)
  obtain ⟨wo, hwo⟩ : ∃ wo : World, wo = (w.alloc (.cells #[.int .i64 0, .int .i64 0, .string ⟨#[]⟩] 23)).alloc (.cells #[.int .i64 1, .int .i64 0, .string ⟨#[]⟩, .int .i64 2, .int .i64 0, .string ⟨#[]⟩, .int .i64 2, .int .i64 1, .string ⟨#[]⟩, .int .i64 3, .int .i64 nn, .string ⟨#[]⟩, .int .i64 4, .int .i64 0, .string ii] 23) := ⟨_, rfl⟩
  rw [← hwo] at hs0 ⊢
  simp only [World.size_alloc] at hs0
  clear hwo
  go_loopw [5] (fun i wr => ∃ k : Nat, k ≤ 5 ∧ i = .int .i64 k ∧ Hid (find3 s.data.toList (([(1, 0, es), (2, 0, es), (2, 1, es), (3, nn, es), (4, 0, ii)] : List V3).drop k) = r) ∧ Hid (Sx0 w [(w.heap.size + 1, #[.int .i64 1, .int .i64 0, .string ⟨#[]⟩, .int .i64 2, .int .i64 0, .string ⟨#[]⟩, .int .i64 2, .int .i64 1, .string ⟨#[]⟩, .int .i64 3, .int .i64 nn, .string ⟨#[]⟩, .int .i64 4, .int .i64 0, .string ii], 23), (w.heap.size, #[.int .i64 0, .int .i64 0, .string ⟨#[]⟩], 23)] wr)) (fun i _ => 5 - (intOf i).toNat)
  case atStart => exact ⟨0, by omega, rfl, hr0, hs0⟩
  case round =>
    clear hs0 hr0
    obtain ⟨k, hk, rfl, hr, hs0⟩ := hrel
    rcases Nat.lt_or_ge k 5 with h5 | h5
    · rcases (show k = 0 ∨ k = 1 ∨ k = 2 ∨ k = 3 ∨ k = 4 by omega) with rfl | rfl | rfl | rfl | rfl
      · replace hr : Hid (find3 s.data.toList ((1, 0, es) :: [(2, 0, es), (2, 1, es), (3, nn, es), (4, 0, ii)]) = r) := hr
        have LC := Lib.hid (fun w => literal_any (1, 0, es) es_le w)
        have PP := P.out (bs (lit3 (1, 0, es))) (1, 0, es) rfl
        unfold LitOf at LC
        generalize bs (lit3 (1, 0, es)) = t at *
        unfold V3.val vv es at LC
        simp only at LC
        have c0 := hs0.out.cell (w.heap.size + 1) _ _ (.head _) 0 _ rfl
        have c1 := hs0.out.cell (w.heap.size + 1) _ _ (.head _) 1 _ rfl
        have c2 := hs0.out.cell (w.heap.size + 1) _ _ (.head _) 2 _ rfl
        cases ht : t.toList == s.toList
        · have HR : Hid (find3 s.data.toList [(2, 0, es), (2, 1, es), (3, nn, es), (4, 0, ii)] = r) := Lib.hid ((find3_no (PP.trans ht)).symm.trans hr.out)
          clear PP
          go_wp2_with fail
          refine (LC.out _).mono ?_
          rintro e v1 ⟨rfl, hb⟩
          replace hs0 := Lib.hid (hs0.out.step hb)
          clear hb c0 c1 c2
          go_wp2_with fail
          refine ⟨⟨0 + 1, by omega, by go_num, HR, hs0⟩, by simp [intOf]⟩
        · have HR : Hid (((1, 0, es), true) = r) := Lib.hid ((find3_yes (PP.trans ht)).symm.trans hr.out)
          clear PP
          go_wp2_with fail
          refine (LC.out _).mono ?_
          rintro e v1 ⟨rfl, hb⟩
          replace hs0 := Lib.hid (hs0.out.step hb)
          clear hb c0 c1 c2
          have c0 := hs0.out.cell (w.heap.size + 1) _ _ (.head _) 0 _ rfl
          have c1 := hs0.out.cell (w.heap.size + 1) _ _ (.head _) 1 _ rfl
          have c2 := hs0.out.cell (w.heap.size + 1) _ _ (.head _) 2 _ rfl
          obtain ⟨k0, k1, k2, kf, kz⟩ := hs0.out.res _ _ _ _ _ (.tail _ (.head _))
          go_wp2_with fail
          rw [← HR.out]
          exact bodyPost_ret (v := .tuple #[vv 1 0 es, .bool true]) (by simp [results, Tryz.results35, go_sem, vv, es, k0, k1, k2]) rfl ⟨rfl, setres hs0.out.be _ _ _⟩
      · replace hr : Hid (find3 s.data.toList ((2, 0, es) :: [(2, 1, es), (3, nn, es), (4, 0, ii)]) = r) := hr
        have LC := Lib.hid (fun w => literal_any (2, 0, es) es_le w)
        have PP := P.out (bs (lit3 (2, 0, es))) (2, 0, es) rfl
        unfold LitOf at LC
        generalize bs (lit3 (2, 0, es)) = t at *
        unfold V3.val vv es at LC
        simp only at LC
        have c0 := hs0.out.cell (w.heap.size + 1) _ _ (.head _) 3 _ rfl
        have c1 := hs0.out.cell (w.heap.size + 1) _ _ (.head _) 4 _ rfl
        have c2 := hs0.out.cell (w.heap.size + 1) _ _ (.head _) 5 _ rfl
        cases ht : t.toList == s.toList
        · have HR : Hid (find3 s.data.toList [(2, 1, es), (3, nn, es), (4, 0, ii)] = r) := Lib.hid ((find3_no (PP.trans ht)).symm.trans hr.out)
          clear PP
          go_wp2_with fail
          refine (LC.out _).mono ?_
          rintro e v1 ⟨rfl, hb⟩
          replace hs0 := Lib.hid (hs0.out.step hb)
          clear hb c0 c1 c2
          go_wp2_with fail
          refine ⟨⟨1 + 1, by omega, by go_num, HR, hs0⟩, by simp [intOf]⟩
        · have HR : Hid (((2, 0, es), true) = r) := Lib.hid ((find3_yes (PP.trans ht)).symm.trans hr.out)
          clear PP
          go_wp2_with fail
          refine (LC.out _).mono ?_
          rintro e v1 ⟨rfl, hb⟩
          replace hs0 := Lib.hid (hs0.out.step hb)
          clear hb c0 c1 c2
          have c0 := hs0.out.cell (w.heap.size + 1) _ _ (.head _) 3 _ rfl
          have c1 := hs0.out.cell (w.heap.size + 1) _ _ (.head _) 4 _ rfl
          have c2 := hs0.out.cell (w.heap.size + 1) _ _ (.head _) 5 _ rfl
          obtain ⟨k0, k1, k2, kf, kz⟩ := hs0.out.res _ _ _ _ _ (.tail _ (.head _))
          go_wp2_with fail
          rw [← HR.out]
          exact bodyPost_ret (v := .tuple #[vv 2 0 es, .bool true]) (by simp [results, Tryz.results35, go_sem, vv, es, k0, k1, k2]) rfl ⟨rfl, setres hs0.out.be _ _ _⟩
      · replace hr : Hid (find3 s.data.toList ((2, 1, es) :: [(3, nn, es), (4, 0, ii)]) = r) := hr
        have LC := Lib.hid (fun w => literal_any (2, 1, es) es_le w)
        have PP := P.out (bs (lit3 (2, 1, es))) (2, 1, es) rfl
        unfold LitOf at LC
        generalize bs (lit3 (2, 1, es)) = t at *
        unfold V3.val vv es at LC
        simp only at LC
        have c0 := hs0.out.cell (w.heap.size + 1) _ _ (.head _) 6 _ rfl
        have c1 := hs0.out.cell (w.heap.size + 1) _ _ (.head _) 7 _ rfl
        have c2 := hs0.out.cell (w.heap.size + 1) _ _ (.head _) 8 _ rfl
        cases ht : t.toList == s.toList
        · have HR : Hid (find3 s.data.toList [(3, nn, es), (4, 0, ii)] = r) := Lib.hid ((find3_no (PP.trans ht)).symm.trans hr.out)
          clear PP
          go_wp2_with fail
          refine (LC.out _).mono ?_
          rintro e v1 ⟨rfl, hb⟩
          replace hs0 := Lib.hid (hs0.out.step hb)
          clear hb c0 c1 c2
          go_wp2_with fail
          refine ⟨⟨2 + 1, by omega, by go_num, HR, hs0⟩, by simp [intOf]⟩
        · have HR : Hid (((2, 1, es), true) = r) := Lib.hid ((find3_yes (PP.trans ht)).symm.trans hr.out)
          clear PP
          go_wp2_with fail
          refine (LC.out _).mono ?_
          rintro e v1 ⟨rfl, hb⟩
          replace hs0 := Lib.hid (hs0.out.step hb)
          clear hb c0 c1 c2
          have c0 := hs0.out.cell (w.heap.size + 1) _ _ (.head _) 6 _ rfl
          have c1 := hs0.out.cell (w.heap.size + 1) _ _ (.head _) 7 _ rfl
          have c2 := hs0.out.cell (w.heap.size + 1) _ _ (.head _) 8 _ rfl
          obtain ⟨k0, k1, k2, kf, kz⟩ := hs0.out.res _ _ _ _ _ (.tail _ (.head _))
          go_wp2_with fail
          rw [← HR.out]
          exact bodyPost_ret (v := .tuple #[vv 2 1 es, .bool true]) (by simp [results, Tryz.results35, go_sem, vv, es, k0, k1, k2]) rfl ⟨rfl, setres hs0.out.be _ _ _⟩
      · replace hr : Hid (find3 s.data.toList ((3, nn, es) :: [(4, 0, ii)]) = r) := hr
        have LC := Lib.hid (fun w => literal_any (3, nn, es) es_le w)
        have PP := P.out (bs (lit3 (3, nn, es))) (3, nn, es) rfl
        unfold LitOf at LC
        generalize bs (lit3 (3, nn, es)) = t at *
        unfold V3.val vv es at LC
        simp only at LC
        have c0 := hs0.out.cell (w.heap.size + 1) _ _ (.head _) 9 _ rfl
        have c1 := hs0.out.cell (w.heap.size + 1) _ _ (.head _) 10 _ rfl
        have c2 := hs0.out.cell (w.heap.size + 1) _ _ (.head _) 11 _ rfl
        cases ht : t.toList == s.toList
        · have HR : Hid (find3 s.data.toList [(4, 0, ii)] = r) := Lib.hid ((find3_no (PP.trans ht)).symm.trans hr.out)
          clear PP
          go_wp2_with fail
          refine (LC.out _).mono ?_
          rintro e v1 ⟨rfl, hb⟩
          replace hs0 := Lib.hid (hs0.out.step hb)
          clear hb c0 c1 c2
          go_wp2_with fail
          refine ⟨⟨3 + 1, by omega, by go_num, HR, hs0⟩, by simp [intOf]⟩
        · have HR : Hid (((3, nn, es), true) = r) := Lib.hid ((find3_yes (PP.trans ht)).symm.trans hr.out)
          clear PP
          go_wp2_with fail
          refine (LC.out _).mono ?_
          rintro e v1 ⟨rfl, hb⟩
          replace hs0 := Lib.hid (hs0.out.step hb)
          clear hb c0 c1 c2
          have c0 := hs0.out.cell (w.heap.size + 1) _ _ (.head _) 9 _ rfl
          have c1 := hs0.out.cell (w.heap.size + 1) _ _ (.head _) 10 _ rfl
          have c2 := hs0.out.cell (w.heap.size + 1) _ _ (.head _) 11 _ rfl
          obtain ⟨k0, k1, k2, kf, kz⟩ := hs0.out.res _ _ _ _ _ (.tail _ (.head _))
          go_wp2_with fail
          rw [← HR.out]
          exact bodyPost_ret (v := .tuple #[vv 3 nn es, .bool true]) (by simp [results, Tryz.results35, go_sem, vv, es, k0, k1, k2]) rfl ⟨rfl, setres hs0.out.be _ _ _⟩
      · replace hr : Hid (find3 s.data.toList ((4, 0, ii) :: []) = r) := hr
        have LC := Lib.hid (fun w => literal_any (4, 0, ii) IL.out w)
        have PP := P.out (bs (lit3 (4, 0, ii))) (4, 0, ii) rfl
        unfold LitOf at LC
        generalize bs (lit3 (4, 0, ii)) = t at *
        unfold V3.val vv at LC
        simp only at LC
        have c0 := hs0.out.cell (w.heap.size + 1) _ _ (.head _) 12 _ rfl
        have c1 := hs0.out.cell (w.heap.size + 1) _ _ (.head _) 13 _ rfl
        have c2 := hs0.out.cell (w.heap.size + 1) _ _ (.head _) 14 _ rfl
        cases ht : t.toList == s.toList
        · have HR : Hid (find3 s.data.toList [] = r) := Lib.hid ((find3_no (PP.trans ht)).symm.trans hr.out)
          clear PP
          go_wp2_with fail
          refine (LC.out _).mono ?_
          rintro e v1 ⟨rfl, hb⟩
          replace hs0 := Lib.hid (hs0.out.step hb)
          clear hb c0 c1 c2
          go_wp2_with fail
          refine ⟨⟨4 + 1, by omega, by go_num, HR, hs0⟩, by simp [intOf]⟩
        · have HR : Hid (((4, 0, ii), true) = r) := Lib.hid ((find3_yes (PP.trans ht)).symm.trans hr.out)
          clear PP
          go_wp2_with fail
          refine (LC.out _).mono ?_
          rintro e v1 ⟨rfl, hb⟩
          replace hs0 := Lib.hid (hs0.out.step hb)
          clear hb c0 c1 c2
          have c0 := hs0.out.cell (w.heap.size + 1) _ _ (.head _) 12 _ rfl
          have c1 := hs0.out.cell (w.heap.size + 1) _ _ (.head _) 13 _ rfl
          have c2 := hs0.out.cell (w.heap.size + 1) _ _ (.head _) 14 _ rfl
          obtain ⟨k0, k1, k2, kf, kz⟩ := hs0.out.res _ _ _ _ _ (.tail _ (.head _))
          go_wp2_with fail
          rw [← HR.out]
          exact bodyPost_ret (v := .tuple #[vv 4 0 ii, .bool true]) (by simp [results, Tryz.results35, go_sem, vv, k0, k1, k2]) rfl ⟨rfl, setres hs0.out.be _ _ _⟩
    · obtain rfl : k = 5 := by omega
      have HR : Hid ((z3, false) = r) := hr
      obtain ⟨k0, k1, k2, kf, kz⟩ := hs0.out.res _ _ _ _ _ (.tail _ (.head _))
      go_wp2_with fail
      rw [← HR.out]
      exact bodyPost_ret (v := .tuple #[zv, .bool false]) (by simp [results, Tryz.results35, go_sem, vv, es, zv, k0, k1, k2]) rfl ⟨rfl, setres hs0.out.be _ _ _⟩
theorem readLit_any (s : ByteArray) (hs : s.size < 4294967281) (w : World) : Calls Tryz.prog 35 #[.string s] w (TupB (rl3 s.data.toList) w) := by
  cases he : s.toList.isEmpty
  · exact readLit_full s he hs w
  · have hnil : s.data.toList = [] := by rw [ByteArray.toList_eq] at he; simpa using he
    have e : rl3 s.data.toList = (z3, false) := by
      rcases rl_sound s.data.toList with ⟨_, h1, h2, _⟩ | h
      · exact absurd (h2.trans hnil) (text_ne _ h1)
      · exact h
    rw [e]
    exact readLit_empty s he hs w
end Go.Proofs.YtibjhcgfjhbgoaaGreatDoor.Va
