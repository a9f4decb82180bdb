/-
  The walk of ValueBinary.
-/
import Derived.Test.YtibjhcgfjhbgoaaGreatDoorBb
import Derived.Test.YtibjhcgfjhbgoaaGreatDoorSy
import Derived.Deep.RegionHeld3
import Derived.Deep.DeepCutAuto
namespace Go.Proofs.YtibjhcgfjhbgoaaGreatDoor.Va
open Go Go.RowKit Mp

theorem Own.ne {w : World} {a b : Nat} {c c' : Array Value} {T T' : TypeId} (h : Own w a c T) (h' : Own w b c' T') (hT : T ≠ T') : a ≠ b := by
  rintro rfl
  have := Option.some.inj ((show w.heap[a]? = _ from h).symm.trans (show w.heap[a]? = _ from h'))
  injection this with _ h2
  exact hT h2
theorem Sx.swapR {W : World} {p q r : Nat × Array Value × TypeId} {w : World} (h : Sx W [p, q, r] w) : Sx W [q, p, r] w :=
  h.drop fun x hx => by
    simp only [List.mem_cons, List.not_mem_nil, or_false] at hx ⊢
    rcases hx with rfl | rfl | rfl <;> simp
theorem Sx.zeroR {W : World} {L : List (Nat × Array Value × TypeId)} {w : World} (h : Sx W L w) (r : Nat × Array Value × TypeId) (hr : r ∈ L) (c d : Array Value) (T : TypeId) : Sx W [(w.heap.size, c, T), (w.heap.size + 1, d, T), r] ((w.alloc (.cells c T)).alloc (.cells d T)) := by
  have h2 := (h.add c T).add d T
  simp only [World.size_alloc] at h2
  refine h2.drop fun x hx => ?_
  simp only [List.mem_cons, List.not_mem_nil, or_false] at hx ⊢
  rcases hx with rfl | rfl | rfl
  · exact .inr (.inl rfl)
  · exact .inl rfl
  · exact .inr (.inr hr)
theorem Sx.oneR {W : World} {L : List (Nat × Array Value × TypeId)} {w : World} (hG : Gl W) (h : Sx W L w) (r : Nat × Array Value × TypeId) (hr : r ∈ L) (a : Nat) (c0 c1 c2 x y z : Value) (d : Array Value) (T : TypeId) (hT : T ≠ r.2.2) (ma : (a, #[c0, c1, c2], T) ∈ L) (ha : W.heap.size ≤ a) :
    Sx W [(a, #[x, y, z], T), (w.heap.size, d, T), r] ((((w.setCell ⟨a, 0, none⟩ x).setCell ⟨a, 1, none⟩ y).setCell ⟨a, 2, none⟩ z).alloc (.cells d T)) := by
  have hn : a ≠ r.1 := (h.own _ ma).ne (h.own _ hr) hT
  have h1 := Sx.set3 hG h a c0 c1 c2 T ma ha x y z (L' := [(a, #[x, y, z], T), r]) (fun p hp => by
    simp only [List.mem_cons, List.not_mem_nil, or_false] at hp
    rcases hp with rfl | rfl
    · exact .inl rfl
    · exact .inr ⟨hr, fun e => hn e.symm⟩)
  have h2 := (h1.add d T).drop (L' := [(a, #[x, y, z], T), (w.heap.size, d, T), r]) (fun p hp => by
    simp only [List.mem_cons, List.not_mem_nil, or_false] at hp ⊢
    rcases hp with rfl | rfl | rfl <;> simp [World.setCell])
  exact h2
theorem Sx.twoR {W : World} {L : List (Nat × Array Value × TypeId)} {w : World} (hG : Gl W) (h : Sx W L w) (r : Nat × Array Value × TypeId) (hr : r ∈ L) (a b : Nat) (c0 c1 c2 x y z x' y' z' : Value) (T : TypeId) (hT : T ≠ r.2.2) (ma : (a, #[c0, c1, c2], T) ∈ L) (mb : (b, #[c0, c1, c2], T) ∈ L) (ne : a ≠ b) (ha : W.heap.size ≤ a) (hb : W.heap.size ≤ b) :
    Sx W [(a, #[x, y, z], T), (b, #[x', y', z'], T), r] ((((((w.setCell ⟨a, 0, none⟩ x).setCell ⟨a, 1, none⟩ y).setCell ⟨a, 2, none⟩ z).setCell ⟨b, 0, none⟩ x').setCell ⟨b, 1, none⟩ y').setCell ⟨b, 2, none⟩ z') := by
  have hna : a ≠ r.1 := (h.own _ ma).ne (h.own _ hr) hT
  have hnb : b ≠ r.1 := (h.own _ mb).ne (h.own _ hr) hT
  have h1 := Sx.set3 hG h a c0 c1 c2 T ma ha x y z (L' := [(a, #[x, y, z], T), (b, #[c0, c1, c2], T), r]) (fun p hp => by
    simp only [List.mem_cons, List.not_mem_nil, or_false] at hp
    rcases hp with rfl | rfl | rfl
    · exact .inl rfl
    · exact .inr ⟨mb, fun e => ne e.symm⟩
    · exact .inr ⟨hr, fun e => hna e.symm⟩)
  refine Sx.set3 hG h1 b c0 c1 c2 T (.tail _ (.head _)) hb x' y' z' (fun p hp => ?_)
  simp only [List.mem_cons, List.not_mem_nil, or_false] at hp
  rcases hp with rfl | rfl | rfl
  · exact .inr ⟨.head _, ne⟩
  · exact .inl rfl
  · exact .inr ⟨.tail _ (.tail _ (.head _)), fun e => hnb e.symm⟩
set_option maxRecDepth 5000 in
set_option maxHeartbeats 8000000 in
theorem binary_walk (op m n : Int) (r q : V3) (m1 : -9223372036854775808 ≤ m) (m2 : m ≤ 9223372036854775807) (n1 : -9223372036854775808 ≤ n) (n2 : n ≤ 9223372036854775807) (hr : r.2.2.size ≤ maxLen) (hq : q.2.2.size ≤ maxLen) (w : World) (hG : Gl w) :
    Calls Tryz.prog 5 #[.int .i64 op, .agg #[.int .i64 m, .int .i64 n], .agg #[.int .i64 r.1, .int .i64 r.2.1, .string r.2.2, .int .i64 q.1, .int .i64 q.2.1, .string q.2.2]] w fun e w' => e = .returned (.bool true) ∧ Below w.heap.size w w' := by
  obtain ⟨kr, nr, sr⟩ := r
  obtain ⟨kq, nq, sq⟩ := q
  simp only at hr hq ⊢
  have RL := Lib.hid hr
  have QL := Lib.hid hq
  have MA := Lib.hid (made_any m m1 m2)
  have ML := Lib.hid (made_len m)
  have NA := Lib.hid (made_any n n1 n2)
  have NL := Lib.hid (made_len n)
  generalize made3 m = av at *
  generalize made3 n = bv at *
  obtain ⟨ka, na, sa⟩ := av
  obtain ⟨kb, nb, sb⟩ := bv
  replace MA : Hid (∀ w, Calls Tryz.prog 8 #[.int .i64 m] w fun e w' => e = .returned (.agg #[.int .i64 ka, .int .i64 na, .string sa]) ∧ Below w.heap.size w w') := MA
  replace NA : Hid (∀ w, Calls Tryz.prog 8 #[.int .i64 n] w fun e w' => e = .returned (.agg #[.int .i64 kb, .int .i64 nb, .string sb]) ∧ Below w.heap.size w w') := NA
  have hs := Lib.hid (((Sx.init hG).add #[.int .i64 m, .int .i64 n] 36).add #[.int .i64 kr, .int .i64 nr, .string sr, .int .i64 kq, .int .i64 nq, .string sq] 37)
  have GW := Lib.hid hG
  clear m1 m2 n1 n2 hG hr hq
  go_enter Tryz.func5, Tryz.ntmps5
  go_wp2_with fail
  refine (sanity_any _ hs.out.gl).mono ?_
  rintro e w1 ⟨rfl, hb⟩
  replace hs := Lib.hid (hs.out.step hb)
  have MR : ∀ {p : Nat × Array Value × TypeId}, p = (w.heap.size + 1, #[.int .i64 kr, .int .i64 nr, .string sr, .int .i64 kq, .int .i64 nq, .string sq], 37) → p = (w.heap.size + 1, #[.int .i64 kr, .int .i64 nr, .string sr, .int .i64 kq, .int .i64 nq, .string sq], 37) := fun h => h
  clear hb MR
  simp only [World.size_alloc] at hs
  go_upto_region 2 with fail
  go_cut [8, 9] (fun p q wc => ∃ A B : Nat, p = .pointer (some ⟨A, 0, none⟩) ∧ q = .pointer (some ⟨B, 0, none⟩) ∧ Hid (Sx w [(A, #[.int .i64 ka, .int .i64 na, .string sa], 23), (B, #[.int .i64 kb, .int .i64 nb, .string sb], 23), (w.heap.size + 1, #[.int .i64 kr, .int .i64 nr, .string sr, .int .i64 kq, .int .i64 nq, .string sq], 37)] wc))
  case first =>
    go_wp2_with fail
    obtain ⟨c0, c1⟩ := hs.out.c2 w.heap.size (.int .i64 m) (.int .i64 n) 36 (by simp)
    have n0 := hs.out.lt w.heap.size #[.int .i64 m, .int .i64 n] 36 (by simp)
    have n2 : ¬ w.heap.size = w1.heap.size := by omega
    have n3 : ¬ w.heap.size = w1.heap.size + 1 := by omega
    go_region_held3 (fun w' => w'.cell? ⟨w.heap.size, 0, none⟩ = some (.int .i64 m) ∧ w'.cell? ⟨w.heap.size, 1, none⟩ = some (.int .i64 n)) (first | (with_reducible exact ⟨c0, c1⟩) | (refine ⟨?_, ?_⟩ <;> (repeat (first | (with_reducible exact c0) | (with_reducible exact c1) | (with_reducible refine keepD ?_) | (with_reducible refine keepA ?_ _) | ((with_reducible refine keepT ?_ ?_); (· first | omega | (dsimp only; omega))))) <;> done) | (refine ⟨?_, ?_⟩ <;> go_keep)) ((go_at_call 8; (first | (with_reducible refine (MA.out _).mono ?_) | (with_reducible refine (NA.out _).mono ?_)); rintro e w' ⟨rfl, hb⟩; (first | (with_reducible replace hs := Lib.hid (hs.out.step hb)) | (with_reducible replace hs := Lib.hid ((hs.out.add #[.int .i64 0, .int .i64 0, .string ⟨#[]⟩] 23).step hb)) | (with_reducible replace hs := Lib.hid (((hs.out.add #[.int .i64 0, .int .i64 0, .string ⟨#[]⟩] 23).add #[.int .i64 0, .int .i64 0, .string ⟨#[]⟩] 23).step hb)) | (with_reducible replace hs := Lib.hid (hs.out.drew.step hb)) | (with_reducible replace hs := Lib.hid ((hs.out.add #[.int .i64 0, .int .i64 0, .string ⟨#[]⟩] 23).drew.step hb)) | (with_reducible replace hs := Lib.hid (((hs.out.add #[.int .i64 0, .int .i64 0, .string ⟨#[]⟩] 23).add #[.int .i64 0, .int .i64 0, .string ⟨#[]⟩] 23).drew.step hb))); clear hb; clear c0 c1; (try simp only [World.size_alloc] at hs); (have n0 := hs.out.lt w.heap.size #[.int .i64 m, .int .i64 n] 36 (by simp); have n2 : ¬ w.heap.size = w'.heap.size := (by omega); have n3 : ¬ w.heap.size = w'.heap.size + 1 := (by omega)); (try obtain ⟨y0, y1, y2, yf, yl⟩ := (hs.out.own (_, #[.int .i64 0, .int .i64 0, .string ⟨#[]⟩], 23) (.head _)).facts); (try obtain ⟨x0, x1, x2, xf, xl⟩ := (hs.out.own (_, #[.int .i64 0, .int .i64 0, .string ⟨#[]⟩], 23) (.tail _ (.head _))).facts); obtain ⟨c0, c1⟩ := hs.out.c2 w.heap.size (.int .i64 m) (.int .i64 n) 36 (by simp)))
    all_goals (go_wp2_with fail)
    all_goals go_meet
    all_goals (refine ⟨_, _, rfl, rfl, Lib.hid ?_⟩)
    all_goals first
      | (with_reducible refine Sx.zeroR hs.out _ ?_ _ _ _)
      | (with_reducible refine (Sx.zeroR hs.out _ ?_ _ _ _).swapR)
      | (with_reducible refine Sx.oneR GW.out hs.out _ ?_ _ (.int .i64 0) (.int .i64 0) (.string ⟨#[]⟩) _ _ _ _ _ ?_ ?_ ?_)
      | (with_reducible refine (Sx.oneR GW.out hs.out _ ?_ _ (.int .i64 0) (.int .i64 0) (.string ⟨#[]⟩) _ _ _ _ _ ?_ ?_ ?_).swapR)
      | (with_reducible refine Sx.twoR GW.out hs.out _ ?_ _ _ (.int .i64 0) (.int .i64 0) (.string ⟨#[]⟩) _ _ _ _ _ _ _ ?_ ?_ ?_ ?_ ?_ ?_)
    all_goals first
      | omega
      | simp
      | decide
  case rest =>
  obtain ⟨A, B, rfl, rfl, hs⟩ := hcut
  go_wp2_with fail
  go_loopw [10] (fun i wr => ∃ k : Nat, 5 ≤ k ∧ k ≤ 16 ∧ i = .int .i64 k ∧ Hid (Sx w [(A, #[.int .i64 ka, .int .i64 na, .string sa], 23), (B, #[.int .i64 kb, .int .i64 nb, .string sb], 23), (w.heap.size + 1, #[.int .i64 kr, .int .i64 nr, .string sr, .int .i64 kq, .int .i64 nq, .string sq], 37)] wr)) (fun i _ => 16 - (intOf i).toNat)
  case atStart => exact ⟨5, by omega, by omega, rfl, hs⟩
  case round =>
    clear hs
    obtain ⟨k, hk5, hk, rfl, hs⟩ := hrel
    rcases Nat.lt_or_ge k 16 with h16 | h16
    · have k5 : (5 : Int) ≤ k := by omega
      have k15 : (k : Int) ≤ 15 := by omega
      go_upto_if 31 with fail
      go_cut [11] (fun u wc => ∃ o : Int, u = .int .i64 o ∧ Hid (Sx w [(A, #[.int .i64 ka, .int .i64 na, .string sa], 23), (B, #[.int .i64 kb, .int .i64 nb, .string sb], 23), (w.heap.size + 1, #[.int .i64 kr, .int .i64 nr, .string sr, .int .i64 kq, .int .i64 nq, .string sq], 37)] wc))
      case first =>
        by_cases h14 : k ≤ 14
        · have g : (k : Int) ≤ 14 := by omega
          go_wp2_with fail
          go_meet
          exact ⟨_, rfl, hs⟩
        · have g : (14 : Int) < k := by omega
          go_wp2_with fail
          go_meet
          exact ⟨_, rfl, hs⟩
      case rest =>
      clear hs
      obtain ⟨o, rfl, hs⟩ := hcut
      obtain ⟨a0, a1, a2⟩ := hs.out.c3 A _ _ _ _ (.head _)
      obtain ⟨b0, b1, b2⟩ := hs.out.c3 B _ _ _ _ (.tail _ (.head _))
      have r0 := hs.out.cell (w.heap.size + 1) _ _ (.tail _ (.tail _ (.head _))) 0 _ rfl
      have r1 := hs.out.cell (w.heap.size + 1) _ _ (.tail _ (.tail _ (.head _))) 1 _ rfl
      have r2 := hs.out.cell (w.heap.size + 1) _ _ (.tail _ (.tail _ (.head _))) 2 _ rfl
      have r3 := hs.out.cell (w.heap.size + 1) _ _ (.tail _ (.tail _ (.head _))) 3 _ rfl
      have r4 := hs.out.cell (w.heap.size + 1) _ _ (.tail _ (.tail _ (.head _))) 4 _ rfl
      have r5 := hs.out.cell (w.heap.size + 1) _ _ (.tail _ (.tail _ (.head _))) 5 _ rfl
      go_wp2_with fail
      clear a0 a1 a2 b0 b1 b2 r0 r1 r2 r3 r4 r5
      replace hs := Lib.hid (hs.out.add #[.int .i64 ka, .int .i64 na, .string sa, .int .i64 kb, .int .i64 nb, .string sb, .int .i64 kr, .int .i64 nr, .string sr, .int .i64 kq, .int .i64 nq, .string sq, .int .i64 ka, .int .i64 na, .string sa, .int .i64 kq, .int .i64 nq, .string sq, .int .i64 kr, .int .i64 nr, .string sr, .int .i64 kb, .int .i64 nb, .string sb, .int .i64 ka, .int .i64 na, .string sa, .int .i64 ka, .int .i64 na, .string sa] 37)
      obtain ⟨wi, hwi⟩ : ∃ wi : World, wi = wc.alloc (.cells #[.int .i64 ka, .int .i64 na, .string sa, .int .i64 kb, .int .i64 nb, .string sb, .int .i64 kr, .int .i64 nr, .string sr, .int .i64 kq, .int .i64 nq, .string sq, .int .i64 ka, .int .i64 na, .string sa, .int .i64 kq, .int .i64 nq, .string sq, .int .i64 kr, .int .i64 nr, .string sr, .int .i64 kb, .int .i64 nb, .string sb, .int .i64 ka, .int .i64 na, .string sa, .int .i64 ka, .int .i64 na, .string sa] 37) := ⟨_, rfl⟩
      rw [← hwi] at hs ⊢
      obtain ⟨S, hS⟩ : ∃ S : Nat, S = wc.heap.size := ⟨_, rfl⟩
      rw [← hS] at hs ⊢
      clear hwi hS
      go_loopw [54] (fun i wr => ∃ j : Nat, j ≤ 5 ∧ i = .int .i64 j ∧ Hid (Sx w [(S, #[.int .i64 ka, .int .i64 na, .string sa, .int .i64 kb, .int .i64 nb, .string sb, .int .i64 kr, .int .i64 nr, .string sr, .int .i64 kq, .int .i64 nq, .string sq, .int .i64 ka, .int .i64 na, .string sa, .int .i64 kq, .int .i64 nq, .string sq, .int .i64 kr, .int .i64 nr, .string sr, .int .i64 kb, .int .i64 nb, .string sb, .int .i64 ka, .int .i64 na, .string sa, .int .i64 ka, .int .i64 na, .string sa], 37), (A, #[.int .i64 ka, .int .i64 na, .string sa], 23), (B, #[.int .i64 kb, .int .i64 nb, .string sb], 23), (w.heap.size + 1, #[.int .i64 kr, .int .i64 nr, .string sr, .int .i64 kq, .int .i64 nq, .string sq], 37)] wr)) (fun i _ => 5 - (intOf i).toNat)
      case atStart => exact ⟨0, by omega, by simp, hs⟩
      case round =>
        clear hs
        obtain ⟨j, hj, rfl, hs⟩ := hrel
        rcases Nat.lt_or_ge j 5 with j5 | j5
        · have jj : (j : Int) < 5 := by omega
          go_upto_region 11 with fail
          go_cut [13] (fun c wc => ∃ (C : Nat) (x y : V3), c = .pointer (some ⟨C, 0, none⟩) ∧ Hid (x.2.2.size ≤ maxLen) ∧ Hid (y.2.2.size ≤ maxLen) ∧ Hid (Sx w [(C, #[.int .i64 x.1, .int .i64 x.2.1, .string x.2.2, .int .i64 y.1, .int .i64 y.2.1, .string y.2.2], 37), (S, #[.int .i64 ka, .int .i64 na, .string sa, .int .i64 kb, .int .i64 nb, .string sb, .int .i64 kr, .int .i64 nr, .string sr, .int .i64 kq, .int .i64 nq, .string sq, .int .i64 ka, .int .i64 na, .string sa, .int .i64 kq, .int .i64 nq, .string sq, .int .i64 kr, .int .i64 nr, .string sr, .int .i64 kb, .int .i64 nb, .string sb, .int .i64 ka, .int .i64 na, .string sa, .int .i64 ka, .int .i64 na, .string sa], 37), (A, #[.int .i64 ka, .int .i64 na, .string sa], 23), (B, #[.int .i64 kb, .int .i64 nb, .string sb], 23), (w.heap.size + 1, #[.int .i64 kr, .int .i64 nr, .string sr, .int .i64 kq, .int .i64 nq, .string sq], 37)] wc))
          case first =>
            rcases (show j = 0 ∨ j = 1 ∨ j = 2 ∨ j = 3 ∨ j = 4 by omega) with rfl | rfl | rfl | rfl | rfl
            · have c0 := hs.out.cell S _ _ (.head _) 0 _ rfl
              have c1 := hs.out.cell S _ _ (.head _) 1 _ rfl
              have c2 := hs.out.cell S _ _ (.head _) 2 _ rfl
              have c3 := hs.out.cell S _ _ (.head _) 3 _ rfl
              have c4 := hs.out.cell S _ _ (.head _) 4 _ rfl
              have c5 := hs.out.cell S _ _ (.head _) 5 _ rfl
              go_wp2_with fail
              go_meet
              exact ⟨_, (ka, na, sa), (kb, nb, sb), rfl, ML, NL, Lib.hid (hs.out.add _ _)⟩
            · have c0 := hs.out.cell S _ _ (.head _) 6 _ rfl
              have c1 := hs.out.cell S _ _ (.head _) 7 _ rfl
              have c2 := hs.out.cell S _ _ (.head _) 8 _ rfl
              have c3 := hs.out.cell S _ _ (.head _) 9 _ rfl
              have c4 := hs.out.cell S _ _ (.head _) 10 _ rfl
              have c5 := hs.out.cell S _ _ (.head _) 11 _ rfl
              go_wp2_with fail
              go_meet
              exact ⟨_, (kr, nr, sr), (kq, nq, sq), rfl, RL, QL, Lib.hid (hs.out.add _ _)⟩
            · have c0 := hs.out.cell S _ _ (.head _) 12 _ rfl
              have c1 := hs.out.cell S _ _ (.head _) 13 _ rfl
              have c2 := hs.out.cell S _ _ (.head _) 14 _ rfl
              have c3 := hs.out.cell S _ _ (.head _) 15 _ rfl
              have c4 := hs.out.cell S _ _ (.head _) 16 _ rfl
              have c5 := hs.out.cell S _ _ (.head _) 17 _ rfl
              go_wp2_with fail
              go_meet
              exact ⟨_, (ka, na, sa), (kq, nq, sq), rfl, ML, QL, Lib.hid (hs.out.add _ _)⟩
            · have c0 := hs.out.cell S _ _ (.head _) 18 _ rfl
              have c1 := hs.out.cell S _ _ (.head _) 19 _ rfl
              have c2 := hs.out.cell S _ _ (.head _) 20 _ rfl
              have c3 := hs.out.cell S _ _ (.head _) 21 _ rfl
              have c4 := hs.out.cell S _ _ (.head _) 22 _ rfl
              have c5 := hs.out.cell S _ _ (.head _) 23 _ rfl
              go_wp2_with fail
              go_meet
              exact ⟨_, (kr, nr, sr), (kb, nb, sb), rfl, RL, NL, Lib.hid (hs.out.add _ _)⟩
            · have c0 := hs.out.cell S _ _ (.head _) 24 _ rfl
              have c1 := hs.out.cell S _ _ (.head _) 25 _ rfl
              have c2 := hs.out.cell S _ _ (.head _) 26 _ rfl
              have c3 := hs.out.cell S _ _ (.head _) 27 _ rfl
              have c4 := hs.out.cell S _ _ (.head _) 28 _ rfl
              have c5 := hs.out.cell S _ _ (.head _) 29 _ rfl
              go_wp2_with fail
              go_meet
              exact ⟨_, (ka, na, sa), (ka, na, sa), rfl, ML, ML, Lib.hid (hs.out.add _ _)⟩
          case rest =>
          clear hs
          obtain ⟨C, ⟨xk, xn, xs⟩, ⟨yk, yn, ys⟩, rfl, XL, YL, hs⟩ := hcut
          simp only at XL YL hs
          have c0 := hs.out.cell C _ _ (.head _) 0 _ rfl
          have c1 := hs.out.cell C _ _ (.head _) 1 _ rfl
          have c2 := hs.out.cell C _ _ (.head _) 2 _ rfl
          have c3 := hs.out.cell C _ _ (.head _) 3 _ rfl
          have c4 := hs.out.cell C _ _ (.head _) 4 _ rfl
          have c5 := hs.out.cell C _ _ (.head _) 5 _ rfl
          go_wp2_with fail
          refine (binary_any o (xk, xn, xs) (yk, yn, ys) _ hs.out.gl.bnds XL.out YL.out).mono ?_
          generalize hu : bin o (xk, xn, xs) (yk, yn, ys) = u
          obtain ⟨⟨p, q, s⟩, f⟩ := u
          have HU := Lib.hid hu
          clear hu
          rintro e v1 ⟨rfl, hb⟩
          replace hs := Lib.hid (hs.out.step hb)
          clear hb c0 c1 c2 c3 c4 c5
          unfold V3.val vv
          simp only
          replace hs := Lib.hid (hs.out.add #[.int .i64 p, .int .i64 q, .string s] 23)
          have c0 := hs.out.cell C _ _ (.tail _ (.head _)) 0 _ rfl
          have c1 := hs.out.cell C _ _ (.tail _ (.head _)) 1 _ rfl
          have c2 := hs.out.cell C _ _ (.tail _ (.head _)) 2 _ rfl
          have c3 := hs.out.cell C _ _ (.tail _ (.head _)) 3 _ rfl
          have c4 := hs.out.cell C _ _ (.tail _ (.head _)) 4 _ rfl
          have c5 := hs.out.cell C _ _ (.tail _ (.head _)) 5 _ rfl
          go_wp2_with fail
          refine (refBinary_any o (xk, xn, xs) (yk, yn, ys) _ XL.out YL.out).mono ?_
          rw [HU.out]
          rintro e v2 ⟨rfl, hb⟩
          replace hs := Lib.hid (hs.out.step hb)
          clear hb c0 c1 c2 c3 c4 c5
          unfold V3.val vv
          simp only
          replace hs := Lib.hid (hs.out.add #[.int .i64 p, .int .i64 q, .string s] 23)
          obtain ⟨d0, d1, d2⟩ := hs.out.c3 v1.heap.size _ _ _ _ (.tail _ (.head _))
          obtain ⟨g0, g1, g2⟩ := hs.out.c3 v2.heap.size _ _ _ _ (.head _)
          have hv := run_vrefl p q s
          go_wp2_with fail
          refine ⟨⟨j + 1, by omega, by simp, Lib.hid (hs.out.drop (fun p hp => .tail _ (.tail _ (.tail _ hp))))⟩, by simp [intOf]; omega⟩
        · obtain rfl : j = 5 := by omega
          go_wp2_with fail
          refine ⟨⟨k + 1, by omega, by omega, by simp, Lib.hid (hs.out.drop (fun p hp => .tail _ hp))⟩, by simp [intOf]; omega⟩
    · obtain rfl : k = 16 := by omega
      go_wp2_with fail
      go_ret
      exact ⟨rfl, hs.out.be⟩
end Go.Proofs.YtibjhcgfjhbgoaaGreatDoor.Va
