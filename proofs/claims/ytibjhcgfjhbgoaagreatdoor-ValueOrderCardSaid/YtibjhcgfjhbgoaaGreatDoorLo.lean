/-
  The walk of ValueOrder.
-/
import Derived.Test.YtibjhcgfjhbgoaaGreatDoorOm
import Derived.Test.YtibjhcgfjhbgoaaGreatDoorSy
import Derived.Deep.RegionHeld3
import Derived.Deep.DeepCutAuto
namespace Go.Proofs.YtibjhcgfjhbgoaaGreatDoor.Va
open Go Go.RowKit Mp

theorem es_list : es.toList = [] := by rw [ByteArray.toList_eq]; rfl
theorem z3_len : z3.2.2.size ≤ maxLen := es_le
theorem right_len {v : V3} (h : right3 v = true) : v.2.2.size ≤ maxLen := by
  have h2 := (facts_of h).2.2
  unfold prtB at h2
  simp only [Bool.and_eq_true, decide_eq_true_eq] at h2
  have : v.2.2.data.toList.length = v.2.2.size := Array.length_toList
  unfold maxLen; omega
theorem bin_len (op : Int) (a b : V3) : (bin op a b).1.2.2.size ≤ maxLen := by
  rcases bin_kind op a b with ⟨_, h, _⟩ | ⟨_, h⟩
  · exact right_len h
  · rw [h]; exact z3_len
theorem Sx.put {W : World} {L : List (Nat × Array Value × TypeId)} {w : World} (hG : Gl W) (h : Sx W L w) (b : Nat) (c : Array Value) (T : TypeId) (hm : (b, c, T) ∈ L) (hb : W.heap.size ≤ b) (j : Nat) (v : Value)
    {L' : List (Nat × Array Value × TypeId)} (hL : ∀ p, p ∈ L' → p = (b, c.setIfInBounds j v, T) ∨ p ∈ L ∧ p.1 ≠ b) : Sx W L' (w.setCell ⟨b, j, none⟩ v) := by
  have hbe := h.be.setCell (p := ⟨b, j, none⟩) hb v
  refine ⟨hG.below hbe, hbe, fun p hp => ?_⟩
  rcases hL p hp with rfl | ⟨h1, h2⟩
  · exact (h.own _ hm).set j v
  · exact (h.own p h1).other _ v h2
/-- Three stores into the first block of the list. -/
theorem Sx.put3 {W : World} {L : List (Nat × Array Value × TypeId)} {w : World} (hG : Gl W) {b : Nat} {c : Array Value} {T : TypeId} (h : Sx W ((b, c, T) :: L) w) (hb : W.heap.size ≤ b) (hn : ∀ p, p ∈ L → p.1 ≠ b) (i j k : Nat) (x y z : Value) :
    Sx W ((b, ((c.setIfInBounds i x).setIfInBounds j y).setIfInBounds k z, T) :: L) (((w.setCell ⟨b, i, none⟩ x).setCell ⟨b, j, none⟩ y).setCell ⟨b, k, none⟩ z) := by
  have step : ∀ {w : World} {c : Array Value} (_ : Sx W ((b, c, T) :: L) w) (i : Nat) (x : Value), Sx W ((b, c.setIfInBounds i x, T) :: L) (w.setCell ⟨b, i, none⟩ x) := fun h i x =>
    Sx.put hG h b _ T (.head _) hb i x (fun p hp => by
      rcases List.mem_cons.1 hp with rfl | hp
      · exact .inl rfl
      · exact .inr ⟨.tail _ hp, hn p hp⟩)
  exact step (step (step h i x) j y) k z
set_option maxRecDepth 3000 in
theorem less_any (a b : V3) (hma : a.2.2.size ≤ maxLen) (hmb : b.2.2.size ≤ maxLen) (w : World) (hG : Gl w) :
    Calls Tryz.prog 18 #[a.val, b.val] w fun e w' => e = .returned (.tuple #[.bool (less3 a b).1, .bool (less3 a b).2]) ∧ Below w.heap.size w w' := by
  have C := Lib.hid (fun w hB => binary_any 10 a b w hB hma hmb)
  have T := Lib.hid (fun w hB => truth3_any (bin 10 a b).1 w hB (bin_len 10 a b))
  clear hma hmb
  generalize hr : less3 a b = r
  unfold less3 at hr
  generalize bin 10 a b = x at *
  obtain ⟨⟨x1, x2, x3⟩, x4⟩ := x
  simp only at hr T
  generalize truth3 (x1, x2, x3) = t at *
  obtain ⟨t1, t2⟩ := t
  obtain ⟨a1, a2, a3⟩ := a
  obtain ⟨b1, b2, b3⟩ := b
  unfold same at hr
  rw [← ByteArray.toList_eq, ← ByteArray.toList_eq] at hr
  simp only at hr
  have HR := Lib.hid hr
  clear hr
  have hs := Lib.hid (((Sx.init hG).add #[.int .i64 a1, .int .i64 a2, .string a3] 23).add #[.int .i64 b1, .int .i64 b2, .string b3] 23)
  clear hG
  unfold V3.val vv
  simp only
  go_enter Tryz.func18, Tryz.ntmps18
  go_wp2_with fail
  refine (C.out _ hs.out.gl.bnds).mono ?_
  rintro e w1 ⟨rfl, hb⟩
  replace hs := Lib.hid (hs.out.step hb)
  clear hb
  unfold V3.val vv
  simp only
  replace hs := Lib.hid (hs.out.add #[.int .i64 x1, .int .i64 x2, .string x3] 23)
  obtain ⟨c0, c1, c2⟩ := hs.out.c3 w1.heap.size _ _ _ _ (.head _)
  go_wp2_with fail
  refine (T.out _ hs.out.gl.bnds).mono ?_
  rintro e w2 ⟨rfl, hb⟩
  replace hs := Lib.hid (hs.out.step hb)
  clear hb c0 c1 c2
  go_wp2_with fail
  all_goals go_ret2
  all_goals exact ⟨by rw [← HR.out]; simp [es_list, *], hs.out.be⟩

set_option maxRecDepth 5000 in
set_option maxHeartbeats 8000000 in
theorem order_walk (l m n : Int) (l1 : -9223372036854775808 ≤ l) (l2 : l ≤ 9223372036854775807) (m1 : -9223372036854775808 ≤ m) (m2 : m ≤ 9223372036854775807) (n1 : -9223372036854775808 ≤ n) (n2 : n ≤ 9223372036854775807) (w : World) (hG : Gl w) :
    Calls Tryz.prog 6 #[.agg #[.int .i64 l, .int .i64 m, .int .i64 n]] w fun e w' => e = .returned (.bool true) ∧ Below w.heap.size w w' := by
  have LA := Lib.hid (made_any l l1 l2)
  have LR := Lib.hid (made_right l)
  have MA := Lib.hid (made_any m m1 m2)
  have MR := Lib.hid (made_right m)
  have NA := Lib.hid (made_any n n1 n2)
  have NR := Lib.hid (made_right n)
  generalize made3 l = av at *
  generalize made3 m = bv at *
  generalize made3 n = cv at *
  obtain ⟨ka, na, sa⟩ := av
  obtain ⟨kb, nb, sb⟩ := bv
  obtain ⟨kc, nc, sc⟩ := cv
  replace LA : Hid (∀ w, Calls Tryz.prog 8 #[.int .i64 l] w fun e w' => e = .returned (.agg #[.int .i64 ka, .int .i64 na, .string sa]) ∧ Below w.heap.size w w') := LA
  have LL := Lib.hid (right_len LR.out)
  replace MA : Hid (∀ w, Calls Tryz.prog 8 #[.int .i64 m] w fun e w' => e = .returned (.agg #[.int .i64 kb, .int .i64 nb, .string sb]) ∧ Below w.heap.size w w') := MA
  have ML := Lib.hid (right_len MR.out)
  replace NA : Hid (∀ w, Calls Tryz.prog 8 #[.int .i64 n] w fun e w' => e = .returned (.agg #[.int .i64 kc, .int .i64 nc, .string sc]) ∧ Below w.heap.size w w') := NA
  have NL := Lib.hid (right_len NR.out)
  have hs := Lib.hid ((Sx.init hG).add #[.int .i64 l, .int .i64 m, .int .i64 n] 32)
  have GW := Lib.hid hG
  clear l1 l2 m1 m2 n1 n2 hG
  go_enter Tryz.func6, Tryz.ntmps6
  go_wp2_with fail
  refine (sanity_any _ hs.out.gl).mono ?_
  rintro e w1 ⟨rfl, hb⟩
  replace hs := Lib.hid (hs.out.step hb)
  have hz : w.heap.size < w1.heap.size := by have := hb.size; simp at this; omega
  clear hb
  go_wp2_with fail
  replace hs := Lib.hid (hs.out.add #[.int .i64 0, .int .i64 0, .string ⟨#[]⟩, .int .i64 0, .int .i64 0, .string ⟨#[]⟩, .int .i64 0, .int .i64 0, .string ⟨#[]⟩] 42)
  obtain ⟨wo, hwo⟩ : ∃ wo : World, wo = w1.alloc (.cells #[.int .i64 0, .int .i64 0, .string ⟨#[]⟩, .int .i64 0, .int .i64 0, .string ⟨#[]⟩, .int .i64 0, .int .i64 0, .string ⟨#[]⟩] 42) := ⟨_, rfl⟩
  rw [← hwo] at hs ⊢
  obtain ⟨B, hB⟩ : ∃ B : Nat, B = w1.heap.size := ⟨_, rfl⟩
  rw [← hB] at hs hz ⊢
  clear hwo hB
  go_loopw [24] (fun i wr => (i = .int .i64 0 ∧ Hid (Sx w [(B, #[.int .i64 0, .int .i64 0, .string ⟨#[]⟩, .int .i64 0, .int .i64 0, .string ⟨#[]⟩, .int .i64 0, .int .i64 0, .string ⟨#[]⟩], 42), (w.heap.size, #[.int .i64 l, .int .i64 m, .int .i64 n], 32)] wr)) ∨ (i = .int .i64 1 ∧ Hid (Sx w [(B, #[.int .i64 ka, .int .i64 na, .string sa, .int .i64 0, .int .i64 0, .string ⟨#[]⟩, .int .i64 0, .int .i64 0, .string ⟨#[]⟩], 42), (w.heap.size, #[.int .i64 l, .int .i64 m, .int .i64 n], 32)] wr)) ∨ (i = .int .i64 2 ∧ Hid (Sx w [(B, #[.int .i64 ka, .int .i64 na, .string sa, .int .i64 kb, .int .i64 nb, .string sb, .int .i64 0, .int .i64 0, .string ⟨#[]⟩], 42), (w.heap.size, #[.int .i64 l, .int .i64 m, .int .i64 n], 32)] wr)) ∨ (i = .int .i64 3 ∧ Hid (Sx w [(B, #[.int .i64 ka, .int .i64 na, .string sa, .int .i64 kb, .int .i64 nb, .string sb, .int .i64 kc, .int .i64 nc, .string sc], 42), (w.heap.size, #[.int .i64 l, .int .i64 m, .int .i64 n], 32)] wr))) (fun i _ => 3 - (intOf i).toNat)
  case atStart => exact .inl ⟨rfl, hs⟩
  case round =>
    clear hs
    rcases hrel with ⟨rfl, hs⟩ | ⟨rfl, hs⟩ | ⟨rfl, hs⟩ | ⟨rfl, hs⟩
    · have q0 := hs.out.cell w.heap.size _ _ (.tail _ (.head _)) 0 _ rfl
      go_wp2_with fail
      refine (LA.out _).mono ?_
      rintro e w2 ⟨rfl, hb⟩
      replace hs := Lib.hid (hs.out.step hb)
      clear hb q0
      have x0 := hs.out.cell B _ _ (.head _) 0 _ rfl
      have x1 := hs.out.cell B _ _ (.head _) 1 _ rfl
      have x2 := hs.out.cell B _ _ (.head _) 2 _ rfl
      have xf := (hs.out.own _ (.head _)).frozen
      have xl := hs.out.lt B _ _ (.head _)
      simp only at xf
      go_wp2_with fail
      refine ⟨.inr (.inl ⟨rfl, Lib.hid (Sx.put3 GW.out hs.out (by omega) (by simp; omega) 0 1 2 _ _ _)⟩), by simp [intOf]⟩
    · have q0 := hs.out.cell w.heap.size _ _ (.tail _ (.head _)) 1 _ rfl
      go_wp2_with fail
      refine (MA.out _).mono ?_
      rintro e w2 ⟨rfl, hb⟩
      replace hs := Lib.hid (hs.out.step hb)
      clear hb q0
      have x0 := hs.out.cell B _ _ (.head _) 3 _ rfl
      have x1 := hs.out.cell B _ _ (.head _) 4 _ rfl
      have x2 := hs.out.cell B _ _ (.head _) 5 _ rfl
      have xf := (hs.out.own _ (.head _)).frozen
      have xl := hs.out.lt B _ _ (.head _)
      simp only at xf
      go_wp2_with fail
      refine ⟨.inr (.inr (.inl ⟨rfl, Lib.hid (Sx.put3 GW.out hs.out (by omega) (by simp; omega) 3 4 5 _ _ _)⟩)), by simp [intOf]⟩
    · have q0 := hs.out.cell w.heap.size _ _ (.tail _ (.head _)) 2 _ rfl
      go_wp2_with fail
      refine (NA.out _).mono ?_
      rintro e w2 ⟨rfl, hb⟩
      replace hs := Lib.hid (hs.out.step hb)
      clear hb q0
      have x0 := hs.out.cell B _ _ (.head _) 6 _ rfl
      have x1 := hs.out.cell B _ _ (.head _) 7 _ rfl
      have x2 := hs.out.cell B _ _ (.head _) 8 _ rfl
      have xf := (hs.out.own _ (.head _)).frozen
      have xl := hs.out.lt B _ _ (.head _)
      simp only at xf
      go_wp2_with fail
      refine ⟨.inr (.inr (.inr (⟨rfl, Lib.hid (Sx.put3 GW.out hs.out (by omega) (by simp; omega) 6 7 8 _ _ _)⟩))), by simp [intOf]⟩
    · have XL := Lib.hid (hs.out.lt B _ _ (.head _))
      go_upto_region 9 with fail
      go_cut [7, 8, 9] (fun p q r wc => ∃ A1 A2 A3 : Nat, p = .pointer (some ⟨A1, 0, none⟩) ∧ q = .pointer (some ⟨A2, 0, none⟩) ∧ r = .pointer (some ⟨A3, 0, none⟩) ∧ Hid (Sx w [(A1, #[.int .i64 ka, .int .i64 na, .string sa], 23), (A2, #[.int .i64 kb, .int .i64 nb, .string sb], 23), (A3, #[.int .i64 kc, .int .i64 nc, .string sc], 23)] wc))
      case first =>
        have xl := XL.out
        have c0 : wr.cell? ⟨B, 0, none⟩ = some (.int .i64 ka) := hs.out.cell B _ _ (.head _) 0 _ rfl
        have c1 : wr.cell? ⟨B, 1, none⟩ = some (.int .i64 na) := hs.out.cell B _ _ (.head _) 1 _ rfl
        have c2 : wr.cell? ⟨B, 2, none⟩ = some (.string sa) := hs.out.cell B _ _ (.head _) 2 _ rfl
        have c3 : wr.cell? ⟨B, 3, none⟩ = some (.int .i64 kb) := hs.out.cell B _ _ (.head _) 3 _ rfl
        have c4 : wr.cell? ⟨B, 4, none⟩ = some (.int .i64 nb) := hs.out.cell B _ _ (.head _) 4 _ rfl
        have c5 : wr.cell? ⟨B, 5, none⟩ = some (.string sb) := hs.out.cell B _ _ (.head _) 5 _ rfl
        have c6 : wr.cell? ⟨B, 6, none⟩ = some (.int .i64 kc) := hs.out.cell B _ _ (.head _) 6 _ rfl
        have c7 : wr.cell? ⟨B, 7, none⟩ = some (.int .i64 nc) := hs.out.cell B _ _ (.head _) 7 _ rfl
        have c8 : wr.cell? ⟨B, 8, none⟩ = some (.string sc) := hs.out.cell B _ _ (.head _) 8 _ rfl
        go_region_held3 (fun w' => w'.cell? ⟨B, 0, none⟩ = some (.int .i64 ka) ∧ w'.cell? ⟨B, 1, none⟩ = some (.int .i64 na) ∧ w'.cell? ⟨B, 2, none⟩ = some (.string sa) ∧ w'.cell? ⟨B, 3, none⟩ = some (.int .i64 kb) ∧ w'.cell? ⟨B, 4, none⟩ = some (.int .i64 nb) ∧ w'.cell? ⟨B, 5, none⟩ = some (.string sb) ∧ w'.cell? ⟨B, 6, none⟩ = some (.int .i64 kc) ∧ w'.cell? ⟨B, 7, none⟩ = some (.int .i64 nc) ∧ w'.cell? ⟨B, 8, none⟩ = some (.string sc)) (first | (with_reducible exact ⟨c0, c1, c2, c3, c4, c5, c6, c7, c8⟩) | (refine ⟨?_, ?_, ?_, ?_, ?_, ?_, ?_, ?_, ?_⟩ <;> (repeat (first | (with_reducible assumption) | (with_reducible refine keepD ?_) | (with_reducible refine keepA ?_ _) | ((with_reducible refine keepT ?_ ?_); (· first | omega | (dsimp only; omega))))) <;> done)) (fail)
        all_goals (go_wp2_with fail)
        all_goals go_meet
        all_goals (refine ⟨_, _, _, rfl, rfl, rfl, Lib.hid (Sx.drop (((hs.out.add _ _).add _ _).add _ _).drew ?_)⟩)
        all_goals (intro p hp; simp only [World.size_alloc, List.mem_cons, List.not_mem_nil, or_false] at hp ⊢; rcases hp with rfl | rfl | rfl <;> simp)
      case rest =>
        obtain ⟨A1, A2, A3, rfl, rfl, rfl, hs⟩ := hcut
        have F1 := less_ordered (ka, na, sa) (kb, nb, sb) LR.out MR.out
        have F2 := less_ordered (kb, nb, sb) (ka, na, sa) MR.out LR.out
        rw [ordered_comm] at F2
        have O1 := less_one (ka, na, sa) (kb, nb, sb) LR.out MR.out
        have O3 := less_three (ka, na, sa) (kb, nb, sb) (kc, nc, sc) LR.out MR.out NR.out
        have C1 := Lib.hid (fun w hG => less_any (ka, na, sa) (kb, nb, sb) LL.out ML.out w hG)
        have C2 := Lib.hid (fun w hG => less_any (kb, nb, sb) (ka, na, sa) ML.out LL.out w hG)
        have C3 := Lib.hid (fun w hG => less_any (kb, nb, sb) (kc, nc, sc) ML.out NL.out w hG)
        have C4 := Lib.hid (fun w hG => less_any (ka, na, sa) (kc, nc, sc) LL.out NL.out w hG)
        generalize less3 (ka, na, sa) (kb, nb, sb) = r1 at *
        generalize less3 (kb, nb, sb) (ka, na, sa) = r2 at *
        generalize less3 (kb, nb, sb) (kc, nc, sc) = r3 at *
        generalize less3 (ka, na, sa) (kc, nc, sc) = r4 at *
        obtain ⟨x, fx⟩ := r1
        obtain ⟨y, fy⟩ := r2
        obtain ⟨z, fz⟩ := r3
        obtain ⟨v, fv⟩ := r4
        simp only at F1 F2 O1 O3
        subst fx fy
        generalize hf : ordered (ka, na, sa) (kb, nb, sb) = f at *
        have HF := Lib.hid hf
        have H1 := Lib.hid O1
        have H3 := Lib.hid O3
        clear hf O1 O3
        obtain ⟨a0, a1, a2⟩ := hs.out.c3 A1 _ _ _ _ (.head _)
        obtain ⟨b0, b1, b2⟩ := hs.out.c3 A2 _ _ _ _ (.tail _ (.head _))
        go_wp2_with fail
        refine (C1.out _ hs.out.gl).mono ?_
        rintro e v0 ⟨rfl, hb⟩
        replace hs := Lib.hid (hs.out.step hb)
        clear hb
        clear a0 a1 a2 b0 b1 b2
        obtain ⟨a0, a1, a2⟩ := hs.out.c3 A1 _ _ _ _ (.head _)
        obtain ⟨b0, b1, b2⟩ := hs.out.c3 A2 _ _ _ _ (.tail _ (.head _))
        go_wp2_with fail
        refine (C2.out _ hs.out.gl).mono ?_
        rintro e v1 ⟨rfl, hb⟩
        replace hs := Lib.hid (hs.out.step hb)
        clear hb
        clear a0 a1 a2 b0 b1 b2
        go_upto_region 12 with fail
        go_cut [14] (fun s wc => s = .bool f ∧ Hid (Sx w [(A1, #[.int .i64 ka, .int .i64 na, .string sa], 23), (A2, #[.int .i64 kb, .int .i64 nb, .string sb], 23), (A3, #[.int .i64 kc, .int .i64 nc, .string sc], 23)] wc))
        case first =>
          obtain ⟨a0, a1, a2⟩ := hs.out.c3 A1 _ _ _ _ (.head _)
          obtain ⟨b0, b1, b2⟩ := hs.out.c3 A2 _ _ _ _ (.tail _ (.head _))
          by_cases hk : ka = kb
          · subst hk
            by_cases h3 : ka = 3
            · subst h3
              go_wp2_with fail
              go_meet
              exact ⟨congrArg Value.bool (by rw [← HF.out]; simp [ordered]), hs⟩
            · have e3 : (ka == 3) = false := by simpa using h3
              by_cases h4 : ka = 4
              · subst h4
                go_wp2_with fail
                go_meet
                exact ⟨congrArg Value.bool (by rw [← HF.out]; simp [ordered]), hs⟩
              · have e4 : (ka == 4) = false := by simpa using h4
                go_wp2_with fail
                go_meet
                exact ⟨congrArg Value.bool (by rw [← HF.out]; simp [ordered, h3, h4]), hs⟩
          · have e : (ka == kb) = false := by simpa using hk
            go_wp2_with fail
            go_meet
            exact ⟨congrArg Value.bool (by rw [← HF.out]; simp [ordered, hk]), hs⟩
        case rest =>
          obtain ⟨rfl, hs⟩ := hcut
          go_upto_region 15 with fail
          go_cut [93] (fun s wc => s = .bool false ∧ Hid (Sx w [(A1, #[.int .i64 ka, .int .i64 na, .string sa], 23), (A2, #[.int .i64 kb, .int .i64 nb, .string sb], 23), (A3, #[.int .i64 kc, .int .i64 nc, .string sc], 23)] wc))
          case first =>
            cases f
            · go_wp2_with fail
              go_meet
              exact ⟨rfl, hs⟩
            · have hq := run_veq ka na kb nb sa sb
              obtain ⟨a0, a1, a2⟩ := hs.out.c3 A1 _ _ _ _ (.head _)
              obtain ⟨b0, b1, b2⟩ := hs.out.c3 A2 _ _ _ _ (.tail _ (.head _))
              rcases H1.out rfl with ⟨rfl, rfl, e⟩ | ⟨rfl, rfl, e⟩ | ⟨rfl, rfl, e⟩
              all_goals
                replace e : veq ka na kb nb sa sb = _ := e
                rw [e] at hq
                clear e
                go_wp2_with fail
                go_meet
                exact ⟨rfl, hs⟩
          case rest =>
            obtain ⟨rfl, hs⟩ := hcut
            obtain ⟨b0, b1, b2⟩ := hs.out.c3 A2 _ _ _ _ (.tail _ (.head _))
            obtain ⟨c0, c1, c2⟩ := hs.out.c3 A3 _ _ _ _ (.tail _ (.tail _ (.head _)))
            go_wp2_with fail
            refine (C3.out _ hs.out.gl).mono ?_
            rintro e v2 ⟨rfl, hb⟩
            replace hs := Lib.hid (hs.out.step hb)
            clear hb
            clear b0 b1 b2 c0 c1 c2
            obtain ⟨a0, a1, a2⟩ := hs.out.c3 A1 _ _ _ _ (.head _)
            obtain ⟨c0, c1, c2⟩ := hs.out.c3 A3 _ _ _ _ (.tail _ (.tail _ (.head _)))
            go_wp2_with fail
            refine (C4.out _ hs.out.gl).mono ?_
            rintro e v3 ⟨rfl, hb⟩
            replace hs := Lib.hid (hs.out.step hb)
            clear hb
            clear a0 a1 a2 c0 c1 c2
            go_upto_region 19 with fail
            go_cut [121] (fun s wc => s = .bool false ∧ Hid (Sx w [(A1, #[.int .i64 ka, .int .i64 na, .string sa], 23), (A2, #[.int .i64 kb, .int .i64 nb, .string sb], 23), (A3, #[.int .i64 kc, .int .i64 nc, .string sc], 23)] wc))
            case first =>
              have H := Lib.hid (fun h1 h2 h3 h4 => H3.out h1 h2 h3 h4)
              clear H1 H3
              cases f
              · go_wp2_with fail
                go_meet
                exact ⟨rfl, hs⟩
              cases fz
              · go_wp2_with fail
                go_meet
                exact ⟨rfl, hs⟩
              cases x
              · go_wp2_with fail
                go_meet
                exact ⟨rfl, hs⟩
              cases z
              · go_wp2_with fail
                go_meet
                exact ⟨rfl, hs⟩
              obtain rfl := H.out rfl rfl rfl rfl
              go_wp2_with fail
              go_meet
              exact ⟨rfl, hs⟩
            case rest =>
              obtain ⟨rfl, hs⟩ := hcut
              go_wp2_with fail
              go_loopw [19] (fun i wr => ∃ k : Nat, 5 ≤ k ∧ k ≤ 15 ∧ i = .int .i64 k ∧ Hid (Sx w [(A1, #[.int .i64 ka, .int .i64 na, .string sa], 23), (A2, #[.int .i64 kb, .int .i64 nb, .string sb], 23), (A3, #[.int .i64 kc, .int .i64 nc, .string sc], 23)] wr)) (fun i _ => 15 - (intOf i).toNat)
              case atStart => exact ⟨5, by omega, by omega, rfl, hs⟩
              case round =>
                clear hs
                obtain ⟨k, hk5, hk, rfl, hs⟩ := hrel
                rcases Nat.lt_or_ge k 15 with h15 | h15
                · have BK := bin_kind k (ka, na, sa) (kb, nb, sb)
                  have BL := Lib.hid (bin_len k (ka, na, sa) (kb, nb, sb))
                  have CB := Lib.hid (fun w hB => binary_any k (ka, na, sa) (kb, nb, sb) w hB LL.out ML.out)
                  generalize bin k (ka, na, sa) (kb, nb, sb) = r at *
                  obtain ⟨⟨p, q, s⟩, g⟩ := r
                  simp only at BK BL
                  obtain ⟨a0, a1, a2⟩ := hs.out.c3 A1 _ _ _ _ (.head _)
                  obtain ⟨b0, b1, b2⟩ := hs.out.c3 A2 _ _ _ _ (.tail _ (.head _))
                  have hk9 : (5 : Int) ≤ k := by omega
                  have hk14 : (k : Int) ≤ 14 := by omega
                  go_wp2_with fail
                  refine (CB.out _ hs.out.gl.bnds).mono ?_
                  rintro e v4 ⟨rfl, hb⟩
                  replace hs := Lib.hid (hs.out.step hb)
                  clear hb
                  clear a0 a1 a2 b0 b1 b2
                  unfold V3.val vv
                  simp only
                  replace hs := Lib.hid (hs.out.add #[.int .i64 p, .int .i64 q, .string s] 23)
                  obtain ⟨d0, d1, d2⟩ := hs.out.c3 v4.heap.size _ _ _ _ (.head _)
                  rcases BK with ⟨rfl, hr, hkind⟩ | ⟨hg, hv⟩
                  · have hes := es_empty
                    have RR := Lib.hid (fun w hB => right_at p q s true hr BL.out w hB)
                    clear hr
                    have hkk : k ≤ 9 ∨ 10 ≤ k ∧ k ≤ 13 ∨ k = 14 := by omega
                    rcases hkk with h | ⟨h, h'⟩ | rfl
                    · obtain rfl : p = 3 := by rw [hkind]; unfold kindOf; rw [if_pos (by omega)]
                      clear hkind
                      have h9 : (k : Int) ≤ 9 := by omega
                      go_wp2_with fail
                      refine (RR.out _ hs.out.gl.bnds).mono ?_
                      rintro e v5 ⟨rfl, hb⟩
                      replace hs := Lib.hid (hs.out.step hb)
                      clear hb d0 d1 d2
                      obtain ⟨d0, d1, d2⟩ := hs.out.c3 v4.heap.size _ _ _ _ (.head _)
                      go_wp2_with fail
                      refine ⟨⟨k + 1, by omega, by omega, by simp, Lib.hid (hs.out.drop (fun p hp => .tail _ hp))⟩, by simp [intOf]; omega⟩
                    · obtain rfl : p = 2 := by rw [hkind]; unfold kindOf; rw [if_neg (by omega), if_neg (by omega)]
                      clear hkind
                      have h9 : (9 : Int) < k := by omega
                      have h14 : ((k : Int) == 14) = false := by simp; omega
                      go_wp2_with fail
                      refine (RR.out _ hs.out.gl.bnds).mono ?_
                      rintro e v5 ⟨rfl, hb⟩
                      replace hs := Lib.hid (hs.out.step hb)
                      clear hb d0 d1 d2
                      obtain ⟨d0, d1, d2⟩ := hs.out.c3 v4.heap.size _ _ _ _ (.head _)
                      go_wp2_with fail
                      refine ⟨⟨k + 1, by omega, by omega, by simp, Lib.hid (hs.out.drop (fun p hp => .tail _ hp))⟩, by simp [intOf]; omega⟩
                    · obtain rfl : p = 4 := by rw [hkind]; rfl
                      clear hkind
                      go_wp2_with fail
                      refine (RR.out _ hs.out.gl.bnds).mono ?_
                      rintro e v5 ⟨rfl, hb⟩
                      replace hs := Lib.hid (hs.out.step hb)
                      clear hb d0 d1 d2
                      obtain ⟨d0, d1, d2⟩ := hs.out.c3 v4.heap.size _ _ _ _ (.head _)
                      go_wp2_with fail
                      refine ⟨⟨14 + 1, by omega, by omega, by simp, Lib.hid (hs.out.drop (fun p hp => .tail _ hp))⟩, by simp [intOf]⟩
                  · obtain ⟨rfl, rfl, rfl⟩ : p = 0 ∧ q = 0 ∧ s = es := by simpa [z3] using hv
                    have hne := bytes_full hg
                    have hv' := run_vrefl 0 0 es
                    clear hg hv
                    unfold es at *
                    have hkk : k ≤ 9 ∨ 10 ≤ k ∧ k ≤ 13 ∨ k = 14 := by omega
                    rcases hkk with h | ⟨h, h'⟩ | rfl
                    · have h9 : (k : Int) ≤ 9 := by omega
                      go_wp2_with fail
                      refine ⟨⟨k + 1, by omega, by omega, by simp, Lib.hid (hs.out.drop (fun p hp => .tail _ hp))⟩, by simp [intOf]; omega⟩
                    · have h9 : (9 : Int) < k := by omega
                      have h14 : ((k : Int) == 14) = false := by simp; omega
                      go_wp2_with fail
                      refine ⟨⟨k + 1, by omega, by omega, by simp, Lib.hid (hs.out.drop (fun p hp => .tail _ hp))⟩, by simp [intOf]; omega⟩
                    · go_wp2_with fail
                      refine ⟨⟨14 + 1, by omega, by omega, by simp, Lib.hid (hs.out.drop (fun p hp => .tail _ hp))⟩, by simp [intOf]⟩
                · obtain rfl : k = 15 := by omega
                  go_wp2_with fail
                  go_ret
                  exact ⟨rfl, hs.out.be⟩
end Go.Proofs.YtibjhcgfjhbgoaaGreatDoor.Va
