/-
  The walk of CacheFull.
-/
import Derived.Test.YtpgjmmlgaanelaaDoorCl
namespace Go.Proofs.YtpgjmmlgaanelaaDoor.Ch
open Go Go.RowKit Go.Maps

theorem zeroBool (w : World) : (zeroValue 4).run Tryd.prog w = .ok (.bool false) w := by kernel_rfl
/-- A datum that is a set of ints. -/
structure InD (D : DataW Unit) (l : List Int) : Prop where
  has_ : ∀ s, I64 s → Maps.has D (.int .i64 s) = decide (s ∈ l)
  size_ : Maps.size D = l.length
/-- Block m is a set of ints, kept as a map to bools. -/
def In (w : World) (m N : Nat) (l : List Int) : Prop := ∃ D : DataW Unit, w.ownsMap Tryd.prog 3 (plainElem Tryd.prog 4) m N D ∧ InD D l
theorem In.made (w : World) : In (w.alloc (.map #[] 0)) w.heap.size 0 [] := ⟨_, World.ownsMap_made _ _ _ _, fun s _ => by simp [Maps.has], by simp [Maps.size]⟩
theorem In.lt {w : World} {m N : Nat} {l : List Int} (h : In w m N l) : m < w.heap.size := by obtain ⟨_, h, _⟩ := h; exact h.lt
theorem In.keep {w w' : World} {m N : Nat} {l : List Int} (h : In w m N l) (hk : w'.heap[m]? = w.heap[m]?) : In w' m N l := by obtain ⟨D, h, k⟩ := h; exact ⟨D, own_keepM h hk, k⟩
theorem In.len {w : World} {m N : Nat} {l : List Int} (h : In w m N l) (ty : TypeId) : (Builtin.len_ #[43] ty #[.map (some m)]).run Tryd.prog w = .ok (.int .i64 (l.length : Nat)) w := by
  obtain ⟨D, ho, k⟩ := h
  rw [ho.len Tryd.underlying43, k.size_]
def addI (x : Int) (l : List Int) : List Int := if x ∈ l then l else l ++ [x]
theorem addI_mem {x : Int} {l : List Int} : x ∈ addI x l := by unfold addI; split <;> simp_all
theorem InD.put {D : DataW Unit} {l : List Int} (h : InD D l) (ht : Tidy D) {s : Int} (hs : I64 s) : InD (D.put (.int .i64 s) (.lit (.bool true))) (addI s l) := by
  refine ⟨fun x hx => ?_, ?_⟩
  · by_cases e : x = s
    · subst e
      rw [has_put_same ht.isMap (by trivial)]
      simp [addI_mem]
    · rw [has_put_other (fun h => e (Lit.int.inj h).2), h.has_ x hx]
      unfold addI
      split
      · rfl
      · simp [e]
  · rw [size_put ht, h.has_ s hs, h.size_]
    unfold addI
    by_cases e : s ∈ l
    · simp [e]
    · simp [e]
/-- A site after some calls of Learn with shapes of which those of D are the different ones. -/
def FullR (t : Ste) (D : List Int) : Prop := (t.full = false ∧ D.length ≤ 4 ∧ t.l.map (·.1) = D) ∨ (t.full = true ∧ t.l = [] ∧ 4 < D.length)
theorem lk_some_iff {s : Int} {l : List (Int × Int)} : (lk s l).isSome = true ↔ s ∈ l.map (·.1) := by
  cases h : lk s l with
  | some b => simp only [Option.isSome_some, true_iff]; exact List.mem_map.2 ⟨_, lk_mem h, rfl⟩
  | none =>
    simp only [Option.isSome_none, Bool.false_eq_true, false_iff]
    intro hm
    obtain ⟨p, hp, e⟩ := List.mem_map.1 hm
    exact lk_none.1 h p hp e
/-- One call of Learn, while fewer than five different shapes have come, and behind that. -/
theorem full_step {t : Ste} {D : List Int} (h : FullR t D) {x v : Int} (hx : 0 ≤ x) (hv : 0 ≤ v) :
    ((addI x D).length ≤ 4 ∧ ∃ t' b, t.learn x v = (0, t') ∧ FullR t' (addI x D) ∧ t'.full = false ∧ lk x t'.l = some b) ∨
    (4 < (addI x D).length ∧ ∃ t', t.learn x v = (2, t') ∧ FullR t' (addI x D) ∧ t'.full = true ∧ t'.l = []) := by
  rcases h with ⟨hf, h4, hD⟩ | ⟨hf, hl, h4⟩
  · unfold Ste.learn
    rw [if_neg (by omega), if_neg (by rw [hf]; decide)]
    cases hl : lk x t.l with
    | some b =>
      have hm : x ∈ D := by rw [← hD]; exact lk_some_iff.1 (by rw [hl]; rfl)
      have e : addI x D = D := if_pos hm
      rw [e]
      have hu : lk x (upd x v t.l) = some v := by rw [lk_upd _ (by rw [hl]; simp)]; simp
      exact .inl ⟨h4, _, v, rfl, .inl ⟨hf, h4, by show (upd x v t.l).map (·.1) = D; rw [upd_keys, hD]⟩, hf, hu⟩
    | none =>
      have hm : x ∉ D := fun hm => by
        have := lk_some_iff.2 (show x ∈ t.l.map (·.1) by rw [hD]; exact hm)
        rw [hl] at this; cases this
      have e : addI x D = D ++ [x] := if_neg hm
      have hlen : t.l.length = D.length := by rw [← hD, List.length_map]
      rw [e]
      by_cases h5 : t.l.length = 4
      · simp only [if_pos h5]
        refine .inr ⟨by simp; omega, _, rfl, .inr ⟨rfl, rfl, by simp; omega⟩, rfl, rfl⟩
      · simp only [if_neg h5]
        refine .inl ⟨by simp; omega, _, v, rfl, .inl ⟨hf, by simp; omega, by show (t.l ++ [(x, v)]).map (·.1) = _; rw [List.map_append, hD]; rfl⟩, hf, ?_⟩
        show lk x (t.l ++ [(x, v)]) = some v
        rw [lk_snoc hl]; simp
  · refine .inr ⟨by unfold addI; split; exact h4; simp; omega, t, ?_, .inr ⟨hf, hl, by unfold addI; split; exact h4; simp; omega⟩, hf, hl⟩
    unfold Ste.learn
    rw [if_neg (by omega), if_pos hf]
/-- What the loop keeps. -/
structure Lu (K : Kit) (w0 w : World) (p : Nat) (t : Ste) (F : Nat → Prop) (n m N : Nat) (D : List Int) : Prop where
  a : Tr K w0 w p t F n
  k : In w m N D
  d : ¬ F m
  g : w0.heap.size ≤ m
  r : FullR t D
section
variable {K : Kit} {w0 w w' : World} {p n m N : Nat} {t t' : Ste} {F F' : Nat → Prop} {D D' : List Int}
theorem Lu.below (h : Lu K w0 w p t F n m N D) (hb : Below w.heap.size w w') : Lu K w0 w' p t F n m N D := ⟨h.a.below hb, h.k.keep (hb.block _ h.k.lt), h.d, h.g, h.r⟩
theorem Lu.drewN (h : Lu K w0 w p t F n m N D) (k : Nat) : Lu K w0 (w.drewN k) p t F n m N D := ⟨h.a.drewN k, h.k.keep rfl, h.d, h.g, h.r⟩
theorem Lu.drew (h : Lu K w0 w p t F n m N D) : Lu K w0 w.drew p t F n m N D := h.drewN 1
theorem Lu.step {n' : Nat} (h : Lu K w0 w p t F n m N D) (h' : Tr K w0 w' p t' F' n') (c : Chg F w w') (s : Sub F F' w) (r : FullR t' D) : Lu K w0 w' p t' F' n' m N D :=
  ⟨h', h.k.keep (c.block _ h.k.lt h.d), fun e => (s _ e).elim h.d (by have := h.k.lt; omega), h.g, r⟩
end
/-- The same, but for what the map is said to be. -/
structure Lp (K : Kit) (w0 w : World) (p : Nat) (t : Ste) (F : Nat → Prop) (n m N : Nat) (D : List Int) : Prop where
  a : Tr K w0 w p t F n
  k : In w m N D
  d : ¬ F m
  g : w0.heap.size ≤ m
theorem Lp.of {K : Kit} {w0 w w' : World} {p n m N N' : Nat} {t : Ste} {F : Nat → Prop} {D D' : List Int} (h : Lu K w0 w p t F n m N D) (hg : w.grownBy w' (some m)) (k : In w' m N' D') : Lp K w0 w' p t F n m N' D' := by
  refine ⟨⟨K.keep h.a.h fun b hb => hg.block b (K.lt h.a.h b hb) (fun e => by injection e with e; subst e; exact h.d hb), h.a.b.trans ⟨hg.os, hg.tape, hg.output, hg.size, fun b hb => hg.block b (Nat.lt_of_lt_of_le hb h.a.b.size) (fun e => by injection e with e; have := h.g; omega)⟩, h.a.f, h.a.v, h.a.k, h.a.s⟩, k, h.d, h.g⟩
theorem Lp.step {K : Kit} {w0 w w' : World} {p n n' m N : Nat} {t t' : Ste} {F F' : Nat → Prop} {D : List Int} (h : Lp K w0 w p t F n m N D) (h' : Tr K w0 w' p t' F' n') (c : Chg F w w') (s : Sub F F' w) (r : FullR t' D) : Lu K w0 w' p t' F' n' m N D :=
  ⟨h', h.k.keep (c.block _ h.k.lt h.d), fun e => (s _ e).elim h.d (by have := h.k.lt; omega), h.g, r⟩
set_option maxRecDepth 100000 in
set_option maxHeartbeats 8000000 in
theorem full_walk (K : Kit) (bs : List Int) (A : Option Addr) (c B : Nat) (w : World) (ha : ByS w B A bs) (hB : B ≤ w.heap.size) (hl : bs.length ≤ 140737488351232) (hok : ∀ x ∈ bs, 0 ≤ x ∧ x ≤ 255) (hk : K.V w) :
    Calls Tryd.prog 5 #[.slice A bs.length c] w fun e w' => e = .returned (.bool true) ∧ Below w.heap.size w w' := by
  have HV := Lib.hid hk
  have HA := Lib.hid ha
  have HOK := Lib.hid hok
  clear hk ha hok
  have hmm := @run_makeMap Tryd.prog
  go_enter Tryd.func5, Tryd.ntmps5
  go_wp2_with fail
  refine (sanity_any K _ HV.out).mono ?_
  rintro e w1 ⟨rfl, hb⟩
  have B1 := Lib.hid hb
  clear hb
  go_wp2_with fail
  refine (new_at (w0 := w) HV.out B1.out).mono ?_
  rintro e w2 ⟨p, F, rfl, h, _⟩
  obtain ⟨m, hm⟩ : ∃ m, w2.heap.size = m := ⟨_, rfl⟩
  have TW := Lib.hid (show Lu K w (w2.alloc (.map #[] 0)) p st0 F 0 m 0 [] from ⟨h.alloc _, by rw [← hm]; exact In.made w2, fun e => Nat.lt_irrefl m (by have := K.lt h.h _ e; omega), by rw [← hm]; exact h.b.size, .inl ⟨rfl, by simp, rfl⟩⟩)
  clear h
  go_wp2_with fail
  (first | rw [hm] | skip)
  clear hm
  go_loopw [6] (fun i wr => ∃ (k : Nat) (F : Nat → Prop) (t : Ste) (D : List Int), k ≤ 30 ∧ k ≤ bs.length ∧ i = .int .i64 k ∧ Hid (Lu K w wr p t F k m k D)) (fun i _ => 30 - (intOf i).toNat)
  case atStart => exact ⟨0, F, st0, [], by omega, by omega, rfl, TW⟩
  case round =>
    clear TW
    obtain ⟨k, F, t, D, h60, hk, rfl, TW⟩ := hrel
    by_cases h1 : k < bs.length
    · by_cases h2 : k < 30
      · obtain ⟨b, o, rfl, hb, c0⟩ := HA.out.below TW.out.a.b hB k _ (List.getElem?_eq_getElem h1)
        obtain ⟨x1, x2⟩ := HOK.out _ (List.getElem_mem h1)
        generalize bs[k] = y at *
        have h3 : (k : Int) < bs.length := by omega
        have h4 : (k : Int) < 30 := by omega
        have x3 : 0 ≤ y % 9 := Int.emod_nonneg _ (by omega)
        have x4 : y % 9 < 9 := Int.emod_lt_of_pos _ (by omega)
        have XI := Lib.hid (show I64 (y % 9) from ⟨by omega, by omega⟩)
        have KI := Lib.hid (show I64 (k : Int) from ⟨by omega, by omega⟩)
        have KX := Lib.hid (keyOf_int_mk (P := Tryd.prog) Tryd.underlying3 (wfI XI.out))
        obtain ⟨DD, ho, hD⟩ := TW.out.k
        have HD := Lib.hid hD
        have TD := Lib.hid (ho.tidy intLaw)
        clear hb hD
        rcases full_step TW.out.r x3 (show (0 : Int) ≤ (k : Int) by omega) with ⟨e0, t', bb, e1, e2, e3, e4⟩ | ⟨e0, t', e1, e2, e3, e4⟩
        · skip
          obtain ⟨N, hN⟩ : ∃ N, (addI (y % 9) D).length = N := ⟨_, rfl⟩
          rw [hN] at e0
          have LN := Lib.hid hN
          have LE := Lib.hid e1
          have FR := Lib.hid e2
          have FU := Lib.hid e3
          have LK := Lib.hid e4
          clear e1 e2 e3 e4 hN
          have N4 : N ≤ 4 := e0
          go_wp2_with (at_mapUpdate; refine wpList_mapUpdate_own _ rfl _ _ _ 43 rfl 3 4 intLaw Tryd.underlying43 _ m k _ rfl ho (by unfold maxLen; omega) _ _ _ rfl rfl KX.out _ [] (plainElem_bool Tryd.underlying4 true) ?_)
          intro w3 ho1 hg1
          have LP := Lib.hid (Lp.of TW.out hg1 ⟨_, ho1, HD.out.put TD.out XI.out⟩)
          clear ho ho1 hg1 TW
          go_wp2_with fail
          refine (learn_at LP.out.a XI.out KI.out LE.out).mono ?_
          rintro e w4 ⟨F', rfl, h, c, s⟩
          have TW := Lib.hid (LP.out.step h c s FR.out)
          clear h c s LP
          have LL := TW.out.k.len
          rw [LN.out] at LL
          go_wp2_with fail
          clear LL
          obtain ⟨t2, f1, f2, f3⟩ := find_hit LK.out
          have FE := Lib.hid f1
          have FR2 := Lib.hid (show FullR t2 (addI (y % 9) D) by unfold FullR at *; rw [f2, f3]; exact FR.out)
          have ST := Lib.hid (show t2.state = min (N : Int) 2 by
            unfold Ste.state; rw [f3, FU.out, f2, ← LN.out]
            rcases FR.out with ⟨_, _, h⟩ | ⟨h, _, _⟩
            · rw [← h, List.length_map]; rfl
            · rw [FU.out] at h; cases h)
          clear f1 f2 f3
          refine (find_at TW.out.a (by omega) XI.out FE.out).mono ?_
          rintro e w5 ⟨F5, rfl, h, c, s⟩
          replace TW := Lib.hid (TW.out.step h c s FR2.out)
          clear h c s
          have LL := TW.out.k.len
          rw [LN.out] at LL
          go_wp2_with fail
          clear LL
          rcases (show N = 0 ∨ N = 1 ∨ N = 2 ∨ N = 3 ∨ N = 4 by omega) with rfl | rfl | rfl | rfl | rfl
          · replace ST := Lib.hid (show t2.state = 0 from ST.out)
            refine (state_at TW.out.a ST.out).mono ?_
            rintro e w6 ⟨rfl, _, hb⟩
            replace TW := Lib.hid (TW.out.below hb)
            clear hb
            have LL := TW.out.k.len
            rw [LN.out] at LL
            go_wp2_with fail
            clear LL
            refine (state_at TW.out.a ST.out).mono ?_
            rintro e w6 ⟨rfl, _, hb⟩
            replace TW := Lib.hid (TW.out.below hb)
            clear hb
            have LL := TW.out.k.len
            rw [LN.out] at LL
            go_wp2_with fail
            clear LL
            refine (state_at TW.out.a ST.out).mono ?_
            rintro e w6 ⟨rfl, _, hb⟩
            replace TW := Lib.hid (TW.out.below hb)
            clear hb
            have LL := TW.out.k.len
            rw [LN.out] at LL
            go_wp2_with fail
            go_roundw
            case rel => exact ⟨k + 1, _, t2, addI (y % 9) D, by omega, by omega, by go_num, TW⟩
            case measure => simp [intOf]; omega
          · replace ST := Lib.hid (show t2.state = 1 from ST.out)
            refine (state_at TW.out.a ST.out).mono ?_
            rintro e w6 ⟨rfl, _, hb⟩
            replace TW := Lib.hid (TW.out.below hb)
            clear hb
            have LL := TW.out.k.len
            rw [LN.out] at LL
            go_wp2_with fail
            clear LL
            refine (state_at TW.out.a ST.out).mono ?_
            rintro e w6 ⟨rfl, _, hb⟩
            replace TW := Lib.hid (TW.out.below hb)
            clear hb
            have LL := TW.out.k.len
            rw [LN.out] at LL
            go_wp2_with fail
            clear LL
            refine (state_at TW.out.a ST.out).mono ?_
            rintro e w6 ⟨rfl, _, hb⟩
            replace TW := Lib.hid (TW.out.below hb)
            clear hb
            have LL := TW.out.k.len
            rw [LN.out] at LL
            go_wp2_with fail
            go_roundw
            case rel => exact ⟨k + 1, _, t2, addI (y % 9) D, by omega, by omega, by go_num, TW⟩
            case measure => simp [intOf]; omega
          · replace ST := Lib.hid (show t2.state = 2 from ST.out)
            refine (state_at TW.out.a ST.out).mono ?_
            rintro e w6 ⟨rfl, _, hb⟩
            replace TW := Lib.hid (TW.out.below hb)
            clear hb
            have LL := TW.out.k.len
            rw [LN.out] at LL
            go_wp2_with fail
            clear LL
            refine (state_at TW.out.a ST.out).mono ?_
            rintro e w6 ⟨rfl, _, hb⟩
            replace TW := Lib.hid (TW.out.below hb)
            clear hb
            have LL := TW.out.k.len
            rw [LN.out] at LL
            go_wp2_with fail
            clear LL
            refine (state_at TW.out.a ST.out).mono ?_
            rintro e w6 ⟨rfl, _, hb⟩
            replace TW := Lib.hid (TW.out.below hb)
            clear hb
            have LL := TW.out.k.len
            rw [LN.out] at LL
            go_wp2_with fail
            go_roundw
            case rel => exact ⟨k + 1, _, t2, addI (y % 9) D, by omega, by omega, by go_num, TW⟩
            case measure => simp [intOf]; omega
          · replace ST := Lib.hid (show t2.state = 2 from ST.out)
            refine (state_at TW.out.a ST.out).mono ?_
            rintro e w6 ⟨rfl, _, hb⟩
            replace TW := Lib.hid (TW.out.below hb)
            clear hb
            have LL := TW.out.k.len
            rw [LN.out] at LL
            go_wp2_with fail
            clear LL
            refine (state_at TW.out.a ST.out).mono ?_
            rintro e w6 ⟨rfl, _, hb⟩
            replace TW := Lib.hid (TW.out.below hb)
            clear hb
            have LL := TW.out.k.len
            rw [LN.out] at LL
            go_wp2_with fail
            clear LL
            refine (state_at TW.out.a ST.out).mono ?_
            rintro e w6 ⟨rfl, _, hb⟩
            replace TW := Lib.hid (TW.out.below hb)
            clear hb
            have LL := TW.out.k.len
            rw [LN.out] at LL
            go_wp2_with fail
            go_roundw
            case rel => exact ⟨k + 1, _, t2, addI (y % 9) D, by omega, by omega, by go_num, TW⟩
            case measure => simp [intOf]; omega
          · replace ST := Lib.hid (show t2.state = 2 from ST.out)
            refine (state_at TW.out.a ST.out).mono ?_
            rintro e w6 ⟨rfl, _, hb⟩
            replace TW := Lib.hid (TW.out.below hb)
            clear hb
            have LL := TW.out.k.len
            rw [LN.out] at LL
            go_wp2_with fail
            clear LL
            refine (state_at TW.out.a ST.out).mono ?_
            rintro e w6 ⟨rfl, _, hb⟩
            replace TW := Lib.hid (TW.out.below hb)
            clear hb
            have LL := TW.out.k.len
            rw [LN.out] at LL
            go_wp2_with fail
            clear LL
            refine (state_at TW.out.a ST.out).mono ?_
            rintro e w6 ⟨rfl, _, hb⟩
            replace TW := Lib.hid (TW.out.below hb)
            clear hb
            have LL := TW.out.k.len
            rw [LN.out] at LL
            go_wp2_with fail
            go_roundw
            case rel => exact ⟨k + 1, _, t2, addI (y % 9) D, by omega, by omega, by go_num, TW⟩
            case measure => simp [intOf]; omega
        · skip
          obtain ⟨N, hN⟩ : ∃ N, (addI (y % 9) D).length = N := ⟨_, rfl⟩
          rw [hN] at e0
          have LN := Lib.hid hN
          have LE := Lib.hid e1
          have FR := Lib.hid e2
          have FU := Lib.hid e3
          have LK := Lib.hid e4
          clear e1 e2 e3 e4 hN
          have N5 : 4 < N := e0
          go_wp2_with (at_mapUpdate; refine wpList_mapUpdate_own _ rfl _ _ _ 43 rfl 3 4 intLaw Tryd.underlying43 _ m k _ rfl ho (by unfold maxLen; omega) _ _ _ rfl rfl KX.out _ [] (plainElem_bool Tryd.underlying4 true) ?_)
          intro w3 ho1 hg1
          have LP := Lib.hid (Lp.of TW.out hg1 ⟨_, ho1, HD.out.put TD.out XI.out⟩)
          clear ho ho1 hg1 TW
          go_wp2_with fail
          refine (learn_at LP.out.a XI.out KI.out LE.out).mono ?_
          rintro e w4 ⟨F', rfl, h, c, s⟩
          have TW := Lib.hid (LP.out.step h c s FR.out)
          clear h c s LP
          have LL := TW.out.k.len
          rw [LN.out] at LL
          go_wp2_with fail
          clear LL
          obtain ⟨t2, f1, f2, f3⟩ := find_miss (t := t') (s := y % 9) (by rw [LK.out]; rfl)
          have FE := Lib.hid f1
          have FR2 := Lib.hid (show FullR t2 (addI (y % 9) D) by unfold FullR at *; rw [f2, f3]; exact FR.out)
          have ST := Lib.hid (show t2.state = 3 by
            unfold Ste.state; rw [f3, FU.out]; rfl)
          clear f1 f2 f3
          refine (find_at TW.out.a (by omega) XI.out FE.out).mono ?_
          rintro e w5 ⟨F5, rfl, h, c, s⟩
          replace TW := Lib.hid (TW.out.step h c s FR2.out)
          clear h c s
          have LL := TW.out.k.len
          rw [LN.out] at LL
          go_wp2_with fail
          clear LL
          refine (state_at TW.out.a ST.out).mono ?_
          rintro e w6 ⟨rfl, _, hb⟩
          replace TW := Lib.hid (TW.out.below hb)
          clear hb
          have LL := TW.out.k.len
          rw [LN.out] at LL
          go_wp2_with fail
          clear LL
          refine (state_at TW.out.a ST.out).mono ?_
          rintro e w6 ⟨rfl, _, hb⟩
          replace TW := Lib.hid (TW.out.below hb)
          clear hb
          go_wp2_with fail
          go_roundw
          case rel => exact ⟨k + 1, _, t2, addI (y % 9) D, by omega, by omega, by go_num, TW⟩
          case measure => simp [intOf]; omega
      · obtain rfl : k = 30 := by omega
        rcases TW.out.r with ⟨hf, _, _⟩ | ⟨hf, hl', _⟩
        · obtain ⟨st, hst⟩ : ∃ st, t.state = st := ⟨_, rfl⟩
          have sne : ¬ st = 3 := by rw [← hst]; exact state_ne hf
          have ST := Lib.hid hst
          clear hst hf
          go_wp2_with fail
          refine (state_at TW.out.a ST.out).mono ?_
          rintro e w3 ⟨rfl, _, hb⟩
          replace TW := Lib.hid (TW.out.below hb)
          clear hb
          go_wp2_with fail
          go_ret
          exact ⟨rfl, TW.out.a.b⟩
        · have ST := Lib.hid (state_full hf)
          have SH := Lib.hid (show t.shapes = [] by unfold Ste.shapes; rw [hl']; rfl)
          obtain ⟨t', ht'⟩ : ∃ t', (t.forget 0).2 = t' := ⟨_, rfl⟩
          have FG := Lib.hid (show t.forget 0 = (false, t') by rw [← ht']; unfold Ste.forget; rw [hl']; rfl)
          have TX := Lib.hid (show t'.text = bFull.data.toList by rw [← ht']; show (if t.full = true then _ else _) = _; rw [if_pos hf]; rfl)
          clear ht' hf hl'
          have HF : bFull = ⟨#[102, 117, 108, 108]⟩ := rfl
          go_wp2_with fail
          refine (state_at TW.out.a ST.out).mono ?_
          rintro e w3 ⟨rfl, _, hb⟩
          replace TW := Lib.hid (TW.out.below hb)
          clear hb
          go_wp2_with fail
          refine (shapes_at TW.out.a SH.out).mono ?_
          rintro e w4 ⟨v, rfl, ho, _, hb⟩
          obtain ⟨A1, c1, rfl, _⟩ := ho.form
          replace TW := Lib.hid (TW.out.below hb)
          clear hb ho
          go_wp2_with fail
          refine (forget_at TW.out.a (i64 (by omega) (by omega)) FG.out).mono ?_
          rintro e w5 ⟨F5, rfl, h, _, _⟩
          have TA := Lib.hid h
          clear h TW
          go_wp2_with fail
          refine (text_at TA.out TX.out).mono ?_
          rintro e w6 ⟨rfl, h, _⟩
          replace TA := Lib.hid h
          clear h
          go_wp2_with fail
          go_ret
          exact ⟨rfl, TA.out.b⟩
    · obtain rfl : k = bs.length := by omega
      rcases TW.out.r with ⟨hf, _, _⟩ | ⟨hf, hl', _⟩
      · obtain ⟨st, hst⟩ : ∃ st, t.state = st := ⟨_, rfl⟩
        have sne : ¬ st = 3 := by rw [← hst]; exact state_ne hf
        have ST := Lib.hid hst
        clear hst hf
        go_wp2_with fail
        refine (state_at TW.out.a ST.out).mono ?_
        rintro e w3 ⟨rfl, _, hb⟩
        replace TW := Lib.hid (TW.out.below hb)
        clear hb
        go_wp2_with fail
        go_ret
        exact ⟨rfl, TW.out.a.b⟩
      · have ST := Lib.hid (state_full hf)
        have SH := Lib.hid (show t.shapes = [] by unfold Ste.shapes; rw [hl']; rfl)
        obtain ⟨t', ht'⟩ : ∃ t', (t.forget 0).2 = t' := ⟨_, rfl⟩
        have FG := Lib.hid (show t.forget 0 = (false, t') by rw [← ht']; unfold Ste.forget; rw [hl']; rfl)
        have TX := Lib.hid (show t'.text = bFull.data.toList by rw [← ht']; show (if t.full = true then _ else _) = _; rw [if_pos hf]; rfl)
        clear ht' hf hl'
        have HF : bFull = ⟨#[102, 117, 108, 108]⟩ := rfl
        go_wp2_with fail
        refine (state_at TW.out.a ST.out).mono ?_
        rintro e w3 ⟨rfl, _, hb⟩
        replace TW := Lib.hid (TW.out.below hb)
        clear hb
        go_wp2_with fail
        refine (shapes_at TW.out.a SH.out).mono ?_
        rintro e w4 ⟨v, rfl, ho, _, hb⟩
        obtain ⟨A1, c1, rfl, _⟩ := ho.form
        replace TW := Lib.hid (TW.out.below hb)
        clear hb ho
        go_wp2_with fail
        refine (forget_at TW.out.a (i64 (by omega) (by omega)) FG.out).mono ?_
        rintro e w5 ⟨F5, rfl, h, _, _⟩
        have TA := Lib.hid h
        clear h TW
        go_wp2_with fail
        refine (text_at TA.out TX.out).mono ?_
        rintro e w6 ⟨rfl, h, _⟩
        replace TA := Lib.hid h
        clear h
        go_wp2_with fail
        go_ret
        exact ⟨rfl, TA.out.b⟩
end Go.Proofs.YtpgjmmlgaanelaaDoor.Ch
