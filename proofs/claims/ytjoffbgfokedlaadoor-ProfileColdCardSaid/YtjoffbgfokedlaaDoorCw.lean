/-
  The walk of ProfileCold.
-/
import Derived.Test.YtjoffbgfokedlaaDoorCo
import Derived.Test.YtjoffbgfokedlaaDoorPt
import Derived.Test.YtjoffbgfokedlaaDoorPo
import Derived.Test.YtjoffbgfokedlaaDoorSa
namespace Go.Proofs.YtjoffbgfokedlaaDoor.Pf
open Go Go.RowKit Go.Maps

/-- The law's own map of how often exits were left. -/
def Lm (w : World) (m n : Nat) (left : Int → Int) : Prop := ∃ D, w.ownsMap Tryd.prog 3 (plainElem Tryd.prog 3) m n D ∧ ExD D left
theorem Lm.made (w : World) : Lm (w.alloc (.map #[] 0)) w.heap.size 0 fun _ => 0 := ⟨_, World.ownsMap_made w _ _ _, fun i _ => by simp [DataW.atKey]⟩
theorem Lm.keep {w w' : World} {m n : Nat} {left : Int → Int} (h : Lm w m n left) (hk : w'.heap[m]? = w.heap[m]?) : Lm w' m n left := by
  obtain ⟨D, hm, hD⟩ := h
  exact ⟨D, map_keep hm hk, hD⟩
theorem Lm.lt {w : World} {m n : Nat} {left : Int → Int} (h : Lm w m n left) : m < w.heap.size := by
  obtain ⟨D, hm, _⟩ := h
  exact hm.lt
set_option maxRecDepth 100000 in
theorem Lm.look {w : World} {m n : Nat} {left : Int → Int} (h : Lm w m n left) {e : Int} (he : I64 e) : (Instr.lookup 59 (.map (some m)) (.int .i64 e) false).run Tryd.prog w = .ok (.int .i64 (left e)) w := by
  obtain ⟨D, hm, hD⟩ := h
  obtain ⟨c, hrun, hat, _⟩ := hm.lookup_int intLaw Tryd.underlying59 Tryd.underlying3 (zeroInt w) (key_int he)
  rw [hD e he] at hat
  injection hat with hat
  injection hat with _ hat
  rw [hrun, hat]
theorem Lm.put {w : World} {m n : Nat} {left : Int → Int} (h : Lm w m n left) {e k : Int} (he : I64 e) (hk : I64 k) (hn : n ≤ 1000000) :
    ∃ w', (Instr.mapUpdate 59 (.map (some m)) (.int .i64 e) (.int .i64 k)).run Tryd.prog w = .ok () w' ∧ Lm w' m (n + 1) (fun i => if i = e then k else left i) ∧ w.grownBy w' (some m) := by
  obtain ⟨D, hm, hD⟩ := h
  obtain ⟨w', hrun, hm', hg⟩ := hm.update intLaw Tryd.underlying59 (by unfold maxLen; omega) (key_int he) (plainElem_int Tryd.underlying3 (wf_int hk))
  refine ⟨w', hrun, ⟨_, hm', fun i hi => ?_⟩, hg⟩
  by_cases h1 : i = e
  · subst h1
    rw [atKey_put_same hm.isMap (by trivial)]; simp only [if_true]
  · rw [atKey_put_other (fun h => h1 (Lit.int.inj h).2), hD i hi]; simp only [if_neg h1]
/-- The profile, the place, the map, each apart. -/
structure Cd (K : Kit) (w0 w : World) (p : Nat) (t : Pst) (F : Nat → Prop) (n b3 m q : Nat) (left : Int → Int) : Prop where
  r : Tr K w0 w p t F n
  x : Own F w b3 #[.int .i64 0, .int .i64 0] 43
  l : Lm w m q left
  f : ¬ F m
  b : w0.heap.size ≤ m
section
variable {K : Kit} {w0 w w' : World} {p n n' b3 m q : Nat} {t t' : Pst} {F F' : Nat → Prop} {left left' : Int → Int}
theorem Cd.low (h : Cd K w0 w p t F n b3 m q left) (hb : Below w.heap.size w w') : Cd K w0 w' p t F n b3 m q left := ⟨h.r.below hb, h.x.low hb, h.l.keep (hb.block m h.l.lt), h.f, h.b⟩
theorem Cd.code (h : Cd K w0 w p t F n b3 m q left) (h' : Tr K w0 w' p t' F' n') (k : Chg F w w') (s : Sub F F' w) : Cd K w0 w' p t' F' n' b3 m q left :=
  ⟨h', h.x.code k s, h.l.keep (k.block m h.l.lt h.f), fun e => (s _ e).elim h.f (by have := h.l.lt; omega), h.b⟩
theorem Cd.map (h : Cd K w0 w p t F n b3 m q left) (hl : Lm w' m (q + 1) left') (hg : w.grownBy w' (some m)) : Cd K w0 w' p t F n b3 m (q + 1) left' := by
  have hk : ∀ b, F b → w'.heap[b]? = w.heap[b]? := fun b hb => hg.block b (K.lt h.r.h b hb) (fun e => h.f (by injection e with e; rw [← e]; exact hb))
  refine ⟨⟨K.keep h.r.h hk, h.r.b.grown hg h.r.b.size (fun k e => by injection e with e; rw [← e]; exact h.b), h.r.f, h.r.v, h.r.k, h.r.s⟩, ⟨?_, h.x.f⟩, hl, h.f, h.b⟩
  exact h.x.k.keep (hg.block b3 h.x.k.lt (fun e => by
    obtain ⟨D, hm, _⟩ := h.l
    exact map_ne h.x.k hm (Option.some.inj e)))
/-- A new map. -/
theorem Cd.fresh (h : Cd K w0 w p t F n b3 m q left) : Cd K w0 (w.alloc (.map #[] 0)) p t F n b3 w.heap.size 0 fun _ => 0 :=
  ⟨h.r.alloc _, h.x.alloc _, Lm.made w, fun e => Nat.lt_irrefl _ (K.lt h.r.h _ e), h.r.b.size⟩
theorem cd_tier (h : Cd K w0 w p t F n b3 m q left) {x : Int} (r : t.tier aC = x) :
    Calls Tryd.prog 18 #[.pointer (some ⟨p, 0, none⟩), .agg #[.int .i64 0, .int .i64 0]] w fun e w' => e = .returned (.int .i64 x) ∧ Cd K w0 w' p t F n b3 m q left :=
  (tier_at h.r (a := aC) ⟨⟨by decide, by decide⟩, by decide, by decide⟩ r).mono fun _ _ ⟨he, _, hb⟩ => ⟨he, h.low hb⟩
theorem cd_back (h : Cd K w0 w p t F n b3 m q left) (hn : n < 100000) (r : (t.back aC).2 = t') :
    Calls Tryd.prog 23 #[.pointer (some ⟨p, 0, none⟩), .agg #[.int .i64 0, .int .i64 0]] w fun e w' => ∃ F', e = .returned (.bool (t.back aC).1) ∧ Cd K w0 w' p t' F' (n + 1) b3 m q left :=
  (back_at (t' := t') (o := (t.back aC).1) h.r hn (a := aC) ⟨⟨by decide, by decide⟩, by decide, by decide⟩ (Prod.ext rfl r)).mono fun _ _ ⟨F', he, ht, k, s⟩ => ⟨F', he, h.code ht k s⟩
theorem cd_left (h : Cd K w0 w p t F n b3 m q left) (hn : n < 100000) {x : Int} {o : Bool} (hx : I64 x) (r : t.left aC x = (o, t')) :
    Calls Tryd.prog 24 #[.pointer (some ⟨p, 0, none⟩), .agg #[.int .i64 0, .int .i64 0], .int .i64 x] w fun e w' => ∃ F', e = .returned (.bool o) ∧ Cd K w0 w' p t' F' (n + 1) b3 m q left :=
  (left_at h.r hn (a := aC) ⟨⟨by decide, by decide⟩, by decide, by decide⟩ hx r).mono fun _ _ ⟨F', he, ht, k, s⟩ => ⟨F', he, h.code ht k s⟩
end
/-- Where the tier stands behind so many calls. -/
def Up (n : Nat) (z : Int) : Prop := (n = 1 → z ≠ 0) ∧ (n = 2 → z = 2 ∨ z = -1)
set_option maxRecDepth 100000 in
set_option maxHeartbeats 8000000 in
theorem cold_walk (K : Kit) (c0 : Int) (bs : List Int) (A : Option Addr) (cp B : Nat) (hc : 0 ≤ c0 ∧ c0 ≤ 255) (w : World) (hb : ByS w B A bs) (hB : B ≤ w.heap.size) (hl : bs.length ≤ 140737488351232) (ok : ∀ x ∈ bs, 0 ≤ x ∧ x ≤ 255) (hv : K.V w) :
    Calls Tryd.prog 7 #[.int .u8 c0, .slice A bs.length cp] w fun e w' => e = .returned (.bool true) ∧ Below w.heap.size w w' := by
  have HV := Lib.hid hv
  have HBS := Lib.hid hb
  have OK := Lib.hid ok
  have hmm := @run_makeMap Tryd.prog
  have C0 : 0 ≤ c0 % 6 := Int.emod_nonneg _ (by omega)
  have C1 : c0 % 6 < 6 := Int.emod_lt_of_pos _ (by omega)
  obtain ⟨h0, h1⟩ := hc
  clear hv hb ok
  go_enter Tryd.func7, Tryd.ntmps7
  go_wp2_with fail
  refine (sanity_any K _ HV.out).mono ?_
  rintro e v1 ⟨rfl, h⟩
  have B1 := Lib.hid h
  clear h
  go_wp2_with fail
  obtain ⟨C, hC⟩ : ∃ C, 1 + c0 % 6 = C := ⟨_, rfl⟩
  have c1 : 1 ≤ C := by omega
  have c6 : C ≤ 6 := by omega
  rw [hC]
  clear hC C0 C1 h0 h1
  refine (new_at (K := K) (w0 := w) HV.out B1.out (s := 1) (m := 1) (l := 2) (c := C) ⟨by omega, by omega, by omega, by omega, by omega⟩).mono ?_
  rintro e v2 ⟨p, F, rfl, h, _⟩
  have T2 := Lib.hid h
  clear h
  go_wp2_with fail
  obtain ⟨v3, hv3⟩ : ∃ v, (v2.alloc (.cells #[.int .i64 0, .int .i64 0] 43)).alloc (.map #[] 0) = v := ⟨_, rfl⟩
  obtain ⟨b3, hb3⟩ : ∃ b, v2.heap.size = b := ⟨_, rfl⟩
  have T3 := Lib.hid (show Cd K w v3 p (st0 1 1 2 C) F 0 b3 (b3 + 1) 0 (fun _ => 0) from by
    rw [← hv3, ← hb3]
    have hz : (v2.alloc (.cells #[.int .i64 0, .int .i64 0] 43)).heap.size = v2.heap.size + 1 := World.size_alloc _ _
    have hm := Lm.made (v2.alloc (.cells #[.int .i64 0, .int .i64 0] 43))
    rw [hz] at hm
    exact ⟨(T2.out.alloc _).alloc _, (Own.new T2.out _ _).alloc _, hm, fun e => by have := K.lt T2.out.h _ e; omega, by have := T2.out.b.size; omega⟩)
  have S0 := Lib.hid (cs0 c1)
  rw [hv3, hb3]
  clear T2 hv3 hb3
  go_loopw [10, 11, 12] (fun ub ul i wr => ∃ (k : Nat) (back : Int) (t : Pst) (F : Nat → Prop) (n m q : Nat) (left : Int → Int), k ≤ bs.length ∧ k ≤ 60 ∧ n ≤ 3 * k ∧ q ≤ k ∧ ub = .int .i64 back ∧ ul = .map (some m) ∧ i = .int .i64 k ∧ Hid (Cd K w wr p t F n b3 m q left) ∧ Hid (CS t C back left)) (fun _ _ i _ => 60 - (intOf i).toNat)
  case atStart => exact ⟨0, 0, _, F, 0, _, 0, _, by omega, by omega, by omega, by omega, rfl, rfl, rfl, T3, S0⟩
  case round =>
    clear T3 S0
    obtain ⟨k, back, t, F, n, m, q, left, hk, h60, hn, hq, rfl, rfl, rfl, T, S⟩ := hrel
    by_cases h1 : k < bs.length
    · by_cases h2 : k < 60
      · obtain ⟨gb, ob, rfl, hgb, hcx⟩ := HBS.out k _ (List.getElem?_eq_getElem h1)
        have GB := Lib.hid (show gb < w.heap.size by omega)
        obtain ⟨x00, x01⟩ := OK.out _ (List.getElem_mem h1)
        obtain ⟨x0, hx0⟩ : ∃ x, bs[k] = x := ⟨_, rfl⟩
        rw [hx0] at hcx x00 x01
        have CX := Lib.hid hcx
        have X0 : 0 ≤ x0 % 3 := Int.emod_nonneg _ (by omega)
        have X1 : x0 % 3 < 3 := Int.emod_lt_of_pos _ (by omega)
        have IX := Lib.hid (show I64 (x0 % 3) from ⟨by omega, by omega⟩)
        have h3 : (k : Int) < bs.length := by omega
        have h4 : (k : Int) < 60 := by omega
        have hk0 : (0 : Int) ≤ k := by omega
        obtain ⟨wo, hwo⟩ : ∃ wo : World, wo = wr := ⟨_, rfl⟩
        subst hwo
        have k1 := Lib.hid h1
        clear hgb hcx hx0
        go_wp2_with fail
        go_loopw [13] (fun i wr => ∃ (j : Nat) (t : Pst) (F : Nat → Prop) (n2 : Nat), j ≤ 2 ∧ n2 ≤ n + j ∧ i = .int .i64 j ∧ Hid (Cd K w wr p t F n2 b3 m q left) ∧ Hid (CS t C back left) ∧ Hid (Up j (t.tier aC))) (fun i _ => 2 - (intOf i).toNat)
        case atStart => exact ⟨0, t, F, n, by omega, by omega, rfl, T, S, Lib.hid ⟨by omega, by omega⟩⟩
        case round =>
          clear T S
          obtain ⟨j, t, F, n2, hj, hn2, rfl, T, S, U⟩ := hrel
          have c2 := T.out.x.k.cell 0 (.int .i64 0) rfl
          have c3 := T.out.x.k.cell 1 (.int .i64 0) rfl
          by_cases hj2 : j < 2
          · have hji : (j : Int) < 2 := by omega
            obtain ⟨z, hz⟩ : ∃ z, t.tier aC = z := ⟨_, rfl⟩
            have Z := Lib.hid hz
            have z0 := (T.out.r.k.get aC).t0
            have z1 := (T.out.r.k.get aC).t1
            rw [show (t.get aC).tier = z from hz] at z0 z1
            rcases (show z = -1 ∨ z = 2 ∨ (0 ≤ z ∧ z < 2) by omega) with rfl | rfl | ⟨zz0, zz1⟩
            · have hT : t.tier aC = 2 ∨ t.tier aC = -1 := .inr hz
              clear hz
              go_wp2_with fail
              refine (cd_tier T.out Z.out).mono ?_
              rintro e w4 ⟨rfl, h⟩
              replace T := Lib.hid h
              replace c2 := h.x.k.cell 0 (.int .i64 0) rfl
              replace c3 := h.x.k.cell 1 (.int .i64 0) rfl
              clear h Z U
              have hcx := (T.out.r.b.cell (p := ⟨gb, ob + k, none⟩) GB.out).trans CX.out
              have bb0 := S.out.b0
              have bb3 := S.out.b3
              by_cases hb3 : back = 3
              · have kb : decide (back < 3) = false := decide_eq_false (by omega)
                have GN := Lib.hid (fun e => cs_gone S.out hb3 e)
                clear hb3
                go_wp2_with fail
                refine (cd_left T.out (by omega) IX.out (GN.out _)).mono ?_
                rintro e wy ⟨F', rfl, h⟩
                have TY := Lib.hid h
                clear h
                go_wp2_with fail
                go_roundw
                case rel => exact ⟨k + 1, back, t, F', _, m, q, left, by omega, by omega, by omega, by omega, rfl, rfl, by go_num, TY, S⟩
                case measure => simp [intOf]; omega
              · have kb : decide (back < 3) = true := decide_eq_true (by omega)
                have t2 : t.tier aC = 2 := by
                  rcases hT with e | e
                  · exact e
                  · exact absurd (S.out.gv.2 e) hb3
                have CL := Lib.hid (cs_left S.out (by omega) t2 (e := x0 % 3) X0)
                have EX := S.out.ex (by omega) (x0 % 3)
                have E0 := (T.out.r.k.get aC).e0 (x0 % 3)
                have E1 := S.out.lt (x0 % 3)
                rw [EX] at E0 E1
                have L1 := T.out.l.look IX.out
                obtain ⟨w5, hrun, hl, hg⟩ := T.out.l.put (k := left (x0 % 3) + 1) IX.out ⟨by omega, by omega⟩ (by omega)
                have L2 := hl.look IX.out
                simp only [if_true] at L2
                have T5 := Lib.hid (T.out.map hl hg)
                have c2 := T5.out.x.k.cell 0 (.int .i64 0) rfl
                have c3 := T5.out.x.k.cell 1 (.int .i64 0) rfl
                clear hl hg EX t2
                obtain ⟨y, hy⟩ : ∃ y, left (x0 % 3) = y := ⟨_, rfl⟩
                rw [hy] at CL E0 E1 L1 hrun L2 T5
                have BT := Lib.hid (show 0 ≤ back ∧ back < 3 from ⟨bb0, by omega⟩)
                by_cases hy2 : y + 1 = C
                · have kc : (y + 1 == C) = true := by simpa using hy2
                  obtain ⟨s1, s2⟩ := CL.out.2 hy2
                  obtain ⟨t', ht'⟩ : ∃ t', (t.left aC (x0 % 3)).2 = t' := ⟨_, rfl⟩
                  have LE := Lib.hid (show t.left aC (x0 % 3) = (true, t') from Prod.ext s1 ht')
                  rw [ht'] at s2
                  have S2 := Lib.hid s2
                  clear s1 s2 ht' hy hy2 hb3
                  go_wp2_with fail
                  refine (cd_left T5.out (by omega) IX.out LE.out).mono ?_
                  rintro e wy ⟨F', rfl, h⟩
                  have TY := Lib.hid h.fresh
                  clear h
                  go_wp2_with fail
                  go_roundw
                  case rel => exact ⟨k + 1, back + 1, t', F', _, _, 0, fun _ => 0, by omega, by omega, by omega, by omega, rfl, rfl, by go_num, TY, S2⟩
                  case measure => simp [intOf]; omega
                · have kc : (y + 1 == C) = false := by simpa using hy2
                  obtain ⟨s1, s2⟩ := CL.out.1 (by omega)
                  obtain ⟨t', ht'⟩ : ∃ t', (t.left aC (x0 % 3)).2 = t' := ⟨_, rfl⟩
                  have LE := Lib.hid (show t.left aC (x0 % 3) = (false, t') from Prod.ext s1 ht')
                  rw [ht'] at s2
                  have S2 := Lib.hid s2
                  clear s1 s2 ht' hy hy2 hb3
                  go_wp2_with fail
                  refine (cd_left T5.out (by omega) IX.out LE.out).mono ?_
                  rintro e wy ⟨F', rfl, h⟩
                  have TY := Lib.hid h
                  clear h
                  go_wp2_with fail
                  go_roundw
                  case rel => exact ⟨k + 1, back, t', F', _, m, q + 1, _, by omega, by omega, by omega, by omega, rfl, rfl, by go_num, TY, S2⟩
                  case measure => simp [intOf]; omega
            · have hT : t.tier aC = 2 ∨ t.tier aC = -1 := .inl hz
              clear hz
              go_wp2_with fail
              refine (cd_tier T.out Z.out).mono ?_
              rintro e w4 ⟨rfl, h⟩
              replace T := Lib.hid h
              replace c2 := h.x.k.cell 0 (.int .i64 0) rfl
              replace c3 := h.x.k.cell 1 (.int .i64 0) rfl
              clear h
              go_wp2_with fail
              refine (cd_tier T.out Z.out).mono ?_
              rintro e w5 ⟨rfl, h⟩
              replace T := Lib.hid h
              replace c2 := h.x.k.cell 0 (.int .i64 0) rfl
              replace c3 := h.x.k.cell 1 (.int .i64 0) rfl
              clear h Z U
              have hcx := (T.out.r.b.cell (p := ⟨gb, ob + k, none⟩) GB.out).trans CX.out
              have bb0 := S.out.b0
              have bb3 := S.out.b3
              by_cases hb3 : back = 3
              · have kb : decide (back < 3) = false := decide_eq_false (by omega)
                have GN := Lib.hid (fun e => cs_gone S.out hb3 e)
                clear hb3
                go_wp2_with fail
                refine (cd_left T.out (by omega) IX.out (GN.out _)).mono ?_
                rintro e wy ⟨F', rfl, h⟩
                have TY := Lib.hid h
                clear h
                go_wp2_with fail
                go_roundw
                case rel => exact ⟨k + 1, back, t, F', _, m, q, left, by omega, by omega, by omega, by omega, rfl, rfl, by go_num, TY, S⟩
                case measure => simp [intOf]; omega
              · have kb : decide (back < 3) = true := decide_eq_true (by omega)
                have t2 : t.tier aC = 2 := by
                  rcases hT with e | e
                  · exact e
                  · exact absurd (S.out.gv.2 e) hb3
                have CL := Lib.hid (cs_left S.out (by omega) t2 (e := x0 % 3) X0)
                have EX := S.out.ex (by omega) (x0 % 3)
                have E0 := (T.out.r.k.get aC).e0 (x0 % 3)
                have E1 := S.out.lt (x0 % 3)
                rw [EX] at E0 E1
                have L1 := T.out.l.look IX.out
                obtain ⟨w5, hrun, hl, hg⟩ := T.out.l.put (k := left (x0 % 3) + 1) IX.out ⟨by omega, by omega⟩ (by omega)
                have L2 := hl.look IX.out
                simp only [if_true] at L2
                have T5 := Lib.hid (T.out.map hl hg)
                have c2 := T5.out.x.k.cell 0 (.int .i64 0) rfl
                have c3 := T5.out.x.k.cell 1 (.int .i64 0) rfl
                clear hl hg EX t2
                obtain ⟨y, hy⟩ : ∃ y, left (x0 % 3) = y := ⟨_, rfl⟩
                rw [hy] at CL E0 E1 L1 hrun L2 T5
                have BT := Lib.hid (show 0 ≤ back ∧ back < 3 from ⟨bb0, by omega⟩)
                by_cases hy2 : y + 1 = C
                · have kc : (y + 1 == C) = true := by simpa using hy2
                  obtain ⟨s1, s2⟩ := CL.out.2 hy2
                  obtain ⟨t', ht'⟩ : ∃ t', (t.left aC (x0 % 3)).2 = t' := ⟨_, rfl⟩
                  have LE := Lib.hid (show t.left aC (x0 % 3) = (true, t') from Prod.ext s1 ht')
                  rw [ht'] at s2
                  have S2 := Lib.hid s2
                  clear s1 s2 ht' hy hy2 hb3
                  go_wp2_with fail
                  refine (cd_left T5.out (by omega) IX.out LE.out).mono ?_
                  rintro e wy ⟨F', rfl, h⟩
                  have TY := Lib.hid h.fresh
                  clear h
                  go_wp2_with fail
                  go_roundw
                  case rel => exact ⟨k + 1, back + 1, t', F', _, _, 0, fun _ => 0, by omega, by omega, by omega, by omega, rfl, rfl, by go_num, TY, S2⟩
                  case measure => simp [intOf]; omega
                · have kc : (y + 1 == C) = false := by simpa using hy2
                  obtain ⟨s1, s2⟩ := CL.out.1 (by omega)
                  obtain ⟨t', ht'⟩ : ∃ t', (t.left aC (x0 % 3)).2 = t' := ⟨_, rfl⟩
                  have LE := Lib.hid (show t.left aC (x0 % 3) = (false, t') from Prod.ext s1 ht')
                  rw [ht'] at s2
                  have S2 := Lib.hid s2
                  clear s1 s2 ht' hy hy2 hb3
                  go_wp2_with fail
                  refine (cd_left T5.out (by omega) IX.out LE.out).mono ?_
                  rintro e wy ⟨F', rfl, h⟩
                  have TY := Lib.hid h
                  clear h
                  go_wp2_with fail
                  go_roundw
                  case rel => exact ⟨k + 1, back, t', F', _, m, q + 1, _, by omega, by omega, by omega, by omega, rfl, rfl, by go_num, TY, S2⟩
                  case measure => simp [intOf]; omega
            · have CB := Lib.hid (cs_back S.out (by rw [hz]; exact zz0) (by rw [hz]; exact zz1))
              have g0 : decide (z ≥ 0) = true := decide_eq_true zz0
              have UN := Lib.hid (show Up (j + 1) ((t.back aC).2.tier aC) by
                rw [CB.out.2, hz]
                refine ⟨fun _ => by omega, fun hj => ?_⟩
                have := U.out.1 (by omega)
                rw [hz] at this; omega)
              have K1 := Lib.hid hj2
              clear hz
              go_wp2_with fail
              refine (cd_tier T.out Z.out).mono ?_
              rintro e w4 ⟨rfl, h⟩
              replace T := Lib.hid h
              replace c2 := h.x.k.cell 0 (.int .i64 0) rfl
              replace c3 := h.x.k.cell 1 (.int .i64 0) rfl
              clear h
              go_wp2_with fail
              refine (cd_tier T.out Z.out).mono ?_
              rintro e w5 ⟨rfl, h⟩
              replace T := Lib.hid h
              replace c2 := h.x.k.cell 0 (.int .i64 0) rfl
              replace c3 := h.x.k.cell 1 (.int .i64 0) rfl
              clear h
              go_wp2_with fail
              refine (cd_back T.out (by omega) rfl).mono ?_
              rintro e w6 ⟨F', rfl, h⟩
              have TY := Lib.hid h
              clear h
              go_wp2_with fail
              go_roundw
              case rel => exact ⟨j + 1, _, F', _, K1.out, by omega, by go_num, TY, Lib.hid CB.out.1, UN⟩
              case measure => simp [intOf]; omega
          · obtain rfl : j = 2 := by omega
            have hT := U.out.2 rfl
            clear U
            have hcx := (T.out.r.b.cell (p := ⟨gb, ob + k, none⟩) GB.out).trans CX.out
            have bb0 := S.out.b0
            have bb3 := S.out.b3
            by_cases hb3 : back = 3
            · have kb : decide (back < 3) = false := decide_eq_false (by omega)
              have GN := Lib.hid (fun e => cs_gone S.out hb3 e)
              clear hb3
              go_wp2_with fail
              refine (cd_left T.out (by omega) IX.out (GN.out _)).mono ?_
              rintro e wy ⟨F', rfl, h⟩
              have TY := Lib.hid h
              clear h
              go_wp2_with fail
              go_roundw
              case rel => exact ⟨k + 1, back, t, F', _, m, q, left, by omega, by omega, by omega, by omega, rfl, rfl, by go_num, TY, S⟩
              case measure => simp [intOf]; omega
            · have kb : decide (back < 3) = true := decide_eq_true (by omega)
              have t2 : t.tier aC = 2 := by
                rcases hT with e | e
                · exact e
                · exact absurd (S.out.gv.2 e) hb3
              have CL := Lib.hid (cs_left S.out (by omega) t2 (e := x0 % 3) X0)
              have EX := S.out.ex (by omega) (x0 % 3)
              have E0 := (T.out.r.k.get aC).e0 (x0 % 3)
              have E1 := S.out.lt (x0 % 3)
              rw [EX] at E0 E1
              have L1 := T.out.l.look IX.out
              obtain ⟨w5, hrun, hl, hg⟩ := T.out.l.put (k := left (x0 % 3) + 1) IX.out ⟨by omega, by omega⟩ (by omega)
              have L2 := hl.look IX.out
              simp only [if_true] at L2
              have T5 := Lib.hid (T.out.map hl hg)
              have c2 := T5.out.x.k.cell 0 (.int .i64 0) rfl
              have c3 := T5.out.x.k.cell 1 (.int .i64 0) rfl
              clear hl hg EX t2
              obtain ⟨y, hy⟩ : ∃ y, left (x0 % 3) = y := ⟨_, rfl⟩
              rw [hy] at CL E0 E1 L1 hrun L2 T5
              have BT := Lib.hid (show 0 ≤ back ∧ back < 3 from ⟨bb0, by omega⟩)
              by_cases hy2 : y + 1 = C
              · have kc : (y + 1 == C) = true := by simpa using hy2
                obtain ⟨s1, s2⟩ := CL.out.2 hy2
                obtain ⟨t', ht'⟩ : ∃ t', (t.left aC (x0 % 3)).2 = t' := ⟨_, rfl⟩
                have LE := Lib.hid (show t.left aC (x0 % 3) = (true, t') from Prod.ext s1 ht')
                rw [ht'] at s2
                have S2 := Lib.hid s2
                clear s1 s2 ht' hy hy2 hb3
                go_wp2_with fail
                refine (cd_left T5.out (by omega) IX.out LE.out).mono ?_
                rintro e wy ⟨F', rfl, h⟩
                have TY := Lib.hid h.fresh
                clear h
                go_wp2_with fail
                go_roundw
                case rel => exact ⟨k + 1, back + 1, t', F', _, _, 0, fun _ => 0, by omega, by omega, by omega, by omega, rfl, rfl, by go_num, TY, S2⟩
                case measure => simp [intOf]; omega
              · have kc : (y + 1 == C) = false := by simpa using hy2
                obtain ⟨s1, s2⟩ := CL.out.1 (by omega)
                obtain ⟨t', ht'⟩ : ∃ t', (t.left aC (x0 % 3)).2 = t' := ⟨_, rfl⟩
                have LE := Lib.hid (show t.left aC (x0 % 3) = (false, t') from Prod.ext s1 ht')
                rw [ht'] at s2
                have S2 := Lib.hid s2
                clear s1 s2 ht' hy hy2 hb3
                go_wp2_with fail
                refine (cd_left T5.out (by omega) IX.out LE.out).mono ?_
                rintro e wy ⟨F', rfl, h⟩
                have TY := Lib.hid h
                clear h
                go_wp2_with fail
                go_roundw
                case rel => exact ⟨k + 1, back, t', F', _, m, q + 1, _, by omega, by omega, by omega, by omega, rfl, rfl, by go_num, TY, S2⟩
                case measure => simp [intOf]; omega
      · obtain rfl : k = 60 := by omega
        have c2 := T.out.x.k.cell 0 (.int .i64 0) rfl
        have c3 := T.out.x.k.cell 1 (.int .i64 0) rfl
        obtain ⟨z, hz⟩ : ∃ z, t.tier aC = z := ⟨_, rfl⟩
        have Z := Lib.hid hz
        by_cases hb3 : back = 3
        · have z1 : (z == -1) = true := by
            have := S.out.gv.1 hb3
            rw [show (t.get aC).tier = z from hz] at this
            simpa using this
          have z2 : (back == 3) = true := by simpa using hb3
          clear hb3 hz
          go_wp2_with fail
          refine (cd_tier T.out Z.out).mono ?_
          rintro e w4 ⟨rfl, h⟩
          have TY := Lib.hid h
          clear h
          go_wp2_with fail
          go_ret
          exact ⟨rfl, TY.out.r.b⟩
        · have z1 : (z == -1) = false := by
            have := fun e => hb3 (S.out.gv.2 e)
            rw [show (t.get aC).tier = z from hz] at this
            simpa using this
          have z2 : (back == 3) = false := by simpa using hb3
          clear hb3 hz
          go_wp2_with fail
          refine (cd_tier T.out Z.out).mono ?_
          rintro e w4 ⟨rfl, h⟩
          have TY := Lib.hid h
          clear h
          go_wp2_with fail
          go_ret
          exact ⟨rfl, TY.out.r.b⟩
    · obtain rfl : k = bs.length := by omega
      have c2 := T.out.x.k.cell 0 (.int .i64 0) rfl
      have c3 := T.out.x.k.cell 1 (.int .i64 0) rfl
      obtain ⟨z, hz⟩ : ∃ z, t.tier aC = z := ⟨_, rfl⟩
      have Z := Lib.hid hz
      by_cases hb3 : back = 3
      · have z1 : (z == -1) = true := by
          have := S.out.gv.1 hb3
          rw [show (t.get aC).tier = z from hz] at this
          simpa using this
        have z2 : (back == 3) = true := by simpa using hb3
        clear hb3 hz
        go_wp2_with fail
        refine (cd_tier T.out Z.out).mono ?_
        rintro e w4 ⟨rfl, h⟩
        have TY := Lib.hid h
        clear h
        go_wp2_with fail
        go_ret
        exact ⟨rfl, TY.out.r.b⟩
      · have z1 : (z == -1) = false := by
          have := fun e => hb3 (S.out.gv.2 e)
          rw [show (t.get aC).tier = z from hz] at this
          simpa using this
        have z2 : (back == 3) = false := by simpa using hb3
        clear hb3 hz
        go_wp2_with fail
        refine (cd_tier T.out Z.out).mono ?_
        rintro e w4 ⟨rfl, h⟩
        have TY := Lib.hid h
        clear h
        go_wp2_with fail
        go_ret
        exact ⟨rfl, TY.out.r.b⟩
end Go.Proofs.YtjoffbgfokedlaaDoor.Pf
