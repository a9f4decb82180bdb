/-
  The laws' sanity.
-/
import Derived.Test.YtjoffbgfokedlaaDoorPs
namespace Go.Proofs.YtjoffbgfokedlaaDoor.Pf
open Go Go.RowKit

/-- A profile of the law's own, whose pointer, and a place, lie in boxes. -/
structure Sn (K : Kit) (w0 w : World) (p : Nat) (t : Pst) (F : Nat → Prop) (n b1 b3 : Nat) (a : Plc) : Prop where
  r : Tr K w0 w p t F n
  x1 : Own F w b1 #[.pointer (some ⟨p, 0, none⟩)] 26
  x3 : Own F w b3 #[.int .i64 a.1, .int .i64 a.2] 43
section
variable {K : Kit} {w0 w w' : World} {p n n' b1 b3 : Nat} {t t' : Pst} {F F' : Nat → Prop} {a : Plc}
theorem Sn.low (h : Sn K w0 w p t F n b1 b3 a) (hb : Below w.heap.size w w') : Sn K w0 w' p t F n b1 b3 a := ⟨h.r.below hb, h.x1.low hb, h.x3.low hb⟩
theorem Sn.code (h : Sn K w0 w p t F n b1 b3 a) (h' : Tr K w0 w' p t' F' n') (k : Chg F w w') (s : Sub F F' w) : Sn K w0 w' p t' F' n' b1 b3 a := ⟨h', h.x1.code k s, h.x3.code k s⟩
theorem Sn.c1 (h : Sn K w0 w p t F n b1 b3 a) : w.cell? ⟨b1, 0, none⟩ = some (.pointer (some ⟨p, 0, none⟩)) := h.x1.k.cell 0 _ rfl
theorem Sn.c2 (h : Sn K w0 w p t F n b1 b3 a) : w.cell? ⟨b3, 0, none⟩ = some (.int .i64 a.1) := h.x3.k.cell 0 _ rfl
theorem Sn.c3 (h : Sn K w0 w p t F n b1 b3 a) : w.cell? ⟨b3, 1, none⟩ = some (.int .i64 a.2) := h.x3.k.cell 1 _ rfl
theorem sn_backs (h : Sn K w0 w p t F n b1 b3 a) (xs : List Bool) (cs : Array Value) {m : Nat} (hm : xs.length = m) (hc : ∀ (j : Nat) x, xs[j]? = some x → cs[j]? = some (.bool x)) (ha : okP a) (hn : n + m ≤ 1000) (hx : ∀ (k : Nat) x, xs[k]? = some x → ((itB t a k).back a).1 = x) (g c : Nat) (hg : w.heap.size = g) :
    Calls Tryd.prog 27 #[.slice (some ⟨g, 0, none⟩) m c, .pointer (some ⟨b1, 0, none⟩), .pointer (some ⟨b3, 0, none⟩)] (w.alloc (.cells cs 4)) fun e w' => ∃ F', e = .returned (.bool true) ∧ Sn K w0 w' p (itB t a m) F' (n + m) b1 b3 a := by
  subst hg
  exact (backs_any K w0 _ p t F n b1 b3 w.heap.size m c a xs cs hm hc (h.r.alloc _) (h.x1.alloc _) (h.x3.alloc _) (Own.new h.r cs _) ha hn hx).mono fun _ _ ⟨F', he, ht, k, s⟩ => ⟨F', he, ⟨ht, (h.x1.alloc _).code k s, (h.x3.alloc _).code k s⟩⟩
theorem sn_tier (h : Sn K w0 w p t F n b1 b3 a) (ha : okP a) {x : Int} (r : t.tier a = x) :
    Calls Tryd.prog 18 #[.pointer (some ⟨p, 0, none⟩), plcV a] w fun e w' => e = .returned (.int .i64 x) ∧ Sn K w0 w' p t F n b1 b3 a :=
  (tier_at h.r ha r).mono fun _ _ ⟨he, _, hb⟩ => ⟨he, h.low hb⟩
theorem sn_left (h : Sn K w0 w p t F n b1 b3 a) (hn : n < 100000) (ha : okP a) {x : Int} {o : Bool} (hx : I64 x) (r : t.left a x = (o, t')) :
    Calls Tryd.prog 24 #[.pointer (some ⟨p, 0, none⟩), plcV a, .int .i64 x] w fun e w' => ∃ F', e = .returned (.bool o) ∧ Sn K w0 w' p t' F' (n + 1) b1 b3 a :=
  (left_at h.r hn ha hx r).mono fun _ _ ⟨F', he, ht, k, s⟩ => ⟨F', he, h.code ht k s⟩
theorem sn_failed (h : Sn K w0 w p t F n b1 b3 a) (hn : n < 100000) (ha : okP a) {x : Int} (hx : I64 x) (r : t.failed a x = t') :
    Calls Tryd.prog 26 #[.pointer (some ⟨p, 0, none⟩), plcV a, .int .i64 x] w fun e w' => ∃ F', e = .returned (.tuple #[]) ∧ Sn K w0 w' p t' F' (n + 1) b1 b3 a :=
  (failed_at h.r hn ha hx r).mono fun _ _ ⟨F', he, ht, k, s⟩ => ⟨F', he, h.code ht k s⟩
end
theorem bools2 {a b : Bool} : ∀ (j : Nat) x, [a, b][j]? = some x → (#[Value.bool a, Value.bool b] : Array Value)[j]? = some (.bool x) := fun j x h => by
  rcases j with _ | _ | j
  · obtain rfl : a = x := by simpa using h
    rfl
  · obtain rfl : b = x := by simpa using h
    rfl
  · simp at h
theorem bools4 {a b c d : Bool} : ∀ (j : Nat) x, [a, b, c, d][j]? = some x → (#[Value.bool a, Value.bool b, Value.bool c, Value.bool d] : Array Value)[j]? = some (.bool x) := fun j x h => by
  rcases j with _ | _ | _ | _ | j
  · obtain rfl : a = x := by simpa using h
    rfl
  · obtain rfl : b = x := by simpa using h
    rfl
  · obtain rfl : c = x := by simpa using h
    rfl
  · obtain rfl : d = x := by simpa using h
    rfl
  · simp at h
def wantS : List ByteArray := [w1, w2, w3, w4, w1, w6]
theorem dS : ∀ (k : Nat) d, sG.D[k]? = some d → d.plc = aS ∧ wantS[k]? = some (bsL d.why) := fun k d h => by
  have e : (sG.D.map (fun d => (d.plc, bsL d.why)))[k]? = some (d.plc, bsL d.why) := by rw [List.getElem?_map, h]; rfl
  rw [qw] at e
  rcases k with _ | _ | _ | _ | _ | _ | k <;> simp only [List.getElem?_cons_zero, List.getElem?_cons_succ, List.getElem?_nil, Option.some.injEq, Prod.mk.injEq, reduceCtorEq] at e
  all_goals exact ⟨e.1.symm, by rw [← e.2]; rfl⟩
theorem lS : sG.D.length = 6 := by rw [q8]; rfl
set_option maxRecDepth 100000 in
set_option maxHeartbeats 8000000 in
theorem sanity_any (K : Kit) (w : World) (hv : K.V w) : Calls Tryd.prog 10 #[] w fun e w' => e = .returned (.bool true) ∧ Below w.heap.size w w' := by
  have HV := Lib.hid hv
  have IA := Lib.hid (show okP aS from ⟨⟨by decide, by decide⟩, by decide, by decide⟩)
  have I5 := Lib.hid (show I64 5 from ⟨by decide, by decide⟩)
  have I30 := Lib.hid (show I64 30 from ⟨by decide, by decide⟩)
  have N := Lib.hid (new_at (K := K) (w0 := w) hv (Below.refl _ w) (s := 2) (m := 1) (l := 3) (c := 2) (by decide))
  clear hv
  go_enter Tryd.func10, Tryd.ntmps10
  go_wp2_with fail
  refine N.out.mono ?_
  rintro e v1 ⟨p, F, rfl, h, _⟩
  have T1 := Lib.hid h
  clear h N
  go_wp2_with fail
  obtain ⟨b1, hb1⟩ : ∃ b, v1.heap.size = b := ⟨_, rfl⟩
  have T1 := Lib.hid (show Sn K w ((v1.alloc (.cells #[.pointer (some ⟨p, 0, none⟩)] 26)).alloc (.cells #[.int .i64 1, .int .i64 2] 43)) p (st0 2 1 3 2) F 0 b1 (b1 + 1) aS from by
    have h1 := Own.new T1.out #[.pointer (some ⟨p, 0, none⟩)] 26
    have h3 := Own.new (T1.out.alloc (.cells #[.pointer (some ⟨p, 0, none⟩)] 26)) #[.int .i64 1, .int .i64 2] 43
    rw [World.size_alloc] at h3
    subst hb1
    exact ⟨(T1.out.alloc _).alloc _, h1.alloc _, h3⟩)
  have Z2 := Lib.hid (show ((v1.alloc (.cells #[.pointer (some ⟨p, 0, none⟩)] 26)).alloc (.cells #[.int .i64 1, .int .i64 2] 43)).heap.size = b1 + 1 + 1 by rw [World.size_alloc, World.size_alloc, hb1])
  rw [hb1]
  clear hb1
  refine (sn_backs T1.out [false, true] #[.bool false, .bool true] (m := 2) rfl bools2 IA.out (by omega) qa _ _ Z2.out).mono ?_
  rintro e v2 ⟨F2, rfl, h⟩
  have T2 := Lib.hid h
  have c1 := h.c1
  have c2 : v2.cell? ⟨b1 + 1, 0, none⟩ = some (.int .i64 1) := h.c2
  have c3 : v2.cell? ⟨b1 + 1, 1, none⟩ = some (.int .i64 2) := h.c3
  clear h T1 Z2
  go_wp2_with fail
  refine (sn_tier T2.out IA.out q1).mono ?_
  rintro e v3 ⟨rfl, h⟩
  have T3 := Lib.hid h
  have c1 := h.c1
  have c2 : v3.cell? ⟨b1 + 1, 0, none⟩ = some (.int .i64 1) := h.c2
  have c3 : v3.cell? ⟨b1 + 1, 1, none⟩ = some (.int .i64 2) := h.c3
  clear h T2
  go_wp2_with fail
  refine (sn_backs T3.out [false, false, false, true] #[.bool false, .bool false, .bool false, .bool true] (m := 4) rfl bools4 IA.out (by omega) qb _ _ rfl).mono ?_
  rintro e v4 ⟨F4, rfl, h⟩
  have T4 := Lib.hid h
  have c1 := h.c1
  have c2 : v4.cell? ⟨b1 + 1, 0, none⟩ = some (.int .i64 1) := h.c2
  have c3 : v4.cell? ⟨b1 + 1, 1, none⟩ = some (.int .i64 2) := h.c3
  clear h T3
  go_wp2_with fail
  refine (sn_tier T4.out IA.out q2).mono ?_
  rintro e v5 ⟨rfl, h⟩
  have T5 := Lib.hid h
  have c1 := h.c1
  have c2 : v5.cell? ⟨b1 + 1, 0, none⟩ = some (.int .i64 1) := h.c2
  have c3 : v5.cell? ⟨b1 + 1, 1, none⟩ = some (.int .i64 2) := h.c3
  clear h T4
  go_wp2_with fail
  refine (sn_left T5.out (by omega) IA.out I5.out q3).mono ?_
  rintro e v6 ⟨F6, rfl, h⟩
  have T6 := Lib.hid h
  have c1 := h.c1
  have c2 : v6.cell? ⟨b1 + 1, 0, none⟩ = some (.int .i64 1) := h.c2
  have c3 : v6.cell? ⟨b1 + 1, 1, none⟩ = some (.int .i64 2) := h.c3
  clear h T5
  go_wp2_with fail
  refine (sn_left T6.out (by omega) IA.out I5.out q4).mono ?_
  rintro e v7 ⟨F7, rfl, h⟩
  have T7 := Lib.hid h
  have c1 := h.c1
  have c2 : v7.cell? ⟨b1 + 1, 0, none⟩ = some (.int .i64 1) := h.c2
  have c3 : v7.cell? ⟨b1 + 1, 1, none⟩ = some (.int .i64 2) := h.c3
  clear h T6
  go_wp2_with fail
  refine (sn_tier T7.out IA.out q5).mono ?_
  rintro e v8 ⟨rfl, h⟩
  have T8 := Lib.hid h
  have c1 := h.c1
  have c2 : v8.cell? ⟨b1 + 1, 0, none⟩ = some (.int .i64 1) := h.c2
  have c3 : v8.cell? ⟨b1 + 1, 1, none⟩ = some (.int .i64 2) := h.c3
  clear h T7
  go_wp2_with fail
  refine (sn_failed T8.out (by omega) IA.out I30.out (show sD.failed aS 30 = sE from rfl)).mono ?_
  rintro e v9 ⟨F9, rfl, h⟩
  have T9 := Lib.hid h
  have c1 := h.c1
  have c2 : v9.cell? ⟨b1 + 1, 0, none⟩ = some (.int .i64 1) := h.c2
  have c3 : v9.cell? ⟨b1 + 1, 1, none⟩ = some (.int .i64 2) := h.c3
  clear h T8
  go_wp2_with fail
  refine (sn_tier T9.out IA.out q6).mono ?_
  rintro e va ⟨rfl, h⟩
  have Ta := Lib.hid h
  have c1 := h.c1
  have c2 : va.cell? ⟨b1 + 1, 0, none⟩ = some (.int .i64 1) := h.c2
  have c3 : va.cell? ⟨b1 + 1, 1, none⟩ = some (.int .i64 2) := h.c3
  clear h T9
  go_wp2_with fail
  refine (sn_backs Ta.out [false, true] #[.bool false, .bool true] (m := 2) rfl bools2 IA.out (by omega) qf _ _ rfl).mono ?_
  rintro e vb ⟨Fb, rfl, h⟩
  have Tb := Lib.hid h
  have c1 := h.c1
  have c2 : vb.cell? ⟨b1 + 1, 0, none⟩ = some (.int .i64 1) := h.c2
  have c3 : vb.cell? ⟨b1 + 1, 1, none⟩ = some (.int .i64 2) := h.c3
  clear h Ta
  go_wp2_with fail
  refine (sn_failed Tb.out (by omega) IA.out I30.out (show sF.failed aS 30 = sG from rfl)).mono ?_
  rintro e vc ⟨Fc, rfl, h⟩
  have Tc := Lib.hid h
  have c1 := h.c1
  have c2 : vc.cell? ⟨b1 + 1, 0, none⟩ = some (.int .i64 1) := h.c2
  have c3 : vc.cell? ⟨b1 + 1, 1, none⟩ = some (.int .i64 2) := h.c3
  clear h Tb
  have l1 := Tc.out.x1.k.lt
  have l3 := Tc.out.x3.k.lt
  go_wp2_with fail
  obtain ⟨vd, hvd⟩ : ∃ v, vc.alloc (.cells #[.string w1, .string w2, .string w3, .string w4, .string w1, .string w6] 9) = v := ⟨_, rfl⟩
  have Td := Lib.hid (show Sn K w vd p sG Fc _ b1 (b1 + 1) aS by rw [← hvd]; exact Tc.out.low ((Below.refl _ vc).alloc (Nat.le_refl _) _))
  have WB := Lib.hid (show Bk vd vc.heap.size #[.string w1, .string w2, .string w3, .string w4, .string w1, .string w6] 9 by rw [← hvd]; exact Bk.new vc _ _)
  obtain ⟨gw, hgw⟩ : ∃ g, vc.heap.size = g := ⟨_, rfl⟩
  rw [hgw] at WB ⊢
  have HVD := Lib.hid (show vc.alloc (.cells #[.string ⟨#[119, 97, 114, 109, 32, 49]⟩, .string ⟨#[104, 111, 116, 32, 51]⟩, .string ⟨#[101, 120, 105, 116, 32, 53, 32, 108, 101, 102, 116, 32, 50, 32, 116, 105, 109, 101, 115]⟩, .string ⟨#[101, 114, 114, 111, 114, 32, 51, 48]⟩, .string ⟨#[119, 97, 114, 109, 32, 49]⟩, .string ⟨#[101, 114, 114, 111, 114, 32, 51, 48, 44, 32, 103, 105, 118, 101, 110, 32, 117, 112]⟩] 9) = vd from hvd)
  rw [HVD.out]
  clear hvd hgw HVD Tc c1 c2 c3 l1 l3
  refine (decs_at Td.out.r rfl).mono ?_
  rintro e ve ⟨vv, rfl, ho, _, hb⟩
  obtain ⟨A, c, rfl, _, hlc, hs⟩ := ho.form
  have Te := Lib.hid (Td.out.low hb)
  have WE := Lib.hid (Bk.low hb WB.out)
  have SD := Lib.hid hs
  rw [lS] at hlc ⊢
  clear ho hb hs Td WB
  go_wp2_with fail
  go_loopw [78] (fun i wr => ∃ k : Nat, k ≤ 6 ∧ i = .int .i64 k ∧ Hid (∃ n, wr = ve.drewN n)) (fun i _ => 6 - (intOf i).toNat)
  case atStart => exact ⟨0, by omega, rfl, Lib.hid ⟨0, rfl⟩⟩
  case round =>
    obtain ⟨k, hk, rfl, hw⟩ := hrel
    obtain ⟨nd, hwr⟩ := hw.out
    subst hwr
    by_cases hlt : k < 6
    · have hd := List.getElem?_eq_getElem (l := sG.D) (i := k) (by rw [lS]; exact hlt)
      obtain ⟨d, hde⟩ : ∃ d, sG.D[k]'(by rw [lS]; exact hlt) = d := ⟨_, rfl⟩
      rw [hde] at hd
      obtain ⟨g, rfl, _, r0, r1, r2, r3⟩ := SD.out k d hd
      obtain ⟨e1, e2⟩ := dS k d hd
      rw [e1] at r0 r1
      replace r0 : ve.cell? ⟨g, k * 4, none⟩ = some (.int .i64 1) := r0
      replace r1 : ve.cell? ⟨g, k * 4 + 1, none⟩ = some (.int .i64 2) := r1
      have x0 : ve.cell? ⟨gw, k, none⟩ = some (.string (bsL d.why)) := WE.out.cell k _ (by
        have : ((wantS.map Value.string).toArray)[k]? = some (.string (bsL d.why)) := by rw [List.getElem?_toArray, List.getElem?_map, e2]; rfl
        exact this)
      have c2 : ve.cell? ⟨b1 + 1, 0, none⟩ = some (.int .i64 1) := Te.out.c2
      have c3 : ve.cell? ⟨b1 + 1, 1, none⟩ = some (.int .i64 2) := Te.out.c3
      have hk6 : (k : Int) < 6 := by omega
      have hk0 : (0 : Int) ≤ k := by omega
      obtain ⟨Y, hY⟩ : ∃ Y, bsL d.why = Y := ⟨_, rfl⟩
      rw [hY] at r3 x0
      have K1 := Lib.hid hlt
      have hcc : (6 : Int) ≤ c := by omega
      clear hd hde e1 e2 hY r2
      go_wp2_with fail
      go_quiet (fail)
      go_wp2_with fail
      go_roundw
      case rel => exact ⟨k + 1, K1.out, by go_num, Lib.hid ⟨nd + nq, rfl⟩⟩
      case measure =>
        have := K1.out
        simp [intOf]; omega
    · obtain rfl : k = 6 := by omega
      have c1 : ve.cell? ⟨b1, 0, none⟩ = some (.pointer (some ⟨p, 0, none⟩)) := Te.out.c1
      have c2 : ve.cell? ⟨b1 + 1, 0, none⟩ = some (.int .i64 1) := Te.out.c2
      have c3 : ve.cell? ⟨b1 + 1, 1, none⟩ = some (.int .i64 2) := Te.out.c3
      have Tf := Lib.hid (Te.out.low (w' := ve.drewN nd) ⟨rfl, rfl, rfl, Nat.le_refl _, fun _ _ => rfl⟩)
      go_wp2_with fail
      refine (sn_tier Tf.out IA.out q7).mono ?_
      rintro e vf ⟨rfl, h⟩
      have Tg := Lib.hid h
      have c1 := h.c1
      clear h Tf
      go_wp2_with fail
      refine (text_at Tg.out.r qt).mono ?_
      rintro e vg ⟨rfl, h, _⟩
      have Th := Lib.hid h
      clear h
      have hT : (wT.toList == wT.toList) = true := by simp
      unfold wT at *
      go_wp2_with fail
      go_ret
      exact ⟨rfl, Th.out.b⟩
end Go.Proofs.YtjoffbgfokedlaaDoor.Pf
