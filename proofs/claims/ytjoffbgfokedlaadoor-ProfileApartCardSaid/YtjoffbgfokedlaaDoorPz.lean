/-
  Nil and zero profiles: what package profile does with them.
-/
import Derived.Test.YtjoffbgfokedlaaDoorTt
import Derived.Laws.IdiomRangeMap
namespace Go.Proofs.YtjoffbgfokedlaaDoor.Pf
open Go Go.RowKit Go.Shelf

attribute [local go_sem] Oper.semAt_some

/-- A nil pointer, or one to a zero profile. -/
def NilAt (w : World) (v : Value) : Prop := v = .pointer none ∨ ∃ z, v = .pointer (some ⟨z, 0, none⟩) ∧ Bk w z #[.int .i64 0, .int .i64 0, .int .i64 0, .int .i64 0, .map none, .slice none 0 0] 67
theorem NilAt.low {w w' : World} {v : Value} (h : NilAt w v) (hb : Below w.heap.size w w') : NilAt w' v := by
  rcases h with h | ⟨z, h, hz⟩
  · exact .inl h
  · exact .inr ⟨z, h, Bk.low hb hz⟩
structure NilKit : Prop where
  back : ∀ (w : World) (v : Value) (a : Plc), NilAt w v → okP a → Calls Tryd.prog 23 #[v, plcV a] w fun e w' => e = .returned (.bool false) ∧ Below w.heap.size w w'
  left : ∀ (w : World) (v : Value) (a : Plc), NilAt w v → okP a → Calls Tryd.prog 24 #[v, plcV a, .int .i64 0] w fun e w' => e = .returned (.bool false) ∧ Below w.heap.size w w'
  failed : ∀ (w : World) (v : Value) (a : Plc), NilAt w v → okP a → Calls Tryd.prog 26 #[v, plcV a, .int .i64 30] w fun e w' => e = .returned (.tuple #[]) ∧ Below w.heap.size w w'
  tier : ∀ (w : World) (v : Value) (a : Plc), NilAt w v → okP a → Calls Tryd.prog 18 #[v, plcV a] w fun e w' => e = .returned (.int .i64 0) ∧ Below w.heap.size w w'
  decs : ∀ (w : World) (v : Value), NilAt w v → Calls Tryd.prog 17 #[v] w fun e w' => e = .returned (.slice none 0 0) ∧ Below w.heap.size w w'
  text : ∀ (w : World) (v : Value), NilAt w v → Calls Tryd.prog 14 #[v] w fun e w' => e = .returned (.string ⟨#[]⟩) ∧ Below w.heap.size w w'
theorem zero_loop (w : World) (v : Value) (a : Plc) (h : NilAt w v) (ha : okP a) : Calls Tryd.prog 42 #[v, plcV a] w fun e w' => e = .returned (.pointer none) ∧ Below w.heap.size w w' := by
  rcases h with rfl | ⟨z, rfl, hz⟩
  · exact nil_loop w a
  · have L := fun (n : Nat) => (show (Instr.lookup 65 (.map none) (plcV a) false).run Tryd.prog ((w.alloc (.cells #[.int .i64 a.1, .int .i64 a.2] 43)).drewN n) = .ok (.pointer none) ((w.alloc (.cells #[.int .i64 a.1, .int .i64 a.2] 43)).drewN n) by
      have := Maps.look_nil false keyed Tryd.underlying65 (zeroPtr ((w.alloc (.cells #[.int .i64 a.1, .int .i64 a.2] 43)).drewN n)) (keyOf_mk ha)
      simpa using this)
    have c4 := (hz.alloc (.cells #[.int .i64 a.1, .int .i64 a.2] 43)).cell 4 (.map none) rfl
    obtain ⟨x, y⟩ := a
    clear hz ha
    unfold plcV at *
    go_enter Tryd.func42, Tryd.ntmps42
    go_wp2_with fail
    go_quiet (fail)
    go_wp2_with fail
    go_ret
    exact ⟨rfl, ((Below.refl _ w).alloc (Nat.le_refl _) _).trans ⟨rfl, rfl, rfl, Nat.le_refl _, fun _ _ => rfl⟩⟩
theorem zero_start (w : World) (v : Value) (a : Plc) (h : NilAt w v) : Calls Tryd.prog 45 #[v, plcV a] w fun e w' => e = .returned (.pointer none) ∧ Below w.heap.size w w' := by
  have qT : ∀ (w : World) (r : Option Nat), (binOp .eql 65 (.map r) (.map none)).run Tryd.prog w = .ok (.bool r.isNone) w := fun w r => run_eql_map_nil w _ _ _ r Tryd.underlying65
  obtain ⟨x, y⟩ := a
  unfold plcV
  rcases h with rfl | ⟨z, rfl, hz⟩
  · go_enter Tryd.func45, Tryd.ntmps45
    go_wp2_with fail
    go_ret
    exact ⟨rfl, ((Below.refl _ w).alloc (Nat.le_refl _) _).alloc (by simp) _⟩
  · have c4 := hz.cell 4 (.map none) rfl
    have zl := hz.lt
    clear hz
    go_enter Tryd.func45, Tryd.ntmps45
    go_wp2_with fail
    go_ret
    exact ⟨rfl, ((Below.refl _ w).alloc (Nat.le_refl _) _).alloc (by simp) _⟩
theorem zero_back (w : World) (v : Value) (a : Plc) (h : NilAt w v) (ha : okP a) : Calls Tryd.prog 23 #[v, plcV a] w fun e w' => e = .returned (.bool false) ∧ Below w.heap.size w w' := by
  have B1 := Lib.hid ((Below.refl _ w).alloc (Nat.le_refl _) (.cells #[.int .i64 a.1, .int .i64 a.2] 43))
  have H := Lib.hid (h.low B1.out)
  have HA := Lib.hid ha
  have LO := Lib.hid (zero_loop _ v a H.out HA.out)
  have ST := Lib.hid (fun w' (hb : Below (w.alloc (.cells #[.int .i64 a.1, .int .i64 a.2] 43)).heap.size (w.alloc (.cells #[.int .i64 a.1, .int .i64 a.2] 43)) w') => zero_start w' v a (H.out.low hb))
  obtain ⟨x, y⟩ := a
  unfold plcV at *
  simp only at B1 LO ST
  clear h ha
  go_enter Tryd.func23, Tryd.ntmps23
  go_wp2_with fail
  refine LO.out.mono ?_
  rintro e w1 ⟨rfl, hb⟩
  have BX := Bk.low hb (Bk.new w #[.int .i64 x, .int .i64 y] 43)
  have HB := Lib.hid hb
  have c2 := BX.cell 0 (.int .i64 x) rfl
  have c3 := BX.cell 1 (.int .i64 y) rfl
  clear hb BX
  go_wp2_with fail
  refine (ST.out w1 HB.out).mono ?_
  rintro e w2 ⟨rfl, hb⟩
  have HC := Lib.hid (B1.out.trans ((HB.out.trans (hb.mono HB.out.size)).mono B1.out.size))
  clear hb
  go_wp2_with fail
  go_ret
  exact ⟨rfl, HC.out⟩
theorem zero_left (w : World) (v : Value) (a : Plc) (h : NilAt w v) (ha : okP a) : Calls Tryd.prog 24 #[v, plcV a, .int .i64 0] w fun e w' => e = .returned (.bool false) ∧ Below w.heap.size w w' := by
  have B1 := Lib.hid ((Below.refl _ w).alloc (Nat.le_refl _) (.cells #[.int .i64 a.1, .int .i64 a.2] 43))
  have LO := Lib.hid (zero_loop _ v a (h.low B1.out) ha)
  obtain ⟨x, y⟩ := a
  unfold plcV at *
  simp only at B1 LO
  clear h ha
  go_enter Tryd.func24, Tryd.ntmps24
  go_wp2_with fail
  refine LO.out.mono ?_
  rintro e w1 ⟨rfl, hb⟩
  have HC := Lib.hid (B1.out.trans (hb.mono B1.out.size))
  clear hb
  go_wp2_with fail
  go_ret
  exact ⟨rfl, HC.out⟩
theorem zero_failed (w : World) (v : Value) (a : Plc) (h : NilAt w v) (ha : okP a) : Calls Tryd.prog 26 #[v, plcV a, .int .i64 30] w fun e w' => e = .returned (.tuple #[]) ∧ Below w.heap.size w w' := by
  have B1 := Lib.hid ((Below.refl _ w).alloc (Nat.le_refl _) (.cells #[.int .i64 a.1, .int .i64 a.2] 43))
  have LO := Lib.hid (zero_loop _ v a (h.low B1.out) ha)
  obtain ⟨x, y⟩ := a
  unfold plcV at *
  simp only at B1 LO
  clear h ha
  go_enter Tryd.func26, Tryd.ntmps26
  go_wp2_with fail
  refine LO.out.mono ?_
  rintro e w1 ⟨rfl, hb⟩
  have HC := Lib.hid (B1.out.trans (hb.mono B1.out.size))
  clear hb
  go_wp2_with fail
  refine bodyPost_ret (v := .tuple #[]) (by simp [results, Tryd.results26, go_sem]) rfl ⟨rfl, HC.out⟩
theorem zero_tier (w : World) (v : Value) (a : Plc) (h : NilAt w v) (ha : okP a) : Calls Tryd.prog 18 #[v, plcV a] w fun e w' => e = .returned (.int .i64 0) ∧ Below w.heap.size w w' := by
  have B1 := Lib.hid ((Below.refl _ w).alloc (Nat.le_refl _) (.cells #[.int .i64 a.1, .int .i64 a.2] 43))
  have LO := Lib.hid (zero_loop _ v a (h.low B1.out) ha)
  obtain ⟨x, y⟩ := a
  unfold plcV at *
  simp only at B1 LO
  clear h ha
  go_enter Tryd.func18, Tryd.ntmps18
  go_wp2_with fail
  refine LO.out.mono ?_
  rintro e w1 ⟨rfl, hb⟩
  have HC := Lib.hid (B1.out.trans (hb.mono B1.out.size))
  clear hb
  go_wp2_with fail
  go_ret
  exact ⟨rfl, HC.out⟩
theorem clone_nil (w : World) : Calls Tryd.prog 41 #[.slice none 0 0] w fun e w' => e = .returned (.slice none 0 0) ∧ w = w' := by
  have q := eqlNilD
  go_enter Tryd.func41, Tryd.ntmps41
  go_wp2_with fail
  go_ret
  exact ⟨rfl, rfl⟩
theorem zero_decs (w : World) (v : Value) (h : NilAt w v) : Calls Tryd.prog 17 #[v] w fun e w' => e = .returned (.slice none 0 0) ∧ Below w.heap.size w w' := by
  rcases h with rfl | ⟨z, rfl, hz⟩
  · go_enter Tryd.func17, Tryd.ntmps17
    go_wp2_with fail
    go_ret
    exact ⟨rfl, Below.refl _ _⟩
  · have c5 := hz.cell 5 (.slice none 0 0) rfl
    clear hz
    go_enter Tryd.func17, Tryd.ntmps17
    go_wp2_with fail
    refine (clone_nil w).mono ?_
    rintro e w1 ⟨rfl, rfl⟩
    go_wp2_with fail
    go_ret
    exact ⟨rfl, Below.refl _ _⟩
set_option maxRecDepth 100000 in
set_option maxHeartbeats 4000000 in
theorem keys1_nil (F : Fence) (m : Nat) (hF : F.fn 54) (hro : F.round = none) (l Bm : Nat) (J : List Ky → World → Prop)
    (W : World) (hJ : AbidesFrom W.heap.size J) (hm0 : W.cell? ⟨Bm, 0, none⟩ = some (.map none)) (h0 : J [] W) :
    CallsIn F m Tryd.prog 54 #[.func (.yield l) #[] #[], .pointer (some ⟨Bm, 0, none⟩)] W fun e Y => (∃ v, e = .returned v) ∧ ∃ xs, xs = [] ∧ J xs Y := by
  have HJ := Lib.hid (hJ [] W (W.alloc (.mapIter none 0 #[] 0)) none h0 (World.grownBy_alloc W _ none) (by simp))
  clear hJ h0
  have rr := fun (w : World) => run_range_nilMap w 65 43 84 Tryd.underlying65
  have rn := @run_next_nilMap Tryd.prog
  refine callsIn_of_wp Tryd.func54 rfl hF ?_ hro
  simp only [Tryd.ntmps54, List.size_toArray, List.length_cons, List.length_nil, Nat.reduceAdd, Nat.reduceSub, Array.replicate_succ, Array.replicate_zero, List.push_toArray, List.append_toArray, List.nil_append, List.cons_append]
  gi_wp2
  gi_loopw [3] (fun _ wr => wr = W.alloc (.mapIter none 0 #[] 0)) (fun _ _ => 0)
  case atStart => rfl
  case round =>
    subst hrel
    gi_wp2
    go_end0
    exact ⟨⟨_, rfl⟩, [], rfl, HJ.out⟩
theorem keysnil_seq (F : Fence) (m : Nat) (hF : F.fn 54) (hro : F.round = none) (Bm : Nat) (w : World) (hb : Bm < w.heap.size) (h0 : w.cell? ⟨Bm, 0, none⟩ = some (.map none)) :
    SeqRel F m Tryd.prog 54 #[.pointer (some ⟨Bm, 0, none⟩)] (fun x : Ky => #[plcV x]) (fun _ _ => True) KeepsWalks (fun _ => False) (fun xs => xs = []) w := fun l J W hW hJ _ _ hs =>
  keys1_nil F m hF hro l Bm J W hJ ((hW.cell (p := ⟨Bm, 0, none⟩) hb).trans h0) hs
set_option maxHeartbeats 1000000 in
theorem collect_nil (w : World) (Bm : Nat) (hb : Bm < w.heap.size) (h0 : w.cell? ⟨Bm, 0, none⟩ = some (.map none)) :
    Calls Tryd.prog 52 #[.func (.func 54) #[] #[.pointer (some ⟨Bm, 0, none⟩)]] w fun e w' =>
      ∃ v, e = .returned v ∧ w'.ownsRow w.heap.size 43 2 v 0 [] ∧ Below w.heap.size w w' := by
  have A := Lib.hid ((callsIn_wide (n := 8)).1 (appendSeq_in 8 (by omega) 54 #[.pointer (some ⟨Bm, 0, none⟩)] (enters_of Tryd.func54 (by kernel_rfl) rfl) (fun _ => False) (fun xs => xs = []) (fun xs hx => hx.elim) w (keysnil_seq Fence.wide 7 trivial rfl Bm w hb h0)))
  go_enter Tryd.func52, Tryd.ntmps52
  go_wp2_with fail
  refine A.out.mono ?_
  rintro e w' ⟨v, xs, rfl, rfl, ho, hB⟩
  have G := Lib.hid (And.intro ho hB)
  clear ho hB
  go_wp2_with fail
  go_ret
  exact ⟨v, rfl, G.out.1, G.out.2⟩
set_option maxHeartbeats 1000000 in
theorem sorted_nil (w : World) (Bm : Nat) (hb : Bm < w.heap.size) (h0 : w.cell? ⟨Bm, 0, none⟩ = some (.map none)) :
    Calls Tryd.prog 34 #[.func (.func 54) #[] #[.pointer (some ⟨Bm, 0, none⟩)], .func (.func 36) #[] #[]] w fun e w' =>
      ∃ A c, e = .returned (.slice A 0 c) ∧ Below w.heap.size w w' := by
  have C := Lib.hid (collect_nil w Bm hb h0)
  clear h0
  go_enter Tryd.func34, Tryd.ntmps34
  go_wp2_with fail
  refine C.out.mono ?_
  rintro e w1 ⟨v, rfl, ho, hB⟩
  have S := Lib.hid (sort_any w1 w.heap.size v [] ho (by simp))
  have HB := Lib.hid hB
  have HO := Lib.hid ho
  clear hB ho
  go_wp2_with fail
  refine S.out.mono ?_
  rintro e w2 ⟨rfl, ho2, hg2⟩
  have G := Lib.hid (show Below w.heap.size w w2 from HB.out.grown hg2 HB.out.size (fun k hk => (HO.out.lt k hk).1))
  obtain ⟨A, c, rfl⟩ := own_slice ho2
  clear ho2 hg2
  go_wp2_with fail
  go_ret
  exact ⟨A, c, rfl, G.out⟩
set_option maxRecDepth 100000 in
set_option maxHeartbeats 4000000 in
theorem zero_text (w : World) (v : Value) (h : NilAt w v) : Calls Tryd.prog 14 #[v] w fun e w' => e = .returned (.string ⟨#[]⟩) ∧ Below w.heap.size w w' := by
  rcases h with rfl | ⟨z, rfl, hz⟩
  · go_enter Tryd.func14, Tryd.ntmps14
    go_wp2_with fail
    go_ret
    exact ⟨rfl, Below.refl _ _⟩
  · have c4 := hz.cell 4 (.map none) rfl
    have zl := hz.lt
    clear hz
    go_enter Tryd.func14, Tryd.ntmps14
    go_wp2_with fail
    obtain ⟨W1, hW1⟩ : ∃ W1, w.alloc (.cells #[.pointer none, .slice none 0 0] 78) = W1 := ⟨_, rfl⟩
    have K1 := Lib.hid (show Bk W1 w.heap.size #[.pointer none, .slice none 0 0] 78 by rw [← hW1]; exact Bk.new w _ _)
    have B1 := Lib.hid (show Below w.heap.size w W1 by rw [← hW1]; exact (Below.refl _ w).alloc (Nat.le_refl _) _)
    rw [hW1]
    clear hW1
    refine (keys_any none W1).mono ?_
    rintro e W2 ⟨rfl, rfl⟩
    go_wp2_with fail
    have SF := Lib.hid (sorted_nil (W1.alloc (.cells #[.map none] 65)) W1.heap.size (by simp) ((Bk.new W1 #[.map none] 65).cell 0 _ rfl))
    refine SF.out.mono ?_
    rintro e W3 ⟨A3, c3, rfl, hb⟩
    have B3 := Lib.hid ((B1.out.alloc B1.out.size _).trans (hb.mono (B1.out.alloc B1.out.size _).size))
    have K3 := Lib.hid (Bk.low hb (K1.out.alloc _))
    have BS := Lib.hid (bst w.heap.size w.heap.size [] W3 (Lib.IsBuilderF.of (.inl ⟨Nat.le_refl _, .slice none 0 0, K3.out, World.ownsRow_nil _ _ _ _, by simp [Value.ownBlock]⟩)) B3.out.size)
    clear hb SF K1
    go_wp2_with fail
    go_loopw [16] (fun i wr => i = .int .i64 0 ∧ wr = W3) (fun _ _ => 0)
    case atStart => exact ⟨rfl, rfl⟩
    case round =>
      obtain ⟨rfl, rfl⟩ := hrel
      go_wp2_with fail
      refine BS.out.mono ?_
      rintro e w5 ⟨rfl, h5⟩
      have G := Lib.hid (B3.out.trans h5)
      clear h5
      go_wp2_with fail
      go_ret
      exact ⟨rfl, G.out⟩
theorem theNil : NilKit := ⟨zero_back, zero_left, zero_failed, zero_tier, zero_decs, zero_text⟩
end Go.Proofs.YtjoffbgfokedlaaDoor.Pf
