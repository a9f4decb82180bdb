/-
  The landed site: Forget.
-/
import Derived.Test.YtpgjmmlgaanelaaDoorSd
import Derived.Test.YtpgjmmlgaanelaaDoorCl
import Derived.Deep.RegionLaw
namespace Go.Proofs.YtpgjmmlgaanelaaDoor.Ch
open Go Go.RowKit

theorem run_copy_two {P : Program} (w : World) (dT sT ty elem : TypeId) (g o dLen dCap : Nat) (a : Addr) (sLen sCap : Nat) (cur : Array Value) (t : TypeId) (cs : List Value)
    (hu : P.underlying dT = some (.slice elem)) (hs : (P.info? elem).map (·.size) = some 2)
    (hg : w.heap[g]? = some (.cells cur t (0, 0))) (hn : cs.length = Nat.min sLen dLen * 2)
    (hsrc : ∀ j v, cs[j]? = some v → w.cell? (a.add j) = some v) (hfit : o + cs.length ≤ cur.size) (h1 : ∀ v ∈ cs, v.oneCell' = true) :
    (Builtin.copy_ #[dT, sT] ty #[.slice (some ⟨g, o, none⟩) dLen dCap, .slice (some a) sLen sCap]).run P w =
      .ok (goInt (Nat.min sLen dLen)) (w.setRow g (cur.toList.take o ++ cs ++ cur.toList.drop (o + cs.length)).toArray) := by
  have hl := run_loadCells_list (P := P) w a cs hsrc
  have hst := run_storeCells_at P g o t cs 0 cur w hg (by simpa using hfit) h1
  cases hq : P.info? elem with
  | none => simp [hq] at hs
  | some i =>
    have hi : i.size = 2 := by simpa [hq] using hs
    simp [Builtin.copy_, run_underlying hu, Builtin.lenOf, Builtin.firstCells, sizeOf, typeInfo, hq, hi, ← hn, hl, hst]
theorem run_copy_none2 {P : Program} (w : World) (dT sT ty elem : TypeId) (d a : Option Addr) (dLen dCap sLen sCap : Nat) (hu : P.underlying dT = some (.slice elem)) (hs : (P.info? elem).map (·.size) = some 2) (hn : Nat.min sLen dLen = 0) :
    (Builtin.copy_ #[dT, sT] ty #[.slice d dLen dCap, .slice a sLen sCap]).run P w = .ok (goInt 0) w := by
  cases hq : P.info? elem with
  | none => simp [hq] at hs
  | some i =>
    have hl : ∀ (x : Addr), (loadCells x 0).run P w = .ok #[] w := fun x => by simpa using run_loadCells_list (P := P) w x [] (by simp)
    cases d <;> cases a <;> simp [Builtin.copy_, run_underlying hu, Builtin.lenOf, Builtin.firstCells, sizeOf, typeInfo, hq, hn, storeCells, hl]
theorem add_at (g o j : Nat) : (⟨g, o, none⟩ : Addr).add j = ⟨g, o + j, none⟩ := by
  unfold Addr.add
  split
  · rename_i e; rw [e]; rfl
  · rfl
theorem Chg.row {w : World} {g : Nat} (c : Array Value) : Chg (fun b => b = g) w (w.setRow g c) :=
  ⟨rfl, rfl, rfl, by simp [World.setRow], fun k _ hk => setRow_other w g k c hk⟩
theorem Chg.predrew {w w' : World} {F : Nat → Prop} (c : Chg F w.drew w') : Chg F w w' := (Chg.drawn 1).trans c fun _ hx => .inl hx
/-- Elements of two cells moved within one block, as a step of a region that draws. -/
theorem step_move {P : Program} {ops : Array Oper} {o : Oper} {a : Go.Act} {w : World} {K : Go.Act → World → Prop} {Q : Exit → Go.Act → World → Prop} {E : Prop} (hgd : o.guard = none) (d s : Operand) (dT sT : TypeId)
    (ho : o.op = .call { callee := .builtin .copy, args := #[d, s], argTypes := #[dT, sT] }) (elem : TypeId) (hu : P.underlying dT = some (.slice elem)) (hsz : (P.info? elem).map (·.size) = some 2)
    (dp sp : Option Addr) (dLen dCap sLen sCap : Nat) (hd : a.eval d = .slice dp dLen dCap) (hs : a.eval s = .slice sp sLen sCap) (m : Nat) (hm : Nat.min sLen dLen = m)
    (g od os : Nat) (L : List Value) (T : TypeId) (hg : Bk w g L.toArray T) (hpos : 0 < m → dp = some ⟨g, od, none⟩ ∧ sp = some ⟨g, os, none⟩) (hfs : os + m * 2 ≤ L.length) (hfd : od + m * 2 ≤ L.length) (h1 : ∀ v ∈ L, v.oneCell' = true)
    (h : ∀ w', Hid (Bk w' g (L.take od ++ (L.drop os).take (m * 2) ++ L.drop (od + m * 2)).toArray T) → Hid (Chg (fun b => b = g) w w') → K (a.put o.dst (goInt m)) w') :
    if Region.wanted o (yielded ops a.tmps) = true then Oper.wp P o a w K Q else E := by
  have hw : Region.wanted o (yielded ops a.tmps) = true := by simp [Region.wanted, hgd]
  rw [if_pos hw]
  have hl : ((L.drop os).take (m * 2)).length = m * 2 := by rw [List.length_take, List.length_drop]; omega
  by_cases h0 : m = 0
  · subst h0
    have hrun := run_copy_none2 (P := P) w dT sT o.type elem dp sp dLen dCap sLen sCap hu hsz hm
    unfold Oper.wp
    simp [execOp, ho, resolve, invoke, builtin, hd, hs, hrun, Result.andThen]
    exact h w (show Bk _ _ _ _ by simpa using hg) (show Chg _ _ _ from Chg.refl _ _)
  · obtain ⟨rfl, rfl⟩ := hpos (by omega)
    have hrun := run_copy_two (P := P) w dT sT o.type elem g od dLen dCap ⟨g, os, none⟩ sLen sCap L.toArray T ((L.drop os).take (m * 2)) hu hsz hg (by rw [hl, hm]) (fun j v hj => by
        rw [add_at]
        have hj2 := (List.getElem?_eq_some_iff.1 hj).1
        rw [List.getElem?_take_of_lt (by omega), List.getElem?_drop] at hj
        exact hg.cell _ _ (by rw [List.getElem?_toArray]; exact hj)) (by rw [hl]; simpa using hfd) (fun v hv => h1 v (List.mem_of_mem_drop (List.mem_of_mem_take hv)))
    rw [hm, hl] at hrun
    unfold Oper.wp
    simp [execOp, ho, resolve, invoke, builtin, hd, hs, hrun, Result.andThen]
    exact h _ (show Bk _ _ _ _ by unfold Bk; simpa using setRow_heap w g _ _ T _ hg) (show Chg _ _ _ from Chg.row _)
theorem entryU : Tryd.prog.underlying 62 = some (.slice 54) := Tryd.underlying62
theorem entryS : (Tryd.prog.info? 54).map (·.size) = some 2 := by kernel_rfl
theorem del_at {s : Int} {l : List (Int × Int)} (hn : (l.map (·.1)).Nodup) {k : Nat} {q : Int × Int} (hk : l[k]? = some q) (he : q.1 = s) : del s l = l.eraseIdx k := by
  induction l generalizing k with
  | nil => simp at hk
  | cons r l ih =>
    simp only [List.map_cons, List.nodup_cons] at hn
    unfold del at ih ⊢
    cases k with
    | zero =>
      simp at hk
      subst hk
      rw [List.filter_cons_of_neg (by simp [he]), List.eraseIdx_cons_zero]
      refine List.filter_eq_self.2 fun x hx => ?_
      simp
      exact fun e => hn.1 (by rw [he, ← e]; exact List.mem_map_of_mem hx)
    | succ k =>
      have hk' : l[k]? = some q := by simpa using hk
      have hr : ¬ r.1 = s := fun e => hn.1 (by
        rw [e, ← he]
        exact List.mem_map_of_mem (List.mem_of_getElem? hk'))
      rw [List.filter_cons_of_pos (by simp [hr]), ih hn.2 hk', List.eraseIdx_cons_succ]
theorem ones_row {t : Ste} : ∀ v ∈ (rowS t).toList, v.oneCell' = true := by
  intro v hv
  unfold rowS pad at hv
  simp only [List.mem_append, List.mem_cons, List.not_mem_nil, or_false] at hv
  rcases hv with (hv | hv) | rfl | rfl | rfl | rfl
  · exact flat_cells _ v hv
  · rw [List.mem_replicate] at hv
    rw [hv.2]; rfl
  all_goals rfl
set_option maxRecDepth 100000 in
set_option maxHeartbeats 8000000 in
theorem code_forget (w : World) (p : Nat) (t : Ste) (F : Nat → Prop) (n : Nat) (s : Int) (h : SiteAt w p t F) (hk : t.Ok n) :
    Calls Tryd.prog 16 #[.pointer (some ⟨p, 0, none⟩), .int .i64 s] w (To SiteAt w p F (t.forget s).2 (.bool (t.forget s).1)) := by
  have IX := Lib.hid (code_index w h hk.len s)
  have H := Lib.hid h
  have l4 := hk.len
  have pl := h.c.lt
  have K := Lib.hid hk
  clear h hk
  go_enter Tryd.func16, Tryd.ntmps16
  go_wp2_with fail
  refine IX.out.mono ?_
  rintro e w1 ⟨hb, hx⟩
  have HB := Lib.hid hb
  have H1 := (H.out.below hb).c
  have BK := Lib.hid H1
  rcases hx with ⟨k, q, rfl, hk, he, hf⟩ | ⟨rfl, hl⟩
  · have kl := (List.getElem?_eq_some_iff.1 hk).1
    have LE := Lib.hid (show t.forget s = (true, { t with l := t.l.eraseIdx k }) by
      unfold Ste.forget
      rw [lk_first hk he hf, del_at K.out.nd hk he]; rfl)
    clear hb H1 IX hk he hf
    obtain ⟨l, fl, hi, mi⟩ := t
    simp only at l4 kl LE
    rcases short l4 with e | ⟨q0, e⟩ | ⟨q0, q1, e⟩ | ⟨q0, q1, q2, e⟩ | ⟨q0, q1, q2, q3, e⟩ <;> subst e
    · simp at kl
    · obtain rfl : k = 0 := by simp at kl; omega
      have B0 : Bk w1 p ([.int .i64 q0.1, .int .i64 q0.2, .int .i64 0, .int .i64 0, .int .i64 0, .int .i64 0, .int .i64 0, .int .i64 0, .int .i64 1, .bool fl, .int .i64 hi, .int .i64 mi] : List Value).toArray 57 := BK.out
      have ON := Lib.hid (ones_row (t := ⟨[q0], fl, hi, mi⟩))
      have c8 : w1.cell? ⟨p, 8, none⟩ = some (.int .i64 1) := B0.cell 8 _ rfl
      have wr : IntKind.i64.wrap 1 = 1 := by kernel_rfl
      clear kl l4 K BK
      replace B0 := Lib.hid B0
      go_wp2_with fail
      go_region_law (refine step_move rfl (.tmp 15) (.tmp 25) _ _ rfl _ entryU entryS _ _ _ _ _ _ rfl rfl 0 rfl p 0 2 _ _ B0.out (by intro h0; first | exact ⟨rfl, rfl⟩ | (exact absurd h0 (by decide))) (by simp) (by simp) ON.out ?_; intro w4 hg4 hc4)
      have B4 : Bk w4 p ([.int .i64 q0.1, .int .i64 q0.2, .int .i64 0, .int .i64 0, .int .i64 0, .int .i64 0, .int .i64 0, .int .i64 0, .int .i64 1, .bool fl, .int .i64 hi, .int .i64 mi] : List Value).toArray 57 := hg4.out
      have c8 : w4.cell? ⟨p, 8, none⟩ = some (.int .i64 1) := B4.cell 8 _ rfl
      have ca := B4.cell 0 _ rfl
      have cb := B4.cell 1 _ rfl
      have f8 := B4.frozen 8
      have fa := B4.frozen 0
      have fb := B4.frozen 1
      have TO := Lib.hid (H.out.toB HB.out (t' := ⟨[], fl, hi, mi⟩) (((B4.set 8 (.int .i64 0)).set 0 (.int .i64 0)).set 1 (.int .i64 0)).drewn
        (((hc4.out.predrew.also 8 (.int .i64 0)).also 0 (.int .i64 0)).also 1 (.int .i64 0)).drewn (.bool true))
      clear B4 hg4 hc4 B0 ON
      go_wp2_with fail
      go_region
      go_wp2_with fail
      go_ret
      rw [LE.out]; exact TO.out
    · rcases (show k = 0 ∨ k = 1 by simp at kl; omega) with rfl | rfl
      · have B0 : Bk w1 p ([.int .i64 q0.1, .int .i64 q0.2, .int .i64 q1.1, .int .i64 q1.2, .int .i64 0, .int .i64 0, .int .i64 0, .int .i64 0, .int .i64 2, .bool fl, .int .i64 hi, .int .i64 mi] : List Value).toArray 57 := BK.out
        have ON := Lib.hid (ones_row (t := ⟨[q0, q1], fl, hi, mi⟩))
        have c8 : w1.cell? ⟨p, 8, none⟩ = some (.int .i64 2) := B0.cell 8 _ rfl
        have wr : IntKind.i64.wrap 1 = 1 := by kernel_rfl
        clear kl l4 K BK
        replace B0 := Lib.hid B0
        go_wp2_with fail
        go_region_law (refine step_move rfl (.tmp 15) (.tmp 25) _ _ rfl _ entryU entryS _ _ _ _ _ _ rfl rfl 1 rfl p 0 2 _ _ B0.out (by intro h0; first | exact ⟨rfl, rfl⟩ | (exact absurd h0 (by decide))) (by simp) (by simp) ON.out ?_; intro w4 hg4 hc4)
        have B4 : Bk w4 p ([.int .i64 q1.1, .int .i64 q1.2, .int .i64 q1.1, .int .i64 q1.2, .int .i64 0, .int .i64 0, .int .i64 0, .int .i64 0, .int .i64 2, .bool fl, .int .i64 hi, .int .i64 mi] : List Value).toArray 57 := hg4.out
        have c8 : w4.cell? ⟨p, 8, none⟩ = some (.int .i64 2) := B4.cell 8 _ rfl
        have ca := B4.cell 2 _ rfl
        have cb := B4.cell 3 _ rfl
        have f8 := B4.frozen 8
        have fa := B4.frozen 2
        have fb := B4.frozen 3
        have TO := Lib.hid (H.out.toB HB.out (t' := ⟨[q1], fl, hi, mi⟩) (((B4.set 8 (.int .i64 1)).set 2 (.int .i64 0)).set 3 (.int .i64 0)).drewn
          (((hc4.out.predrew.also 8 (.int .i64 1)).also 2 (.int .i64 0)).also 3 (.int .i64 0)).drewn (.bool true))
        clear B4 hg4 hc4 B0 ON
        go_wp2_with fail
        go_region
        go_wp2_with fail
        go_ret
        rw [LE.out]; exact TO.out
      · have B0 : Bk w1 p ([.int .i64 q0.1, .int .i64 q0.2, .int .i64 q1.1, .int .i64 q1.2, .int .i64 0, .int .i64 0, .int .i64 0, .int .i64 0, .int .i64 2, .bool fl, .int .i64 hi, .int .i64 mi] : List Value).toArray 57 := BK.out
        have ON := Lib.hid (ones_row (t := ⟨[q0, q1], fl, hi, mi⟩))
        have c8 : w1.cell? ⟨p, 8, none⟩ = some (.int .i64 2) := B0.cell 8 _ rfl
        have wr : IntKind.i64.wrap 2 = 2 := by kernel_rfl
        clear kl l4 K BK
        replace B0 := Lib.hid B0
        go_wp2_with fail
        go_region_law (refine step_move rfl (.tmp 15) (.tmp 25) _ _ rfl _ entryU entryS _ _ _ _ _ _ rfl rfl 0 rfl p 2 4 _ _ B0.out (by intro h0; first | exact ⟨rfl, rfl⟩ | (exact absurd h0 (by decide))) (by simp) (by simp) ON.out ?_; intro w4 hg4 hc4)
        have B4 : Bk w4 p ([.int .i64 q0.1, .int .i64 q0.2, .int .i64 q1.1, .int .i64 q1.2, .int .i64 0, .int .i64 0, .int .i64 0, .int .i64 0, .int .i64 2, .bool fl, .int .i64 hi, .int .i64 mi] : List Value).toArray 57 := hg4.out
        have c8 : w4.cell? ⟨p, 8, none⟩ = some (.int .i64 2) := B4.cell 8 _ rfl
        have ca := B4.cell 2 _ rfl
        have cb := B4.cell 3 _ rfl
        have f8 := B4.frozen 8
        have fa := B4.frozen 2
        have fb := B4.frozen 3
        have TO := Lib.hid (H.out.toB HB.out (t' := ⟨[q0], fl, hi, mi⟩) (((B4.set 8 (.int .i64 1)).set 2 (.int .i64 0)).set 3 (.int .i64 0)).drewn
          (((hc4.out.predrew.also 8 (.int .i64 1)).also 2 (.int .i64 0)).also 3 (.int .i64 0)).drewn (.bool true))
        clear B4 hg4 hc4 B0 ON
        go_wp2_with fail
        go_region
        go_wp2_with fail
        go_ret
        rw [LE.out]; exact TO.out
    · rcases (show k = 0 ∨ k = 1 ∨ k = 2 by simp at kl; omega) with rfl | rfl | rfl
      · have B0 : Bk w1 p ([.int .i64 q0.1, .int .i64 q0.2, .int .i64 q1.1, .int .i64 q1.2, .int .i64 q2.1, .int .i64 q2.2, .int .i64 0, .int .i64 0, .int .i64 3, .bool fl, .int .i64 hi, .int .i64 mi] : List Value).toArray 57 := BK.out
        have ON := Lib.hid (ones_row (t := ⟨[q0, q1, q2], fl, hi, mi⟩))
        have c8 : w1.cell? ⟨p, 8, none⟩ = some (.int .i64 3) := B0.cell 8 _ rfl
        have wr : IntKind.i64.wrap 1 = 1 := by kernel_rfl
        clear kl l4 K BK
        replace B0 := Lib.hid B0
        go_wp2_with fail
        go_region_law (refine step_move rfl (.tmp 15) (.tmp 25) _ _ rfl _ entryU entryS _ _ _ _ _ _ rfl rfl 2 rfl p 0 2 _ _ B0.out (by intro h0; first | exact ⟨rfl, rfl⟩ | (exact absurd h0 (by decide))) (by simp) (by simp) ON.out ?_; intro w4 hg4 hc4)
        have B4 : Bk w4 p ([.int .i64 q1.1, .int .i64 q1.2, .int .i64 q2.1, .int .i64 q2.2, .int .i64 q2.1, .int .i64 q2.2, .int .i64 0, .int .i64 0, .int .i64 3, .bool fl, .int .i64 hi, .int .i64 mi] : List Value).toArray 57 := hg4.out
        have c8 : w4.cell? ⟨p, 8, none⟩ = some (.int .i64 3) := B4.cell 8 _ rfl
        have ca := B4.cell 4 _ rfl
        have cb := B4.cell 5 _ rfl
        have f8 := B4.frozen 8
        have fa := B4.frozen 4
        have fb := B4.frozen 5
        have TO := Lib.hid (H.out.toB HB.out (t' := ⟨[q1, q2], fl, hi, mi⟩) (((B4.set 8 (.int .i64 2)).set 4 (.int .i64 0)).set 5 (.int .i64 0)).drewn
          (((hc4.out.predrew.also 8 (.int .i64 2)).also 4 (.int .i64 0)).also 5 (.int .i64 0)).drewn (.bool true))
        clear B4 hg4 hc4 B0 ON
        go_wp2_with fail
        go_region
        go_wp2_with fail
        go_ret
        rw [LE.out]; exact TO.out
      · have B0 : Bk w1 p ([.int .i64 q0.1, .int .i64 q0.2, .int .i64 q1.1, .int .i64 q1.2, .int .i64 q2.1, .int .i64 q2.2, .int .i64 0, .int .i64 0, .int .i64 3, .bool fl, .int .i64 hi, .int .i64 mi] : List Value).toArray 57 := BK.out
        have ON := Lib.hid (ones_row (t := ⟨[q0, q1, q2], fl, hi, mi⟩))
        have c8 : w1.cell? ⟨p, 8, none⟩ = some (.int .i64 3) := B0.cell 8 _ rfl
        have wr : IntKind.i64.wrap 2 = 2 := by kernel_rfl
        clear kl l4 K BK
        replace B0 := Lib.hid B0
        go_wp2_with fail
        go_region_law (refine step_move rfl (.tmp 15) (.tmp 25) _ _ rfl _ entryU entryS _ _ _ _ _ _ rfl rfl 1 rfl p 2 4 _ _ B0.out (by intro h0; first | exact ⟨rfl, rfl⟩ | (exact absurd h0 (by decide))) (by simp) (by simp) ON.out ?_; intro w4 hg4 hc4)
        have B4 : Bk w4 p ([.int .i64 q0.1, .int .i64 q0.2, .int .i64 q2.1, .int .i64 q2.2, .int .i64 q2.1, .int .i64 q2.2, .int .i64 0, .int .i64 0, .int .i64 3, .bool fl, .int .i64 hi, .int .i64 mi] : List Value).toArray 57 := hg4.out
        have c8 : w4.cell? ⟨p, 8, none⟩ = some (.int .i64 3) := B4.cell 8 _ rfl
        have ca := B4.cell 4 _ rfl
        have cb := B4.cell 5 _ rfl
        have f8 := B4.frozen 8
        have fa := B4.frozen 4
        have fb := B4.frozen 5
        have TO := Lib.hid (H.out.toB HB.out (t' := ⟨[q0, q2], fl, hi, mi⟩) (((B4.set 8 (.int .i64 2)).set 4 (.int .i64 0)).set 5 (.int .i64 0)).drewn
          (((hc4.out.predrew.also 8 (.int .i64 2)).also 4 (.int .i64 0)).also 5 (.int .i64 0)).drewn (.bool true))
        clear B4 hg4 hc4 B0 ON
        go_wp2_with fail
        go_region
        go_wp2_with fail
        go_ret
        rw [LE.out]; exact TO.out
      · have B0 : Bk w1 p ([.int .i64 q0.1, .int .i64 q0.2, .int .i64 q1.1, .int .i64 q1.2, .int .i64 q2.1, .int .i64 q2.2, .int .i64 0, .int .i64 0, .int .i64 3, .bool fl, .int .i64 hi, .int .i64 mi] : List Value).toArray 57 := BK.out
        have ON := Lib.hid (ones_row (t := ⟨[q0, q1, q2], fl, hi, mi⟩))
        have c8 : w1.cell? ⟨p, 8, none⟩ = some (.int .i64 3) := B0.cell 8 _ rfl
        have wr : IntKind.i64.wrap 3 = 3 := by kernel_rfl
        clear kl l4 K BK
        replace B0 := Lib.hid B0
        go_wp2_with fail
        go_region_law (refine step_move rfl (.tmp 15) (.tmp 25) _ _ rfl _ entryU entryS _ _ _ _ _ _ rfl rfl 0 rfl p 4 6 _ _ B0.out (by intro h0; first | exact ⟨rfl, rfl⟩ | (exact absurd h0 (by decide))) (by simp) (by simp) ON.out ?_; intro w4 hg4 hc4)
        have B4 : Bk w4 p ([.int .i64 q0.1, .int .i64 q0.2, .int .i64 q1.1, .int .i64 q1.2, .int .i64 q2.1, .int .i64 q2.2, .int .i64 0, .int .i64 0, .int .i64 3, .bool fl, .int .i64 hi, .int .i64 mi] : List Value).toArray 57 := hg4.out
        have c8 : w4.cell? ⟨p, 8, none⟩ = some (.int .i64 3) := B4.cell 8 _ rfl
        have ca := B4.cell 4 _ rfl
        have cb := B4.cell 5 _ rfl
        have f8 := B4.frozen 8
        have fa := B4.frozen 4
        have fb := B4.frozen 5
        have TO := Lib.hid (H.out.toB HB.out (t' := ⟨[q0, q1], fl, hi, mi⟩) (((B4.set 8 (.int .i64 2)).set 4 (.int .i64 0)).set 5 (.int .i64 0)).drewn
          (((hc4.out.predrew.also 8 (.int .i64 2)).also 4 (.int .i64 0)).also 5 (.int .i64 0)).drewn (.bool true))
        clear B4 hg4 hc4 B0 ON
        go_wp2_with fail
        go_region
        go_wp2_with fail
        go_ret
        rw [LE.out]; exact TO.out
    · rcases (show k = 0 ∨ k = 1 ∨ k = 2 ∨ k = 3 by simp at kl; omega) with rfl | rfl | rfl | rfl
      · have B0 : Bk w1 p ([.int .i64 q0.1, .int .i64 q0.2, .int .i64 q1.1, .int .i64 q1.2, .int .i64 q2.1, .int .i64 q2.2, .int .i64 q3.1, .int .i64 q3.2, .int .i64 4, .bool fl, .int .i64 hi, .int .i64 mi] : List Value).toArray 57 := BK.out
        have ON := Lib.hid (ones_row (t := ⟨[q0, q1, q2, q3], fl, hi, mi⟩))
        have c8 : w1.cell? ⟨p, 8, none⟩ = some (.int .i64 4) := B0.cell 8 _ rfl
        have wr : IntKind.i64.wrap 1 = 1 := by kernel_rfl
        clear kl l4 K BK
        replace B0 := Lib.hid B0
        go_wp2_with fail
        go_region_law (refine step_move rfl (.tmp 15) (.tmp 25) _ _ rfl _ entryU entryS _ _ _ _ _ _ rfl rfl 3 rfl p 0 2 _ _ B0.out (by intro h0; first | exact ⟨rfl, rfl⟩ | (exact absurd h0 (by decide))) (by simp) (by simp) ON.out ?_; intro w4 hg4 hc4)
        have B4 : Bk w4 p ([.int .i64 q1.1, .int .i64 q1.2, .int .i64 q2.1, .int .i64 q2.2, .int .i64 q3.1, .int .i64 q3.2, .int .i64 q3.1, .int .i64 q3.2, .int .i64 4, .bool fl, .int .i64 hi, .int .i64 mi] : List Value).toArray 57 := hg4.out
        have c8 : w4.cell? ⟨p, 8, none⟩ = some (.int .i64 4) := B4.cell 8 _ rfl
        have ca := B4.cell 6 _ rfl
        have cb := B4.cell 7 _ rfl
        have f8 := B4.frozen 8
        have fa := B4.frozen 6
        have fb := B4.frozen 7
        have TO := Lib.hid (H.out.toB HB.out (t' := ⟨[q1, q2, q3], fl, hi, mi⟩) (((B4.set 8 (.int .i64 3)).set 6 (.int .i64 0)).set 7 (.int .i64 0)).drewn
          (((hc4.out.predrew.also 8 (.int .i64 3)).also 6 (.int .i64 0)).also 7 (.int .i64 0)).drewn (.bool true))
        clear B4 hg4 hc4 B0 ON
        go_wp2_with fail
        go_region
        go_wp2_with fail
        go_ret
        rw [LE.out]; exact TO.out
      · have B0 : Bk w1 p ([.int .i64 q0.1, .int .i64 q0.2, .int .i64 q1.1, .int .i64 q1.2, .int .i64 q2.1, .int .i64 q2.2, .int .i64 q3.1, .int .i64 q3.2, .int .i64 4, .bool fl, .int .i64 hi, .int .i64 mi] : List Value).toArray 57 := BK.out
        have ON := Lib.hid (ones_row (t := ⟨[q0, q1, q2, q3], fl, hi, mi⟩))
        have c8 : w1.cell? ⟨p, 8, none⟩ = some (.int .i64 4) := B0.cell 8 _ rfl
        have wr : IntKind.i64.wrap 2 = 2 := by kernel_rfl
        clear kl l4 K BK
        replace B0 := Lib.hid B0
        go_wp2_with fail
        go_region_law (refine step_move rfl (.tmp 15) (.tmp 25) _ _ rfl _ entryU entryS _ _ _ _ _ _ rfl rfl 2 rfl p 2 4 _ _ B0.out (by intro h0; first | exact ⟨rfl, rfl⟩ | (exact absurd h0 (by decide))) (by simp) (by simp) ON.out ?_; intro w4 hg4 hc4)
        have B4 : Bk w4 p ([.int .i64 q0.1, .int .i64 q0.2, .int .i64 q2.1, .int .i64 q2.2, .int .i64 q3.1, .int .i64 q3.2, .int .i64 q3.1, .int .i64 q3.2, .int .i64 4, .bool fl, .int .i64 hi, .int .i64 mi] : List Value).toArray 57 := hg4.out
        have c8 : w4.cell? ⟨p, 8, none⟩ = some (.int .i64 4) := B4.cell 8 _ rfl
        have ca := B4.cell 6 _ rfl
        have cb := B4.cell 7 _ rfl
        have f8 := B4.frozen 8
        have fa := B4.frozen 6
        have fb := B4.frozen 7
        have TO := Lib.hid (H.out.toB HB.out (t' := ⟨[q0, q2, q3], fl, hi, mi⟩) (((B4.set 8 (.int .i64 3)).set 6 (.int .i64 0)).set 7 (.int .i64 0)).drewn
          (((hc4.out.predrew.also 8 (.int .i64 3)).also 6 (.int .i64 0)).also 7 (.int .i64 0)).drewn (.bool true))
        clear B4 hg4 hc4 B0 ON
        go_wp2_with fail
        go_region
        go_wp2_with fail
        go_ret
        rw [LE.out]; exact TO.out
      · have B0 : Bk w1 p ([.int .i64 q0.1, .int .i64 q0.2, .int .i64 q1.1, .int .i64 q1.2, .int .i64 q2.1, .int .i64 q2.2, .int .i64 q3.1, .int .i64 q3.2, .int .i64 4, .bool fl, .int .i64 hi, .int .i64 mi] : List Value).toArray 57 := BK.out
        have ON := Lib.hid (ones_row (t := ⟨[q0, q1, q2, q3], fl, hi, mi⟩))
        have c8 : w1.cell? ⟨p, 8, none⟩ = some (.int .i64 4) := B0.cell 8 _ rfl
        have wr : IntKind.i64.wrap 3 = 3 := by kernel_rfl
        clear kl l4 K BK
        replace B0 := Lib.hid B0
        go_wp2_with fail
        go_region_law (refine step_move rfl (.tmp 15) (.tmp 25) _ _ rfl _ entryU entryS _ _ _ _ _ _ rfl rfl 1 rfl p 4 6 _ _ B0.out (by intro h0; first | exact ⟨rfl, rfl⟩ | (exact absurd h0 (by decide))) (by simp) (by simp) ON.out ?_; intro w4 hg4 hc4)
        have B4 : Bk w4 p ([.int .i64 q0.1, .int .i64 q0.2, .int .i64 q1.1, .int .i64 q1.2, .int .i64 q3.1, .int .i64 q3.2, .int .i64 q3.1, .int .i64 q3.2, .int .i64 4, .bool fl, .int .i64 hi, .int .i64 mi] : List Value).toArray 57 := hg4.out
        have c8 : w4.cell? ⟨p, 8, none⟩ = some (.int .i64 4) := B4.cell 8 _ rfl
        have ca := B4.cell 6 _ rfl
        have cb := B4.cell 7 _ rfl
        have f8 := B4.frozen 8
        have fa := B4.frozen 6
        have fb := B4.frozen 7
        have TO := Lib.hid (H.out.toB HB.out (t' := ⟨[q0, q1, q3], fl, hi, mi⟩) (((B4.set 8 (.int .i64 3)).set 6 (.int .i64 0)).set 7 (.int .i64 0)).drewn
          (((hc4.out.predrew.also 8 (.int .i64 3)).also 6 (.int .i64 0)).also 7 (.int .i64 0)).drewn (.bool true))
        clear B4 hg4 hc4 B0 ON
        go_wp2_with fail
        go_region
        go_wp2_with fail
        go_ret
        rw [LE.out]; exact TO.out
      · have B0 : Bk w1 p ([.int .i64 q0.1, .int .i64 q0.2, .int .i64 q1.1, .int .i64 q1.2, .int .i64 q2.1, .int .i64 q2.2, .int .i64 q3.1, .int .i64 q3.2, .int .i64 4, .bool fl, .int .i64 hi, .int .i64 mi] : List Value).toArray 57 := BK.out
        have ON := Lib.hid (ones_row (t := ⟨[q0, q1, q2, q3], fl, hi, mi⟩))
        have c8 : w1.cell? ⟨p, 8, none⟩ = some (.int .i64 4) := B0.cell 8 _ rfl
        have wr : IntKind.i64.wrap 4 = 4 := by kernel_rfl
        clear kl l4 K BK
        replace B0 := Lib.hid B0
        go_wp2_with fail
        go_region_law (refine step_move rfl (.tmp 15) (.tmp 25) _ _ rfl _ entryU entryS _ _ _ _ _ _ rfl rfl 0 rfl p 6 8 _ _ B0.out (by intro h0; first | exact ⟨rfl, rfl⟩ | (exact absurd h0 (by decide))) (by simp) (by simp) ON.out ?_; intro w4 hg4 hc4)
        have B4 : Bk w4 p ([.int .i64 q0.1, .int .i64 q0.2, .int .i64 q1.1, .int .i64 q1.2, .int .i64 q2.1, .int .i64 q2.2, .int .i64 q3.1, .int .i64 q3.2, .int .i64 4, .bool fl, .int .i64 hi, .int .i64 mi] : List Value).toArray 57 := hg4.out
        have c8 : w4.cell? ⟨p, 8, none⟩ = some (.int .i64 4) := B4.cell 8 _ rfl
        have ca := B4.cell 6 _ rfl
        have cb := B4.cell 7 _ rfl
        have f8 := B4.frozen 8
        have fa := B4.frozen 6
        have fb := B4.frozen 7
        have TO := Lib.hid (H.out.toB HB.out (t' := ⟨[q0, q1, q2], fl, hi, mi⟩) (((B4.set 8 (.int .i64 3)).set 6 (.int .i64 0)).set 7 (.int .i64 0)).drewn
          (((hc4.out.predrew.also 8 (.int .i64 3)).also 6 (.int .i64 0)).also 7 (.int .i64 0)).drewn (.bool true))
        clear B4 hg4 hc4 B0 ON
        go_wp2_with fail
        go_region
        go_wp2_with fail
        go_ret
        rw [LE.out]; exact TO.out
  · have LE := Lib.hid (show t.forget s = (false, { t with l := del s t.l }) by unfold Ste.forget; rw [hl]; rfl)
    have DE := Lib.hid (show del s t.l = t.l from List.filter_eq_self.2 fun q hq => by simpa using lk_none.1 hl q hq)
    have TO := Lib.hid (H.out.toB HB.out BK.out (Chg.refl _ _) (.bool false))
    clear hl hb H1 IX
    go_wp2_with fail
    go_ret
    rw [LE.out, DE.out]; exact TO.out
end Go.Proofs.YtpgjmmlgaanelaaDoor.Ch
