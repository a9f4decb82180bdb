/-
  The iterator over the transitions.
-/
import Derived.Test.YtjodmjadpooipaaGreatDoorKu
import Derived.Stop.RegionWithIn
namespace Go.Proofs.YtjodmjadpooipaaGreatDoor.Sh
open Go Go.RowKit Go.Shelf

attribute [local go_sem] Oper.semAt_some

theorem transitions_any (p : Nat) (W : World) : Calls Tryz.prog 44 #[.pointer (some ⟨p, 0, none⟩)] W fun e w' =>
    e = .returned (.func (.func 56) #[] #[.pointer (some ⟨W.heap.size, 0, none⟩)]) ∧ w' = W.alloc (.cells #[.pointer (some ⟨p, 0, none⟩)] 25) := by
  go_enter Tryz.func44, Tryz.ntmps44
  go_wp2
  go_ret
  exact ⟨rfl, rfl⟩
/-- Rows of transitions stay as they are. -/
def KTr (W Y : World) : Prop := W.heap.size ≤ Y.heap.size ∧ ∀ (b : Nat) (cs : Array Value) (fr : Nat × Nat), W.heap[b]? = some (Obj.cells cs 77 fr) → Y.heap[b]? = W.heap[b]?
theorem KTr.trans {A B C : World} (h : KTr A B) (k : KTr B C) : KTr A C := ⟨Nat.le_trans h.1 k.1, fun b cs fr hb => (k.2 b cs fr ((h.2 b cs fr hb).trans hb)).trans (h.2 b cs fr hb)⟩
theorem KTr.refl (W : World) : KTr W W := ⟨Nat.le_refl _, fun _ _ _ _ => rfl⟩
theorem KTr.grown {W Y : World} {row : Option Nat} (hg : W.grownBy Y row) (hr : ∀ r, row = some r → ∀ cs fr, W.heap[r]? ≠ some (Obj.cells cs 77 fr)) : KTr W Y :=
  ⟨hg.size, fun b cs fr hb => hg.block b (Array.getElem?_eq_some_iff.1 hb).1 (fun e => hr b e.symm cs fr hb)⟩
theorem KTr.put {w : World} (W : World) (l : Nat) (o o' : Obj) (_ : w.heap.size ≤ l) (h : W.heap[l]? = some o) (hc : o.isCells = false) (_ : o.isWalk = false) : KTr W (W.putObj l o') :=
  KTr.grown (grownBy_putObj' W l o') (fun r e cs fr hb => by cases e; rw [h] at hb; cases hb; cases hc)
/-- What the iterator reads at each round. -/
def RelT (t : Tre) (p mb Bt : Nat) (L pre : List (Ky × Nat)) (X : World) : Prop :=
  Bk X Bt #[.pointer (some ⟨p, 0, none⟩)] 25 ∧ X.cell? ⟨p, 2, none⟩ = some (.map (some mb)) ∧ p < X.heap.size ∧ ∃ D : DataW Unit, X.ownsMap Tryz.prog 77 (plainElem Tryz.prog 3) mb 65536 D ∧ (pre = [] → Cont D t) ∧
    ∀ x rest, L = pre ++ x :: rest → Maps.has D (kyL x.1) = true ∧ ∀ zd, D.atKey (kyL x.1) zd = .lit (.int .i64 (x.2 : Int))
def encT (x : Ky × Nat) : Array Value := #[keyV x.1.1 x.1.2, .int .i64 (x.2 : Int)]
theorem list_at {α : Type} {L : List α} {k : Nat} (h : k < L.length) : L = L.take k ++ L[k] :: L.drop (k + 1) := by rw [List.getElem_cons_drop, List.take_append_drop]
theorem list_next {α : Type} {L : List α} {k : Nat} (h : k < L.length) : L.take (k + 1) = L.take k ++ [L[k]] := by rw [List.take_succ_eq_append_getElem h]
theorem flatK_row (L : List (Ky × Nat)) {k : Nat} (h : k < L.length) : (flatK (L.map (·.1)))[k * 2]? = some (.int .i64 L[k].1.1) ∧ (flatK (L.map (·.1)))[k * 2 + 1]? = some (.string L[k].1.2) := by
  have e1 : k * 2 / 2 = k := by omega
  have e2 : k * 2 % 2 = 0 := by omega
  have e3 : (k * 2 + 1) / 2 = k := by omega
  have e4 : (k * 2 + 1) % 2 = 1 := by omega
  have hg : (L.map (·.1))[k]! = L[k].1 := by rw [getElem!_pos _ k (by simpa using h)]; simp
  refine ⟨?_, ?_⟩
  · rw [flatK_at _ _ (by simp; omega), e1, e2, hg]; rfl
  · rw [flatK_at _ _ (by simp; omega), e3, e4, hg]; rfl
theorem row_kept {w1 wr : World} {base n : Nat} {v : Value} {xs : List Value} (h : w1.ownsRow base 77 2 v n xs) (hk : KTr w1 wr) : wr.ownsRow base 77 2 v n xs := own_keep h fun b hb => by
  rcases h.2 with ⟨rfl, _⟩ | ⟨g, cap, cur, rfl, _, hg, _⟩
  · simp [Value.ownBlock] at hb
  · simp only [Value.ownBlock, Option.some.injEq] at hb
    subst hb
    exact hk.2 _ _ _ hg
theorem below_grown {W Y : World} (h : Below W.heap.size W Y) : W.grownBy Y none := ⟨h.os, h.tape, h.output, h.size, fun k hk _ => h.block k hk⟩
set_option maxRecDepth 100000 in
set_option maxHeartbeats 4000000 in
theorem transitions1_seq (m : Nat) (hm : 1 ≤ m) (t : Tre) (L : List (Ky × Nat)) (hL : trs t t.L.length = L) (hs : Srt t) (hn : ∀ q ∈ (trs t t.L.length).map (·.1), wfK q) (few : L.length ≤ 65536) (p mb Bt : Nat) (w : World) :
    SeqRel Fence.wide m Tryz.prog 56 #[.pointer (some ⟨Bt, 0, none⟩)] encT (RelT t p mb Bt L) KTr (· <+: L) (· = L) w := by
  intro l J W hW hJ hR hY h0
  obtain ⟨r1, r2, rp, D, rm, rc, _⟩ := hR [] W h0
  have HC := Lib.hid (rc rfl)
  have HS := Lib.hid hs
  have HN := Lib.hid hn
  have HJ := Lib.hid hJ
  have HR := Lib.hid hR
  have HY := Lib.hid hY
  have RM := Lib.hid rm
  have HL := Lib.hid hL
  have bt := r1.cell 0 (.pointer (some ⟨p, 0, none⟩)) rfl
  have SF := Lib.hid (fun (W' : World) (Bm : Nat) (hb : Bm < W'.heap.size) (h0 : W'.cell? ⟨Bm, 0, none⟩ = some (.map (some mb))) (hk : W'.heap[mb]? = W.heap[mb]?) => by
    have h := sortedFunc_any W' Bm mb 65536 D t hb h0 (map_keep rm hk) (Nat.le_refl _) hs (rc rfl) hn
    rw [hL] at h
    exact h)
  clear r1 rc hs hn hJ hR hY rm hL
  refine callsIn_of_wp Tryz.func56 rfl trivial ?_ rfl
  simp only [Tryz.ntmps56, List.size_toArray, List.length_cons, List.length_nil, Nat.reduceAdd, Nat.reduceSub, Array.replicate_succ, Array.replicate_zero, List.push_toArray, List.append_toArray, List.nil_append, List.cons_append]
  have SF1 := Lib.hid (SF.out (W.alloc (.cells #[.map (some mb)] 68)) W.heap.size (by simp) ((Bk.new W #[.map (some mb)] 68).cell 0 _ rfl) (Below.heap_alloc W _ _ RM.out.lt))
  gi_wp2_with (first
    | (refine ⟨trivial, ?_⟩; gi_at_call 58; refine (callsIn_wide.2 (keys_any _ _)).mono ?_; rintro e w' ⟨rfl, rfl⟩)
    | (refine ⟨trivial, ?_⟩; gi_at_call 57; refine (callsIn_wide.2 SF1.out).mono ?_; rintro e w1 ⟨v, rfl, ho, hB⟩; have HO := Lib.hid ho; have HB := Lib.hid hB; obtain ⟨A, cA, rfl⟩ := own_slice ho; clear ho hB)
    | gi_in)
  have HB0 := Lib.hid (show Below W.heap.size W w1 from ((Below.refl _ W).alloc (Nat.le_refl _) _).trans (HB.out.mono (by simp)))
  have J0 := Lib.hid (HJ.out [] W w1 none h0 (below_grown HB0.out) (fun r e => by cases e))
  clear h0 r2 bt SF SF1
  gi_loopw [12] (fun i wr => ∃ k : Nat, k ≤ L.length ∧ i = .int .i64 k ∧ Hid (J (L.take k) wr) ∧ Hid (KTr w1 wr) ∧ Hid (W.heap.size ≤ wr.heap.size)) (fun i _ => L.length - (intOf i).toNat)
  case atStart => exact ⟨0, by omega, rfl, J0, Lib.hid (KTr.refl _), Lib.hid HB0.out.size⟩
  case round =>
    obtain ⟨k, hk, rfl, hJs, hK, hz⟩ := hrel
    by_cases hlt : k < L.length
    · have hlt' : (k : Int) < L.length := by omega
      have HX := Lib.hid (list_at hlt)
      have NX := Lib.hid (list_next hlt)
      obtain ⟨f0, f1⟩ := flatK_row L hlt
      have HO' := row_kept HO.out hK.out
      obtain ⟨g, cap, hA, _⟩ := own_cap HO' (show 0 < L.length by omega)
      injection hA with hA _ hcap
      subst hA hcap
      have s0 := World.ownsRow.cellAt HO' (k * 2) (show k * 2 < L.length * 2 by omega)
      have s1 := World.ownsRow.cellAt HO' (k * 2 + 1) (show k * 2 + 1 < L.length * 2 by omega)
      rw [f0] at s0
      rw [f1] at s1
      obtain ⟨r1, r2, rp, D', rm, _, rl⟩ := HR.out _ wr hJs.out
      have WK := Lib.hid (HN.out L[k].1 (by rw [HL.out]; exact List.mem_map.2 ⟨L[k], List.getElem_mem hlt, rfl⟩))
      have RL := Lib.hid (rl _ _ HX.out)
      have PF := Lib.hid (show L.take k ++ [L[k]] <+: L from ⟨L.drop (k + 1), by rw [List.append_assoc]; exact HX.out.symm⟩)
      have RM' := Lib.hid rm
      clear rl HX HO' f0 f1 rm
      generalize L[k] = x at *
      obtain ⟨⟨f, nm⟩, to⟩ := x
      simp only at s0 s1
      have SW := Lib.hid (show Below wr.heap.size wr (wr.alloc (.cells #[.int .i64 f, .string nm] 77)) from (Below.refl _ wr).alloc (Nat.le_refl _) _)
      have J2 := Lib.hid (HJ.out _ wr (wr.alloc (.cells #[.int .i64 f, .string nm] 77)).drew none hJs.out (below_grown SW.out.drew) (fun r e => by cases e))
      have bx := Bk.new wr #[.int .i64 f, .string nm] 77
      have x0 := bx.cell 0 (.int .i64 f) rfl
      have x1 := bx.cell 1 (.string nm) rfl
      have bt := (r1.alloc (.cells #[.int .i64 f, .string nm] 77)).cell 0 (.pointer (some ⟨p, 0, none⟩)) rfl
      have p2 : (wr.alloc (.cells #[.int .i64 f, .string nm] 77)).cell? ⟨p, 2, none⟩ = some (.map (some mb)) := (SW.out.cell (p := ⟨p, 2, none⟩) rp).trans r2
      obtain ⟨c, hrun, hat, _⟩ := (show (wr.alloc (.cells #[.int .i64 f, .string nm] 77)).drew.ownsMap Tryz.prog 77 (plainElem Tryz.prog 3) mb 65536 D' from map_keep RM'.out (Below.heap_alloc wr _ _ RM'.out.lt)).lookup_int keyed Tryz.underlying68 Tryz.underlying3 (run_zero_int _) (keyOf_mk WK.out.1 WK.out.2)
      have ec : c = to := by
        have h1 := RL.out.2 (.lit (.int .i64 0))
        rw [show D'.atKey (kyL (f, nm)) (.lit (.int .i64 0)) = _ from hat] at h1
        simpa using h1
      subst ec
      unfold keyV at hrun
      have HJ3 := hJs.out
      obtain ⟨fn, tmps, assign, body, hy, hR⟩ := HY.out (L.take k) ((f, nm), to) (wr.alloc (.cells #[.int .i64 f, .string nm] 77)).drew J2.out PF.out
      dsimp only [encT, keyV] at hy
      have KX := Lib.hid (show KTr w1 (wr.alloc (.cells #[.int .i64 f, .string nm] 77)).drew from hK.out.trans (KTr.grown (below_grown SW.out.drew) (fun r e => by cases e)))
      clear hat bx HJ3 r1 r2
      gi_wp2
      gi_region_with (refine hR.mono ?_; rintro e W3 ⟨rfl, hJ3, hk3⟩; have HJ4 := Lib.hid hJ3; have HK4 := Lib.hid hk3; clear hJ3 hk3)
      all_goals
        have HJ5 := Lib.hid (show J (L.take (k + 1)) W3 by rw [NX.out]; exact HJ4.out)
        have HK5 := Lib.hid (KX.out.trans HK4.out)
        have HZ5 := Lib.hid (show W.heap.size ≤ W3.heap.size by have h1 := hz.out; have h2 := SW.out.size; have h3 : (wr.alloc (.cells #[.int .i64 f, .string nm] 77)).heap.size ≤ W3.heap.size := HK4.out.1; omega)
        gi_wp2
        go_roundw
        case rel => exact ⟨k + 1, by omega, by go_num, HJ5, HK5, HZ5⟩
        case measure => simp [intOf]; omega
    · have hge : (L.length : Int) ≤ k := by omega
      have hkl : k = L.length := by omega
      have JJ := Lib.hid (show J L wr by have := hJs.out; rw [hkl, List.take_length] at this; exact this)
      gi_wp2
      go_end0
      exact ⟨⟨_, rfl⟩, L, rfl, JJ.out⟩
end Go.Proofs.YtjodmjadpooipaaGreatDoor.Sh
