/-
  The walk of the reference's Cell.
-/
import Derived.Test.YtkdpcnikgdbmaaaGreatDoorNc
namespace Go.Proofs.YtkdpcnikgdbmaaaGreatDoor.Ac
open Go Go.RowKit

/-- What a round of Cell's loop carries. -/
structure Ci (M : Int) (W : World) (b : Nat) (A : Option Addr) (n c : Nat) (C : Nat) (kd tn : Int) (iv : Value) (m : Nat) (w : World) : Prop where
  st : Sn W b A n c [(C, #[.int .i64 kd, .int .i64 0, .int .i64 0, .int .i64 tn, .slice none 0 0, iv], 46), (W.heap.size, #[.int .i64 0, .int .i64 0, .int .i64 0, .int .i64 0, .slice none 0 0, .slice none 0 0], 46)] w
  own : ∃ xs, VOk M xs m ∧ w.ownsRow W.heap.size 64 3 iv m xs
theorem two_of {C R : Nat} {x y z : Array Value} {T : TypeId} {p : Nat × Array Value × TypeId} (hp : p ∈ [(C, x, T), (R, y, T)]) (hne : R = C → False) : p = (C, x, T) ∨ p ∈ [(C, z, T), (R, y, T)] ∧ p.1 ≠ C := by
  simp only [List.mem_cons, List.not_mem_nil, or_false] at hp
  rcases hp with rfl | rfl
  · exact .inl rfl
  · exact .inr ⟨.tail _ (.head _), hne⟩
theorem ci_next {M : Int} {W w : World} {b n c C : Nat} {A : Option Addr} {kd tn k x : Int} {s : ByteArray} {old v : Value} {j : Nat} {xs : List Value} (hS : Sn W b A n c [(C, #[.int .i64 kd, .int .i64 0, .int .i64 0, .int .i64 tn, .slice none 0 0, old], 46), (W.heap.size, #[.int .i64 0, .int .i64 0, .int .i64 0, .int .i64 0, .slice none 0 0, .slice none 0 0], 46)] w) (hC : W.heap.size < C)
    (ho : w.ownsRow W.heap.size 64 3 v (j + 1) (xs ++ [.int .i64 k, .int .i64 x, .string s])) (hv : VOk M xs j) (hk : Gv (Lo M) k x s) : Ci M W b A n c C kd tn v (j + 1) (w.setCell ⟨C, 5, none⟩ v) := by
  refine ⟨hS.set C _ 46 (.head _) 5 v (fun p hp => ?_), _, hv.add k x s hk, ?_⟩
  · rcases List.mem_cons.1 hp with rfl | hp
    · exact .inl rfl
    · obtain rfl : p = (W.heap.size, #[.int .i64 0, .int .i64 0, .int .i64 0, .int .i64 0, .slice none 0 0, .slice none 0 0], 46) := by simpa using hp
      exact .inr ⟨.tail _ (.head _), fun e => by have : W.heap.size = C := e; omega⟩
  · exact ho.kept (row := some C) ⟨rfl, rfl, rfl, by simp [World.setCell], fun i _ hne => Below.heap_setCell w _ v i (fun e => hne (by rw [e]))⟩ (.inr (fun h => own_ne ho (hS.own _ (.head _)).1 (show (64 : TypeId) ≠ 46 by decide) h.symm))
set_option maxRecDepth 10000 in
set_option maxHeartbeats 8000000 in
theorem cell_any (m : Int) (b : Nat) (A : Option Addr) (zs : List Int) (c B : Nat) (w : World) (hA : Sl w B A zs) (hB : B ≤ b) (hz : ∀ z ∈ zs, I64 z) (hl : zs.length ≤ 17592186044404) (h : Nm w b A zs.length c) (hm : 1 ≤ m) (hm' : m ≤ 9223372036854775807) :
    Calls Tryz.prog 41 #[.pointer (some ⟨b, 0, none⟩), .int .i64 m] w (CellTo m b A zs.length c w) := by
  obtain ⟨i0, hi0, hz0, hz1, hz2⟩ := info_parts infoV
  have hbw := h.lt
  have HA := Lib.hid hA
  have HZ := Lib.hid hz
  have S0 := Lib.hid ((Sn.init h).alloc #[.int .i64 0, .int .i64 0, .int .i64 0, .int .i64 0, .slice none 0 0, .slice none 0 0] 46)
  clear hA hz h
  go_enter Tryz.func41, Tryz.ntmps41
  go_wp2_with fail
  refine (next_st S0.out HA.out hB (by omega) HZ.out hl 4 (by omega) (by omega)).mono ?_
  rintro e w1 ⟨r, rfl, hr, S1⟩
  obtain ⟨hr0, hr1⟩ := hr.out
  clear hr
  go_wp2_with fail
  refine (next_st S1.out HA.out hB (by omega) HZ.out hl 2 (by omega) (by omega)).mono ?_
  rintro e w2 ⟨tn, rfl, htn, S2⟩
  obtain ⟨htn0, htn1⟩ := htn.out
  clear htn
  have S3 := Lib.hid (S2.out.alloc #[.int .i64 (1 + r), .int .i64 0, .int .i64 0, .int .i64 tn, .slice none 0 0, .slice none 0 0] 46)
  have hC : w.heap.size < w2.heap.size := by have := ((S2.out.own _ (.head _)).1).lt; exact this
  clear S0 S1 S2
  go_wp2_with fail
  generalize w2.alloc (.cells #[.int .i64 (1 + r), .int .i64 0, .int .i64 0, .int .i64 tn, .slice none 0 0, .slice none 0 0] 46) = w3 at *
  generalize w2.heap.size = C at *
  go_wp2_with fail
  refine (next_st S3.out HA.out hB (by omega) HZ.out hl 2 (by omega) (by omega)).mono ?_
  rintro e w4 ⟨q, rfl, hq, S4⟩
  obtain ⟨hq0, hq1⟩ := hq.out
  clear hq
  clear S3
  rcases (show q = 0 ∨ q = 1 by omega) with rfl | rfl
  · have k0 := S4.out.cell _ _ _ (.head _) 0 _ rfl
    have k1 := S4.out.cell _ _ _ (.head _) 1 _ rfl
    have k2 := S4.out.cell _ _ _ (.head _) 2 _ rfl
    have k3 := S4.out.cell _ _ _ (.head _) 3 _ rfl
    have k4 := S4.out.cell _ _ _ (.head _) 4 _ rfl
    have k5 := S4.out.cell _ _ _ (.head _) 5 _ rfl
    have f0 := S4.out.frozen _ _ _ (.head _) 0
    have f1 := S4.out.frozen _ _ _ (.head _) 1
    have f2 := S4.out.frozen _ _ _ (.head _) 2
    have f4 := S4.out.frozen _ _ _ (.head _) 4
    have f5 := S4.out.frozen _ _ _ (.head _) 5
    have S4b := Lib.hid (S4.out.set C _ 46 (.head _) 0 (.int .i64 1) (L' := [(C, #[.int .i64 1, .int .i64 0, .int .i64 0, .int .i64 tn, .slice none 0 0, .slice none 0 0], 46), (w.heap.size, #[.int .i64 0, .int .i64 0, .int .i64 0, .int .i64 0, .slice none 0 0, .slice none 0 0], 46)]) (fun p hp => two_of hp (fun e => by omega)))
    go_wp2_with fail
    refine (next_st S4b.out HA.out hB (by omega) HZ.out hl 4 (by omega) (by omega)).mono ?_
    rintro e w5 ⟨n, rfl, hn, S5⟩
    obtain ⟨hn0, hn1⟩ := hn.out
    clear hn
    clear k0 k1 k2 k3 k4 k5 f0 f1 f2 f4 f5
    clear S4 S4b
    have k0 := S5.out.cell _ _ _ (.head _) 0 _ rfl
    have k1 := S5.out.cell _ _ _ (.head _) 1 _ rfl
    have k2 := S5.out.cell _ _ _ (.head _) 2 _ rfl
    have k3 := S5.out.cell _ _ _ (.head _) 3 _ rfl
    have k4 := S5.out.cell _ _ _ (.head _) 4 _ rfl
    have k5 := S5.out.cell _ _ _ (.head _) 5 _ rfl
    have f0 := S5.out.frozen _ _ _ (.head _) 0
    have f1 := S5.out.frozen _ _ _ (.head _) 1
    have f2 := S5.out.frozen _ _ _ (.head _) 2
    have f4 := S5.out.frozen _ _ _ (.head _) 4
    have f5 := S5.out.frozen _ _ _ (.head _) 5
    go_wp2_with fail
    clear k0 k1 k2 k3 k4 k5 f0 f1 f2 f4 f5
    have L0 := Lib.hid (Ci.mk (M := m) S5.out ⟨[], VOk.nil m, World.ownsRow_nil _ _ _ _⟩)
    go_wp2_with fail
    go_loopw [7] (fun i wr => ∃ j : Nat, (j : Int) ≤ n ∧ i = .int .i64 j ∧ ∃ iA ic, Hid (Ci m w b A zs.length c C 1 tn (.slice iA j ic) j wr)) (fun i _ => 3 - (intOf i).toNat)
    case atStart => exact ⟨0, by omega, rfl, none, 0, L0⟩
    case round =>
      clear L0 S5
      obtain ⟨j, hj, rfl, iA, ic, hL⟩ := hrel
      by_cases hlt : (j : Int) < n
      · obtain ⟨xs, hv, ho⟩ := hL.out.own
        have HV := Lib.hid hv
        have HO := Lib.hid ho
        have ST := Lib.hid hL.out.st
        clear hv ho hL
        have k5 := ST.out.cell _ _ _ (.head _) 5 _ rfl
        have f5 := ST.out.frozen _ _ _ (.head _) 5
        go_wp2_with fail
        replace ST := Lib.hid ST.out.drew
        replace HO := Lib.hid HO.out.drew
        go_region_law (first
          | (go_simp; go_at_call 64; refine (value_st ST.out HA.out hB (by omega) HZ.out hl m hm hm' HO.out (by decide)).mono ?_; rintro e w6 ⟨k, x, s, rfl, hk, ST6, HO6, hw6⟩; have k5 := ST6.out.cell _ _ _ (.head _) 5 _ rfl; have hw6' := ST6.out.gr.size; have k5b := (ST6.out.alloc #[.int .i64 k, .int .i64 x, .string s] 64).cell C _ _ (.tail _ (.head _)) 5 _ rfl)
          | (refine step_append_lies _ (by rfl) _ _ _ (by rfl) w.heap.size 64 i0 _ 3 32 Tryz.underlying44 hi0 hz0 hz1 hz2 rfl (by omega) (.slice iA j ic) j xs (by rfl) (World.ownsRow.alloc HO6.out _) ⟨w6.heap.size, 0, none⟩ 1 1 [.int .i64 k, .int .i64 x, .string s] (by rfl) (by rfl) (World.news_of_block (cs := #[.int .i64 k, .int .i64 x, .string s]) (t := 64) (fr := (0, 0)) (heap_alloc_new w6 _)) (by simp [Value.oneCell']) (by omega) (by unfold maxLen; omega) (by omega) (by simp; omega) (w6.heap.size + 1) (by simp) ?_; intro g cap w8 hown hgrow _ _; have S8 := Lib.hid (Sn.append ((ST6.out.alloc #[.int .i64 k, .int .i64 x, .string s] 64).drop (L' := [(C, #[.int .i64 1, .int .i64 0, .int .i64 0, .int .i64 tn, .slice none 0 0, .slice iA j ic], 46), (w.heap.size, #[.int .i64 0, .int .i64 0, .int .i64 0, .int .i64 0, .slice none 0 0, .slice none 0 0], 46)]) (fun p hp => .tail _ hp)) (World.ownsRow.alloc HO6.out _) hgrow (by intro p hp; simp at hp; rcases hp with rfl | rfl <;> exact (show (64 : TypeId) ≠ 46 by decide)) (by decide)); have k5 := S8.out.cell _ _ _ (.head _) 5 _ rfl; have f5 := S8.out.frozen _ _ _ (.head _) 5; have HO8 := Lib.hid hown; have HG8 := Lib.hid hgrow; clear hown hgrow))
        all_goals
          have HN := Lib.hid (ci_next S8.out hC HO8.out HV.out hk.out)
          clear k5 f5 k5b
          go_wp2_with fail
          go_roundw
          case rel => exact ⟨j + 1, by omega, by go_num, _, _, HN⟩
          case measure => simp [intOf]; omega
      · have hge : n ≤ (j : Int) := by omega
        obtain ⟨xs, hv, ho⟩ := hL.out.own
        have HV := Lib.hid hv
        have HO := Lib.hid ho
        have ST := Lib.hid hL.out.st
        clear hv ho hL
        have hjn : (j : Int) = n := by omega
        have hj3 : j ≤ 3 := by omega
        obtain rfl : n = (j : Int) := hjn.symm
        clear hjn
        have k0 := ST.out.cell _ _ _ (.head _) 0 _ rfl
        have k1 := ST.out.cell _ _ _ (.head _) 1 _ rfl
        have k2 := ST.out.cell _ _ _ (.head _) 2 _ rfl
        have k3 := ST.out.cell _ _ _ (.head _) 3 _ rfl
        have k4 := ST.out.cell _ _ _ (.head _) 4 _ rfl
        have k5 := ST.out.cell _ _ _ (.head _) 5 _ rfl
        have f0 := ST.out.frozen _ _ _ (.head _) 0
        have f1 := ST.out.frozen _ _ _ (.head _) 1
        have f2 := ST.out.frozen _ _ _ (.head _) 2
        have f4 := ST.out.frozen _ _ _ (.head _) 4
        have f5 := ST.out.frozen _ _ _ (.head _) 5
        go_wp2_with fail
        refine (next_keep ST.out HA.out hB (by omega) HZ.out hl 3 (by omega) (by omega) HO.out (by decide)).mono ?_
        rintro e w9 ⟨cl, rfl, hcl, S9, HO9⟩
        clear k0 k1 k2 k3 k4 k5 f0 f1 f2 f4 f5
        clear ST HO
        have k0 := S9.out.cell _ _ _ (.head _) 0 _ rfl
        have k1 := S9.out.cell _ _ _ (.head _) 1 _ rfl
        have k2 := S9.out.cell _ _ _ (.head _) 2 _ rfl
        have k3 := S9.out.cell _ _ _ (.head _) 3 _ rfl
        have k4 := S9.out.cell _ _ _ (.head _) 4 _ rfl
        have k5 := S9.out.cell _ _ _ (.head _) 5 _ rfl
        have f0 := S9.out.frozen _ _ _ (.head _) 0
        have f1 := S9.out.frozen _ _ _ (.head _) 1
        have f2 := S9.out.frozen _ _ _ (.head _) 2
        have f4 := S9.out.frozen _ _ _ (.head _) 4
        have f5 := S9.out.frozen _ _ _ (.head _) 5
        have SF := Lib.hid (S9.out.set C _ 46 (.head _) 1 (.int .i64 cl) (L' := [(C, #[.int .i64 1, .int .i64 cl, .int .i64 0, .int .i64 tn, (.slice none 0 0), .slice iA j ic], 46), (w.heap.size, #[.int .i64 0, .int .i64 0, .int .i64 0, .int .i64 0, .slice none 0 0, .slice none 0 0], 46)]) (fun p hp => two_of hp (fun e => by omega)))
        have HF := Lib.hid (own_store HO9.out (S9.out.own _ (.head _)).1 (show (64 : TypeId) ≠ 46 by decide) 1 (.int .i64 cl))
        go_wp2_with fail
        clear k0 k1 k2 k3 k4 k5 f0 f1 f2 f4 f5
        generalize w9.setCell ⟨C, 1, none⟩ (.int .i64 cl) = wf at *
        have k4 := SF.out.cell _ _ _ (.head _) 4 _ rfl
        have f4 := SF.out.frozen _ _ _ (.head _) 4
        have SA := Lib.hid (SF.out.alloc #[.string ⟨#[120]⟩, .string ⟨#[121]⟩, .string ⟨#[110, 101, 120, 116]⟩] 9).drew
        have HA' := Lib.hid (World.ownsRow.alloc HF.out (.cells #[.string ⟨#[120]⟩, .string ⟨#[121]⟩, .string ⟨#[110, 101, 120, 116]⟩] 9)).drew
        have k4b := SA.out.cell C _ _ (.tail _ (.head _)) 4 _ rfl
        have hszf : w.heap.size ≤ wf.heap.size := SF.out.gr.size
        obtain ⟨i1, hi1, hy0, hy1, hy2⟩ := info_parts infoS
        have hj0 : (0 : Int) ≤ (j : Int) := by omega
        have hj3' : (j : Int) ≤ 3 := by omega
        rcases (show j = 0 ∨ j = 1 ∨ j = 2 ∨ j = 3 by omega) with rfl | rfl | rfl | rfl
        · go_region_law (refine step_append_own (by rfl) _ _ _ (by rfl) w.heap.size 9 i1 _ 1 16 Tryz.underlying43 hi1 hy0 hy1 hy2 rfl (by omega) (.slice none 0 0) 0 [] (by rfl) (World.ownsRow_nil _ _ _ _) ⟨wf.heap.size, 0, none⟩ 0 3 ((#[.string ⟨#[120]⟩, .string ⟨#[121]⟩, .string ⟨#[110, 101, 120, 116]⟩] : Array Value).toList.take 0) (by rfl) (by rfl) (news_take_drew wf #[.string ⟨#[120]⟩, .string ⟨#[121]⟩, .string ⟨#[110, 101, 120, 116]⟩] 9 0) (by simp [Value.oneCell']) (by unfold maxLen; omega) (by omega) (by simp; omega) ?_; intro A' c' w8 hown hgrow; have S8 := Lib.hid ((SA.out.grown hgrow (fun g h => by cases h) (fun p _ h => by cases h) (fun h => by cases h)).drop (L' := [(C, #[.int .i64 1, .int .i64 cl, .int .i64 0, .int .i64 tn, (.slice none 0 0), .slice iA 0 ic], 46), (w.heap.size, #[.int .i64 0, .int .i64 0, .int .i64 0, .int .i64 0, .slice none 0 0, .slice none 0 0], 46)]) (fun p hp => .tail _ hp)); have HO8 := Lib.hid (kept_none HA'.out hgrow); have f4 := S8.out.frozen _ _ _ (.head _) 4; have k4 := S8.out.cell _ _ _ (.head _) 4 _ rfl; have HNo := Lib.hid hown; clear hown hgrow)
          all_goals
            have SN := Lib.hid (S8.out.set C _ 46 (.head _) 4 (.slice A' 0 c') (L' := [(C, #[.int .i64 1, .int .i64 cl, .int .i64 0, .int .i64 tn, (.slice A' 0 c'), .slice iA 0 ic], 46), (w.heap.size, #[.int .i64 0, .int .i64 0, .int .i64 0, .int .i64 0, .slice none 0 0, .slice none 0 0], 46)]) (fun p hp => two_of hp (fun e => by omega)))
            have HN8 := Lib.hid (own_store HO8.out (S8.out.own _ (.head _)).1 (show (64 : TypeId) ≠ 46 by decide) 4 (.slice A' 0 c'))
            have HNn := Lib.hid (own_store HNo.out (S8.out.own _ (.head _)).1 (show (9 : TypeId) ≠ 46 by decide) 4 (.slice A' 0 c'))
            clear k4 f4 k4b
            have k0 := S8.out.cell _ _ _ (.head _) 0 _ rfl
            have k1 := S8.out.cell _ _ _ (.head _) 1 _ rfl
            have k2 := S8.out.cell _ _ _ (.head _) 2 _ rfl
            have k3 := S8.out.cell _ _ _ (.head _) 3 _ rfl
            have k4 := S8.out.cell _ _ _ (.head _) 4 _ rfl
            have k5 := S8.out.cell _ _ _ (.head _) 5 _ rfl
            have f0 := S8.out.frozen _ _ _ (.head _) 0
            have f1 := S8.out.frozen _ _ _ (.head _) 1
            have f2 := S8.out.frozen _ _ _ (.head _) 2
            have f4 := S8.out.frozen _ _ _ (.head _) 4
            have f5 := S8.out.frozen _ _ _ (.head _) 5
            have r0 := S8.out.cell w.heap.size _ _ (.tail _ (.head _)) 0 _ rfl
            have g0 := S8.out.frozen w.heap.size _ _ (.tail _ (.head _)) 0
            have r1 := S8.out.cell w.heap.size _ _ (.tail _ (.head _)) 1 _ rfl
            have g1 := S8.out.frozen w.heap.size _ _ (.tail _ (.head _)) 1
            have r2 := S8.out.cell w.heap.size _ _ (.tail _ (.head _)) 2 _ rfl
            have g2 := S8.out.frozen w.heap.size _ _ (.tail _ (.head _)) 2
            have r3 := S8.out.cell w.heap.size _ _ (.tail _ (.head _)) 3 _ rfl
            have g3 := S8.out.frozen w.heap.size _ _ (.tail _ (.head _)) 3
            have r4 := S8.out.cell w.heap.size _ _ (.tail _ (.head _)) 4 _ rfl
            have g4 := S8.out.frozen w.heap.size _ _ (.tail _ (.head _)) 4
            have r5 := S8.out.cell w.heap.size _ _ (.tail _ (.head _)) 5 _ rfl
            have g5 := S8.out.frozen w.heap.size _ _ (.tail _ (.head _)) 5
            go_wp2_with fail
            have E := Lib.hid (SN.out.set6 w.heap.size _ _ _ _ _ _ 46 (.tail _ (.head _)) (.int .i64 1) (.int .i64 cl) (.int .i64 0) (.int .i64 tn) (.slice A' 0 c') (.slice iA 0 ic) HN8.out (show (64 : TypeId) ≠ 46 by decide))
            have E2 := Lib.hid (SN.out.set6 w.heap.size _ _ _ _ _ _ 46 (.tail _ (.head _)) (.int .i64 1) (.int .i64 cl) (.int .i64 0) (.int .i64 tn) (.slice A' 0 c') (.slice iA 0 ic) HNn.out (show (9 : TypeId) ≠ 46 by decide))
            generalize (((((((w8.setCell ⟨C, 4, none⟩ (.slice A' 0 c')).setCell ⟨w.heap.size, 0, none⟩ (.int .i64 1)).setCell ⟨w.heap.size, 1, none⟩ (.int .i64 cl)).setCell ⟨w.heap.size, 2, none⟩ (.int .i64 0)).setCell ⟨w.heap.size, 3, none⟩ (.int .i64 tn)).setCell ⟨w.heap.size, 4, none⟩ (.slice A' 0 c')).setCell ⟨w.heap.size, 5, none⟩ (.slice iA 0 ic)) = wz at *
            have e0 := E.out.1.cell _ _ _ (.head _) 0 _ rfl
            have e1 := E.out.1.cell _ _ _ (.head _) 1 _ rfl
            have e2 := E.out.1.cell _ _ _ (.head _) 2 _ rfl
            have e3 := E.out.1.cell _ _ _ (.head _) 3 _ rfl
            have e4 := E.out.1.cell _ _ _ (.head _) 4 _ rfl
            have e5 := E.out.1.cell _ _ _ (.head _) 5 _ rfl
            exact bodyPost_ret (v := .agg #[.int .i64 1, .int .i64 cl, .int .i64 0, .int .i64 tn, .slice A' 0 c', .slice iA 0 ic]) (by simp [results, Tryz.results41, go_sem, e0, e1, e2, e3, e4, e5]) rfl ⟨1, cl, 0, tn, A', 0, c', iA, 0, ic, rfl, Lib.hid (of_obj HV.out E.out.2 E2.out.2 (by omega) hcl.out ⟨htn0, htn1⟩), Lib.hid ⟨E.out.1.nm, E.out.1.gr⟩⟩
        · go_region_law (refine step_append_own (by rfl) _ _ _ (by rfl) w.heap.size 9 i1 _ 1 16 Tryz.underlying43 hi1 hy0 hy1 hy2 rfl (by omega) (.slice none 0 0) 0 [] (by rfl) (World.ownsRow_nil _ _ _ _) ⟨wf.heap.size, 0, none⟩ 1 3 ((#[.string ⟨#[120]⟩, .string ⟨#[121]⟩, .string ⟨#[110, 101, 120, 116]⟩] : Array Value).toList.take 1) (by rfl) (by rfl) (news_take_drew wf #[.string ⟨#[120]⟩, .string ⟨#[121]⟩, .string ⟨#[110, 101, 120, 116]⟩] 9 1) (by simp [Value.oneCell']) (by unfold maxLen; omega) (by omega) (by simp; omega) ?_; intro A' c' w8 hown hgrow; have S8 := Lib.hid ((SA.out.grown hgrow (fun g h => by cases h) (fun p _ h => by cases h) (fun h => by cases h)).drop (L' := [(C, #[.int .i64 1, .int .i64 cl, .int .i64 0, .int .i64 tn, (.slice none 0 0), .slice iA 1 ic], 46), (w.heap.size, #[.int .i64 0, .int .i64 0, .int .i64 0, .int .i64 0, .slice none 0 0, .slice none 0 0], 46)]) (fun p hp => .tail _ hp)); have HO8 := Lib.hid (kept_none HA'.out hgrow); have f4 := S8.out.frozen _ _ _ (.head _) 4; have k4 := S8.out.cell _ _ _ (.head _) 4 _ rfl; have HNo := Lib.hid hown; clear hown hgrow)
          all_goals
            have SN := Lib.hid (S8.out.set C _ 46 (.head _) 4 (.slice A' 1 c') (L' := [(C, #[.int .i64 1, .int .i64 cl, .int .i64 0, .int .i64 tn, (.slice A' 1 c'), .slice iA 1 ic], 46), (w.heap.size, #[.int .i64 0, .int .i64 0, .int .i64 0, .int .i64 0, .slice none 0 0, .slice none 0 0], 46)]) (fun p hp => two_of hp (fun e => by omega)))
            have HN8 := Lib.hid (own_store HO8.out (S8.out.own _ (.head _)).1 (show (64 : TypeId) ≠ 46 by decide) 4 (.slice A' 1 c'))
            have HNn := Lib.hid (own_store HNo.out (S8.out.own _ (.head _)).1 (show (9 : TypeId) ≠ 46 by decide) 4 (.slice A' 1 c'))
            clear k4 f4 k4b
            have k0 := S8.out.cell _ _ _ (.head _) 0 _ rfl
            have k1 := S8.out.cell _ _ _ (.head _) 1 _ rfl
            have k2 := S8.out.cell _ _ _ (.head _) 2 _ rfl
            have k3 := S8.out.cell _ _ _ (.head _) 3 _ rfl
            have k4 := S8.out.cell _ _ _ (.head _) 4 _ rfl
            have k5 := S8.out.cell _ _ _ (.head _) 5 _ rfl
            have f0 := S8.out.frozen _ _ _ (.head _) 0
            have f1 := S8.out.frozen _ _ _ (.head _) 1
            have f2 := S8.out.frozen _ _ _ (.head _) 2
            have f4 := S8.out.frozen _ _ _ (.head _) 4
            have f5 := S8.out.frozen _ _ _ (.head _) 5
            have r0 := S8.out.cell w.heap.size _ _ (.tail _ (.head _)) 0 _ rfl
            have g0 := S8.out.frozen w.heap.size _ _ (.tail _ (.head _)) 0
            have r1 := S8.out.cell w.heap.size _ _ (.tail _ (.head _)) 1 _ rfl
            have g1 := S8.out.frozen w.heap.size _ _ (.tail _ (.head _)) 1
            have r2 := S8.out.cell w.heap.size _ _ (.tail _ (.head _)) 2 _ rfl
            have g2 := S8.out.frozen w.heap.size _ _ (.tail _ (.head _)) 2
            have r3 := S8.out.cell w.heap.size _ _ (.tail _ (.head _)) 3 _ rfl
            have g3 := S8.out.frozen w.heap.size _ _ (.tail _ (.head _)) 3
            have r4 := S8.out.cell w.heap.size _ _ (.tail _ (.head _)) 4 _ rfl
            have g4 := S8.out.frozen w.heap.size _ _ (.tail _ (.head _)) 4
            have r5 := S8.out.cell w.heap.size _ _ (.tail _ (.head _)) 5 _ rfl
            have g5 := S8.out.frozen w.heap.size _ _ (.tail _ (.head _)) 5
            go_wp2_with fail
            have E := Lib.hid (SN.out.set6 w.heap.size _ _ _ _ _ _ 46 (.tail _ (.head _)) (.int .i64 1) (.int .i64 cl) (.int .i64 0) (.int .i64 tn) (.slice A' 1 c') (.slice iA 1 ic) HN8.out (show (64 : TypeId) ≠ 46 by decide))
            have E2 := Lib.hid (SN.out.set6 w.heap.size _ _ _ _ _ _ 46 (.tail _ (.head _)) (.int .i64 1) (.int .i64 cl) (.int .i64 0) (.int .i64 tn) (.slice A' 1 c') (.slice iA 1 ic) HNn.out (show (9 : TypeId) ≠ 46 by decide))
            generalize (((((((w8.setCell ⟨C, 4, none⟩ (.slice A' 1 c')).setCell ⟨w.heap.size, 0, none⟩ (.int .i64 1)).setCell ⟨w.heap.size, 1, none⟩ (.int .i64 cl)).setCell ⟨w.heap.size, 2, none⟩ (.int .i64 0)).setCell ⟨w.heap.size, 3, none⟩ (.int .i64 tn)).setCell ⟨w.heap.size, 4, none⟩ (.slice A' 1 c')).setCell ⟨w.heap.size, 5, none⟩ (.slice iA 1 ic)) = wz at *
            have e0 := E.out.1.cell _ _ _ (.head _) 0 _ rfl
            have e1 := E.out.1.cell _ _ _ (.head _) 1 _ rfl
            have e2 := E.out.1.cell _ _ _ (.head _) 2 _ rfl
            have e3 := E.out.1.cell _ _ _ (.head _) 3 _ rfl
            have e4 := E.out.1.cell _ _ _ (.head _) 4 _ rfl
            have e5 := E.out.1.cell _ _ _ (.head _) 5 _ rfl
            exact bodyPost_ret (v := .agg #[.int .i64 1, .int .i64 cl, .int .i64 0, .int .i64 tn, .slice A' 1 c', .slice iA 1 ic]) (by simp [results, Tryz.results41, go_sem, e0, e1, e2, e3, e4, e5]) rfl ⟨1, cl, 0, tn, A', 1, c', iA, 1, ic, rfl, Lib.hid (of_obj HV.out E.out.2 E2.out.2 (by omega) hcl.out ⟨htn0, htn1⟩), Lib.hid ⟨E.out.1.nm, E.out.1.gr⟩⟩
        · go_region_law (refine step_append_own (by rfl) _ _ _ (by rfl) w.heap.size 9 i1 _ 1 16 Tryz.underlying43 hi1 hy0 hy1 hy2 rfl (by omega) (.slice none 0 0) 0 [] (by rfl) (World.ownsRow_nil _ _ _ _) ⟨wf.heap.size, 0, none⟩ 2 3 ((#[.string ⟨#[120]⟩, .string ⟨#[121]⟩, .string ⟨#[110, 101, 120, 116]⟩] : Array Value).toList.take 2) (by rfl) (by rfl) (news_take_drew wf #[.string ⟨#[120]⟩, .string ⟨#[121]⟩, .string ⟨#[110, 101, 120, 116]⟩] 9 2) (by simp [Value.oneCell']) (by unfold maxLen; omega) (by omega) (by simp; omega) ?_; intro A' c' w8 hown hgrow; have S8 := Lib.hid ((SA.out.grown hgrow (fun g h => by cases h) (fun p _ h => by cases h) (fun h => by cases h)).drop (L' := [(C, #[.int .i64 1, .int .i64 cl, .int .i64 0, .int .i64 tn, (.slice none 0 0), .slice iA 2 ic], 46), (w.heap.size, #[.int .i64 0, .int .i64 0, .int .i64 0, .int .i64 0, .slice none 0 0, .slice none 0 0], 46)]) (fun p hp => .tail _ hp)); have HO8 := Lib.hid (kept_none HA'.out hgrow); have f4 := S8.out.frozen _ _ _ (.head _) 4; have k4 := S8.out.cell _ _ _ (.head _) 4 _ rfl; have HNo := Lib.hid hown; clear hown hgrow)
          all_goals
            have SN := Lib.hid (S8.out.set C _ 46 (.head _) 4 (.slice A' 2 c') (L' := [(C, #[.int .i64 1, .int .i64 cl, .int .i64 0, .int .i64 tn, (.slice A' 2 c'), .slice iA 2 ic], 46), (w.heap.size, #[.int .i64 0, .int .i64 0, .int .i64 0, .int .i64 0, .slice none 0 0, .slice none 0 0], 46)]) (fun p hp => two_of hp (fun e => by omega)))
            have HN8 := Lib.hid (own_store HO8.out (S8.out.own _ (.head _)).1 (show (64 : TypeId) ≠ 46 by decide) 4 (.slice A' 2 c'))
            have HNn := Lib.hid (own_store HNo.out (S8.out.own _ (.head _)).1 (show (9 : TypeId) ≠ 46 by decide) 4 (.slice A' 2 c'))
            clear k4 f4 k4b
            have k0 := S8.out.cell _ _ _ (.head _) 0 _ rfl
            have k1 := S8.out.cell _ _ _ (.head _) 1 _ rfl
            have k2 := S8.out.cell _ _ _ (.head _) 2 _ rfl
            have k3 := S8.out.cell _ _ _ (.head _) 3 _ rfl
            have k4 := S8.out.cell _ _ _ (.head _) 4 _ rfl
            have k5 := S8.out.cell _ _ _ (.head _) 5 _ rfl
            have f0 := S8.out.frozen _ _ _ (.head _) 0
            have f1 := S8.out.frozen _ _ _ (.head _) 1
            have f2 := S8.out.frozen _ _ _ (.head _) 2
            have f4 := S8.out.frozen _ _ _ (.head _) 4
            have f5 := S8.out.frozen _ _ _ (.head _) 5
            have r0 := S8.out.cell w.heap.size _ _ (.tail _ (.head _)) 0 _ rfl
            have g0 := S8.out.frozen w.heap.size _ _ (.tail _ (.head _)) 0
            have r1 := S8.out.cell w.heap.size _ _ (.tail _ (.head _)) 1 _ rfl
            have g1 := S8.out.frozen w.heap.size _ _ (.tail _ (.head _)) 1
            have r2 := S8.out.cell w.heap.size _ _ (.tail _ (.head _)) 2 _ rfl
            have g2 := S8.out.frozen w.heap.size _ _ (.tail _ (.head _)) 2
            have r3 := S8.out.cell w.heap.size _ _ (.tail _ (.head _)) 3 _ rfl
            have g3 := S8.out.frozen w.heap.size _ _ (.tail _ (.head _)) 3
            have r4 := S8.out.cell w.heap.size _ _ (.tail _ (.head _)) 4 _ rfl
            have g4 := S8.out.frozen w.heap.size _ _ (.tail _ (.head _)) 4
            have r5 := S8.out.cell w.heap.size _ _ (.tail _ (.head _)) 5 _ rfl
            have g5 := S8.out.frozen w.heap.size _ _ (.tail _ (.head _)) 5
            go_wp2_with fail
            have E := Lib.hid (SN.out.set6 w.heap.size _ _ _ _ _ _ 46 (.tail _ (.head _)) (.int .i64 1) (.int .i64 cl) (.int .i64 0) (.int .i64 tn) (.slice A' 2 c') (.slice iA 2 ic) HN8.out (show (64 : TypeId) ≠ 46 by decide))
            have E2 := Lib.hid (SN.out.set6 w.heap.size _ _ _ _ _ _ 46 (.tail _ (.head _)) (.int .i64 1) (.int .i64 cl) (.int .i64 0) (.int .i64 tn) (.slice A' 2 c') (.slice iA 2 ic) HNn.out (show (9 : TypeId) ≠ 46 by decide))
            generalize (((((((w8.setCell ⟨C, 4, none⟩ (.slice A' 2 c')).setCell ⟨w.heap.size, 0, none⟩ (.int .i64 1)).setCell ⟨w.heap.size, 1, none⟩ (.int .i64 cl)).setCell ⟨w.heap.size, 2, none⟩ (.int .i64 0)).setCell ⟨w.heap.size, 3, none⟩ (.int .i64 tn)).setCell ⟨w.heap.size, 4, none⟩ (.slice A' 2 c')).setCell ⟨w.heap.size, 5, none⟩ (.slice iA 2 ic)) = wz at *
            have e0 := E.out.1.cell _ _ _ (.head _) 0 _ rfl
            have e1 := E.out.1.cell _ _ _ (.head _) 1 _ rfl
            have e2 := E.out.1.cell _ _ _ (.head _) 2 _ rfl
            have e3 := E.out.1.cell _ _ _ (.head _) 3 _ rfl
            have e4 := E.out.1.cell _ _ _ (.head _) 4 _ rfl
            have e5 := E.out.1.cell _ _ _ (.head _) 5 _ rfl
            exact bodyPost_ret (v := .agg #[.int .i64 1, .int .i64 cl, .int .i64 0, .int .i64 tn, .slice A' 2 c', .slice iA 2 ic]) (by simp [results, Tryz.results41, go_sem, e0, e1, e2, e3, e4, e5]) rfl ⟨1, cl, 0, tn, A', 2, c', iA, 2, ic, rfl, Lib.hid (of_obj HV.out E.out.2 E2.out.2 (by omega) hcl.out ⟨htn0, htn1⟩), Lib.hid ⟨E.out.1.nm, E.out.1.gr⟩⟩
        · go_region_law (refine step_append_own (by rfl) _ _ _ (by rfl) w.heap.size 9 i1 _ 1 16 Tryz.underlying43 hi1 hy0 hy1 hy2 rfl (by omega) (.slice none 0 0) 0 [] (by rfl) (World.ownsRow_nil _ _ _ _) ⟨wf.heap.size, 0, none⟩ 3 3 ((#[.string ⟨#[120]⟩, .string ⟨#[121]⟩, .string ⟨#[110, 101, 120, 116]⟩] : Array Value).toList.take 3) (by rfl) (by rfl) (news_take_drew wf #[.string ⟨#[120]⟩, .string ⟨#[121]⟩, .string ⟨#[110, 101, 120, 116]⟩] 9 3) (by simp [Value.oneCell']) (by unfold maxLen; omega) (by omega) (by simp; omega) ?_; intro A' c' w8 hown hgrow; have S8 := Lib.hid ((SA.out.grown hgrow (fun g h => by cases h) (fun p _ h => by cases h) (fun h => by cases h)).drop (L' := [(C, #[.int .i64 1, .int .i64 cl, .int .i64 0, .int .i64 tn, (.slice none 0 0), .slice iA 3 ic], 46), (w.heap.size, #[.int .i64 0, .int .i64 0, .int .i64 0, .int .i64 0, .slice none 0 0, .slice none 0 0], 46)]) (fun p hp => .tail _ hp)); have HO8 := Lib.hid (kept_none HA'.out hgrow); have f4 := S8.out.frozen _ _ _ (.head _) 4; have k4 := S8.out.cell _ _ _ (.head _) 4 _ rfl; have HNo := Lib.hid hown; clear hown hgrow)
          all_goals
            have SN := Lib.hid (S8.out.set C _ 46 (.head _) 4 (.slice A' 3 c') (L' := [(C, #[.int .i64 1, .int .i64 cl, .int .i64 0, .int .i64 tn, (.slice A' 3 c'), .slice iA 3 ic], 46), (w.heap.size, #[.int .i64 0, .int .i64 0, .int .i64 0, .int .i64 0, .slice none 0 0, .slice none 0 0], 46)]) (fun p hp => two_of hp (fun e => by omega)))
            have HN8 := Lib.hid (own_store HO8.out (S8.out.own _ (.head _)).1 (show (64 : TypeId) ≠ 46 by decide) 4 (.slice A' 3 c'))
            have HNn := Lib.hid (own_store HNo.out (S8.out.own _ (.head _)).1 (show (9 : TypeId) ≠ 46 by decide) 4 (.slice A' 3 c'))
            clear k4 f4 k4b
            have k0 := S8.out.cell _ _ _ (.head _) 0 _ rfl
            have k1 := S8.out.cell _ _ _ (.head _) 1 _ rfl
            have k2 := S8.out.cell _ _ _ (.head _) 2 _ rfl
            have k3 := S8.out.cell _ _ _ (.head _) 3 _ rfl
            have k4 := S8.out.cell _ _ _ (.head _) 4 _ rfl
            have k5 := S8.out.cell _ _ _ (.head _) 5 _ rfl
            have f0 := S8.out.frozen _ _ _ (.head _) 0
            have f1 := S8.out.frozen _ _ _ (.head _) 1
            have f2 := S8.out.frozen _ _ _ (.head _) 2
            have f4 := S8.out.frozen _ _ _ (.head _) 4
            have f5 := S8.out.frozen _ _ _ (.head _) 5
            have r0 := S8.out.cell w.heap.size _ _ (.tail _ (.head _)) 0 _ rfl
            have g0 := S8.out.frozen w.heap.size _ _ (.tail _ (.head _)) 0
            have r1 := S8.out.cell w.heap.size _ _ (.tail _ (.head _)) 1 _ rfl
            have g1 := S8.out.frozen w.heap.size _ _ (.tail _ (.head _)) 1
            have r2 := S8.out.cell w.heap.size _ _ (.tail _ (.head _)) 2 _ rfl
            have g2 := S8.out.frozen w.heap.size _ _ (.tail _ (.head _)) 2
            have r3 := S8.out.cell w.heap.size _ _ (.tail _ (.head _)) 3 _ rfl
            have g3 := S8.out.frozen w.heap.size _ _ (.tail _ (.head _)) 3
            have r4 := S8.out.cell w.heap.size _ _ (.tail _ (.head _)) 4 _ rfl
            have g4 := S8.out.frozen w.heap.size _ _ (.tail _ (.head _)) 4
            have r5 := S8.out.cell w.heap.size _ _ (.tail _ (.head _)) 5 _ rfl
            have g5 := S8.out.frozen w.heap.size _ _ (.tail _ (.head _)) 5
            go_wp2_with fail
            have E := Lib.hid (SN.out.set6 w.heap.size _ _ _ _ _ _ 46 (.tail _ (.head _)) (.int .i64 1) (.int .i64 cl) (.int .i64 0) (.int .i64 tn) (.slice A' 3 c') (.slice iA 3 ic) HN8.out (show (64 : TypeId) ≠ 46 by decide))
            have E2 := Lib.hid (SN.out.set6 w.heap.size _ _ _ _ _ _ 46 (.tail _ (.head _)) (.int .i64 1) (.int .i64 cl) (.int .i64 0) (.int .i64 tn) (.slice A' 3 c') (.slice iA 3 ic) HNn.out (show (9 : TypeId) ≠ 46 by decide))
            generalize (((((((w8.setCell ⟨C, 4, none⟩ (.slice A' 3 c')).setCell ⟨w.heap.size, 0, none⟩ (.int .i64 1)).setCell ⟨w.heap.size, 1, none⟩ (.int .i64 cl)).setCell ⟨w.heap.size, 2, none⟩ (.int .i64 0)).setCell ⟨w.heap.size, 3, none⟩ (.int .i64 tn)).setCell ⟨w.heap.size, 4, none⟩ (.slice A' 3 c')).setCell ⟨w.heap.size, 5, none⟩ (.slice iA 3 ic)) = wz at *
            have e0 := E.out.1.cell _ _ _ (.head _) 0 _ rfl
            have e1 := E.out.1.cell _ _ _ (.head _) 1 _ rfl
            have e2 := E.out.1.cell _ _ _ (.head _) 2 _ rfl
            have e3 := E.out.1.cell _ _ _ (.head _) 3 _ rfl
            have e4 := E.out.1.cell _ _ _ (.head _) 4 _ rfl
            have e5 := E.out.1.cell _ _ _ (.head _) 5 _ rfl
            exact bodyPost_ret (v := .agg #[.int .i64 1, .int .i64 cl, .int .i64 0, .int .i64 tn, .slice A' 3 c', .slice iA 3 ic]) (by simp [results, Tryz.results41, go_sem, e0, e1, e2, e3, e4, e5]) rfl ⟨1, cl, 0, tn, A', 3, c', iA, 3, ic, rfl, Lib.hid (of_obj HV.out E.out.2 E2.out.2 (by omega) hcl.out ⟨htn0, htn1⟩), Lib.hid ⟨E.out.1.nm, E.out.1.gr⟩⟩
  · rcases (show r = 0 ∨ r = 1 ∨ r = 2 ∨ r = 3 by omega) with rfl | rfl | rfl | rfl
    · have SK := Lib.hid (S4.out.drop (L' := [(C, #[.int .i64 1, .int .i64 0, .int .i64 0, .int .i64 tn, .slice none 0 0, .slice none 0 0], 46), (w.heap.size, #[.int .i64 0, .int .i64 0, .int .i64 0, .int .i64 0, .slice none 0 0, .slice none 0 0], 46)]) (fun p hp => hp))
      clear S4
      go_wp2_with fail
      refine (next_st SK.out HA.out hB (by omega) HZ.out hl 4 (by omega) (by omega)).mono ?_
      rintro e w5 ⟨n, rfl, hn, S5⟩
      obtain ⟨hn0, hn1⟩ := hn.out
      clear hn
      clear SK
      have k0 := S5.out.cell _ _ _ (.head _) 0 _ rfl
      have k1 := S5.out.cell _ _ _ (.head _) 1 _ rfl
      have k2 := S5.out.cell _ _ _ (.head _) 2 _ rfl
      have k3 := S5.out.cell _ _ _ (.head _) 3 _ rfl
      have k4 := S5.out.cell _ _ _ (.head _) 4 _ rfl
      have k5 := S5.out.cell _ _ _ (.head _) 5 _ rfl
      have f0 := S5.out.frozen _ _ _ (.head _) 0
      have f1 := S5.out.frozen _ _ _ (.head _) 1
      have f2 := S5.out.frozen _ _ _ (.head _) 2
      have f4 := S5.out.frozen _ _ _ (.head _) 4
      have f5 := S5.out.frozen _ _ _ (.head _) 5
      go_wp2_with fail
      clear k0 k1 k2 k3 k4 k5 f0 f1 f2 f4 f5
      have L0 := Lib.hid (Ci.mk (M := m) S5.out ⟨[], VOk.nil m, World.ownsRow_nil _ _ _ _⟩)
      go_wp2_with fail
      go_loopw [7] (fun i wr => ∃ j : Nat, (j : Int) ≤ n ∧ i = .int .i64 j ∧ ∃ iA ic, Hid (Ci m w b A zs.length c C 1 tn (.slice iA j ic) j wr)) (fun i _ => 3 - (intOf i).toNat)
      case atStart => exact ⟨0, by omega, rfl, none, 0, L0⟩
      case round =>
        clear L0 S5
        obtain ⟨j, hj, rfl, iA, ic, hL⟩ := hrel
        by_cases hlt : (j : Int) < n
        · obtain ⟨xs, hv, ho⟩ := hL.out.own
          have HV := Lib.hid hv
          have HO := Lib.hid ho
          have ST := Lib.hid hL.out.st
          clear hv ho hL
          have k5 := ST.out.cell _ _ _ (.head _) 5 _ rfl
          have f5 := ST.out.frozen _ _ _ (.head _) 5
          go_wp2_with fail
          replace ST := Lib.hid ST.out.drew
          replace HO := Lib.hid HO.out.drew
          go_region_law (first
            | (go_simp; go_at_call 64; refine (value_st ST.out HA.out hB (by omega) HZ.out hl m hm hm' HO.out (by decide)).mono ?_; rintro e w6 ⟨k, x, s, rfl, hk, ST6, HO6, hw6⟩; have k5 := ST6.out.cell _ _ _ (.head _) 5 _ rfl; have hw6' := ST6.out.gr.size; have k5b := (ST6.out.alloc #[.int .i64 k, .int .i64 x, .string s] 64).cell C _ _ (.tail _ (.head _)) 5 _ rfl)
            | (refine step_append_lies _ (by rfl) _ _ _ (by rfl) w.heap.size 64 i0 _ 3 32 Tryz.underlying44 hi0 hz0 hz1 hz2 rfl (by omega) (.slice iA j ic) j xs (by rfl) (World.ownsRow.alloc HO6.out _) ⟨w6.heap.size, 0, none⟩ 1 1 [.int .i64 k, .int .i64 x, .string s] (by rfl) (by rfl) (World.news_of_block (cs := #[.int .i64 k, .int .i64 x, .string s]) (t := 64) (fr := (0, 0)) (heap_alloc_new w6 _)) (by simp [Value.oneCell']) (by omega) (by unfold maxLen; omega) (by omega) (by simp; omega) (w6.heap.size + 1) (by simp) ?_; intro g cap w8 hown hgrow _ _; have S8 := Lib.hid (Sn.append ((ST6.out.alloc #[.int .i64 k, .int .i64 x, .string s] 64).drop (L' := [(C, #[.int .i64 1, .int .i64 0, .int .i64 0, .int .i64 tn, .slice none 0 0, .slice iA j ic], 46), (w.heap.size, #[.int .i64 0, .int .i64 0, .int .i64 0, .int .i64 0, .slice none 0 0, .slice none 0 0], 46)]) (fun p hp => .tail _ hp)) (World.ownsRow.alloc HO6.out _) hgrow (by intro p hp; simp at hp; rcases hp with rfl | rfl <;> exact (show (64 : TypeId) ≠ 46 by decide)) (by decide)); have k5 := S8.out.cell _ _ _ (.head _) 5 _ rfl; have f5 := S8.out.frozen _ _ _ (.head _) 5; have HO8 := Lib.hid hown; have HG8 := Lib.hid hgrow; clear hown hgrow))
          all_goals
            have HN := Lib.hid (ci_next S8.out hC HO8.out HV.out hk.out)
            clear k5 f5 k5b
            go_wp2_with fail
            go_roundw
            case rel => exact ⟨j + 1, by omega, by go_num, _, _, HN⟩
            case measure => simp [intOf]; omega
        · have hge : n ≤ (j : Int) := by omega
          obtain ⟨xs, hv, ho⟩ := hL.out.own
          have HV := Lib.hid hv
          have HO := Lib.hid ho
          have ST := Lib.hid hL.out.st
          clear hv ho hL
          have hjn : (j : Int) = n := by omega
          have hj3 : j ≤ 3 := by omega
          obtain rfl : n = (j : Int) := hjn.symm
          clear hjn
          have k0 := ST.out.cell _ _ _ (.head _) 0 _ rfl
          have k1 := ST.out.cell _ _ _ (.head _) 1 _ rfl
          have k2 := ST.out.cell _ _ _ (.head _) 2 _ rfl
          have k3 := ST.out.cell _ _ _ (.head _) 3 _ rfl
          have k4 := ST.out.cell _ _ _ (.head _) 4 _ rfl
          have k5 := ST.out.cell _ _ _ (.head _) 5 _ rfl
          have f0 := ST.out.frozen _ _ _ (.head _) 0
          have f1 := ST.out.frozen _ _ _ (.head _) 1
          have f2 := ST.out.frozen _ _ _ (.head _) 2
          have f4 := ST.out.frozen _ _ _ (.head _) 4
          have f5 := ST.out.frozen _ _ _ (.head _) 5
          go_wp2_with fail
          refine (next_keep ST.out HA.out hB (by omega) HZ.out hl 3 (by omega) (by omega) HO.out (by decide)).mono ?_
          rintro e w9 ⟨cl, rfl, hcl, S9, HO9⟩
          clear k0 k1 k2 k3 k4 k5 f0 f1 f2 f4 f5
          clear ST HO
          have k0 := S9.out.cell _ _ _ (.head _) 0 _ rfl
          have k1 := S9.out.cell _ _ _ (.head _) 1 _ rfl
          have k2 := S9.out.cell _ _ _ (.head _) 2 _ rfl
          have k3 := S9.out.cell _ _ _ (.head _) 3 _ rfl
          have k4 := S9.out.cell _ _ _ (.head _) 4 _ rfl
          have k5 := S9.out.cell _ _ _ (.head _) 5 _ rfl
          have f0 := S9.out.frozen _ _ _ (.head _) 0
          have f1 := S9.out.frozen _ _ _ (.head _) 1
          have f2 := S9.out.frozen _ _ _ (.head _) 2
          have f4 := S9.out.frozen _ _ _ (.head _) 4
          have f5 := S9.out.frozen _ _ _ (.head _) 5
          have SF := Lib.hid (S9.out.set C _ 46 (.head _) 1 (.int .i64 cl) (L' := [(C, #[.int .i64 1, .int .i64 cl, .int .i64 0, .int .i64 tn, (.slice none 0 0), .slice iA j ic], 46), (w.heap.size, #[.int .i64 0, .int .i64 0, .int .i64 0, .int .i64 0, .slice none 0 0, .slice none 0 0], 46)]) (fun p hp => two_of hp (fun e => by omega)))
          have HF := Lib.hid (own_store HO9.out (S9.out.own _ (.head _)).1 (show (64 : TypeId) ≠ 46 by decide) 1 (.int .i64 cl))
          go_wp2_with fail
          clear k0 k1 k2 k3 k4 k5 f0 f1 f2 f4 f5
          generalize w9.setCell ⟨C, 1, none⟩ (.int .i64 cl) = wf at *
          have k4 := SF.out.cell _ _ _ (.head _) 4 _ rfl
          have f4 := SF.out.frozen _ _ _ (.head _) 4
          have SA := Lib.hid (SF.out.alloc #[.string ⟨#[120]⟩, .string ⟨#[121]⟩, .string ⟨#[110, 101, 120, 116]⟩] 9).drew
          have HA' := Lib.hid (World.ownsRow.alloc HF.out (.cells #[.string ⟨#[120]⟩, .string ⟨#[121]⟩, .string ⟨#[110, 101, 120, 116]⟩] 9)).drew
          have k4b := SA.out.cell C _ _ (.tail _ (.head _)) 4 _ rfl
          have hszf : w.heap.size ≤ wf.heap.size := SF.out.gr.size
          obtain ⟨i1, hi1, hy0, hy1, hy2⟩ := info_parts infoS
          have hj0 : (0 : Int) ≤ (j : Int) := by omega
          have hj3' : (j : Int) ≤ 3 := by omega
          rcases (show j = 0 ∨ j = 1 ∨ j = 2 ∨ j = 3 by omega) with rfl | rfl | rfl | rfl
          · go_region_law (refine step_append_own (by rfl) _ _ _ (by rfl) w.heap.size 9 i1 _ 1 16 Tryz.underlying43 hi1 hy0 hy1 hy2 rfl (by omega) (.slice none 0 0) 0 [] (by rfl) (World.ownsRow_nil _ _ _ _) ⟨wf.heap.size, 0, none⟩ 0 3 ((#[.string ⟨#[120]⟩, .string ⟨#[121]⟩, .string ⟨#[110, 101, 120, 116]⟩] : Array Value).toList.take 0) (by rfl) (by rfl) (news_take_drew wf #[.string ⟨#[120]⟩, .string ⟨#[121]⟩, .string ⟨#[110, 101, 120, 116]⟩] 9 0) (by simp [Value.oneCell']) (by unfold maxLen; omega) (by omega) (by simp; omega) ?_; intro A' c' w8 hown hgrow; have S8 := Lib.hid ((SA.out.grown hgrow (fun g h => by cases h) (fun p _ h => by cases h) (fun h => by cases h)).drop (L' := [(C, #[.int .i64 1, .int .i64 cl, .int .i64 0, .int .i64 tn, (.slice none 0 0), .slice iA 0 ic], 46), (w.heap.size, #[.int .i64 0, .int .i64 0, .int .i64 0, .int .i64 0, .slice none 0 0, .slice none 0 0], 46)]) (fun p hp => .tail _ hp)); have HO8 := Lib.hid (kept_none HA'.out hgrow); have f4 := S8.out.frozen _ _ _ (.head _) 4; have k4 := S8.out.cell _ _ _ (.head _) 4 _ rfl; have HNo := Lib.hid hown; clear hown hgrow)
            all_goals
              have SN := Lib.hid (S8.out.set C _ 46 (.head _) 4 (.slice A' 0 c') (L' := [(C, #[.int .i64 1, .int .i64 cl, .int .i64 0, .int .i64 tn, (.slice A' 0 c'), .slice iA 0 ic], 46), (w.heap.size, #[.int .i64 0, .int .i64 0, .int .i64 0, .int .i64 0, .slice none 0 0, .slice none 0 0], 46)]) (fun p hp => two_of hp (fun e => by omega)))
              have HN8 := Lib.hid (own_store HO8.out (S8.out.own _ (.head _)).1 (show (64 : TypeId) ≠ 46 by decide) 4 (.slice A' 0 c'))
              have HNn := Lib.hid (own_store HNo.out (S8.out.own _ (.head _)).1 (show (9 : TypeId) ≠ 46 by decide) 4 (.slice A' 0 c'))
              clear k4 f4 k4b
              have k0 := S8.out.cell _ _ _ (.head _) 0 _ rfl
              have k1 := S8.out.cell _ _ _ (.head _) 1 _ rfl
              have k2 := S8.out.cell _ _ _ (.head _) 2 _ rfl
              have k3 := S8.out.cell _ _ _ (.head _) 3 _ rfl
              have k4 := S8.out.cell _ _ _ (.head _) 4 _ rfl
              have k5 := S8.out.cell _ _ _ (.head _) 5 _ rfl
              have f0 := S8.out.frozen _ _ _ (.head _) 0
              have f1 := S8.out.frozen _ _ _ (.head _) 1
              have f2 := S8.out.frozen _ _ _ (.head _) 2
              have f4 := S8.out.frozen _ _ _ (.head _) 4
              have f5 := S8.out.frozen _ _ _ (.head _) 5
              have r0 := S8.out.cell w.heap.size _ _ (.tail _ (.head _)) 0 _ rfl
              have g0 := S8.out.frozen w.heap.size _ _ (.tail _ (.head _)) 0
              have r1 := S8.out.cell w.heap.size _ _ (.tail _ (.head _)) 1 _ rfl
              have g1 := S8.out.frozen w.heap.size _ _ (.tail _ (.head _)) 1
              have r2 := S8.out.cell w.heap.size _ _ (.tail _ (.head _)) 2 _ rfl
              have g2 := S8.out.frozen w.heap.size _ _ (.tail _ (.head _)) 2
              have r3 := S8.out.cell w.heap.size _ _ (.tail _ (.head _)) 3 _ rfl
              have g3 := S8.out.frozen w.heap.size _ _ (.tail _ (.head _)) 3
              have r4 := S8.out.cell w.heap.size _ _ (.tail _ (.head _)) 4 _ rfl
              have g4 := S8.out.frozen w.heap.size _ _ (.tail _ (.head _)) 4
              have r5 := S8.out.cell w.heap.size _ _ (.tail _ (.head _)) 5 _ rfl
              have g5 := S8.out.frozen w.heap.size _ _ (.tail _ (.head _)) 5
              go_wp2_with fail
              have E := Lib.hid (SN.out.set6 w.heap.size _ _ _ _ _ _ 46 (.tail _ (.head _)) (.int .i64 1) (.int .i64 cl) (.int .i64 0) (.int .i64 tn) (.slice A' 0 c') (.slice iA 0 ic) HN8.out (show (64 : TypeId) ≠ 46 by decide))
              have E2 := Lib.hid (SN.out.set6 w.heap.size _ _ _ _ _ _ 46 (.tail _ (.head _)) (.int .i64 1) (.int .i64 cl) (.int .i64 0) (.int .i64 tn) (.slice A' 0 c') (.slice iA 0 ic) HNn.out (show (9 : TypeId) ≠ 46 by decide))
              generalize (((((((w8.setCell ⟨C, 4, none⟩ (.slice A' 0 c')).setCell ⟨w.heap.size, 0, none⟩ (.int .i64 1)).setCell ⟨w.heap.size, 1, none⟩ (.int .i64 cl)).setCell ⟨w.heap.size, 2, none⟩ (.int .i64 0)).setCell ⟨w.heap.size, 3, none⟩ (.int .i64 tn)).setCell ⟨w.heap.size, 4, none⟩ (.slice A' 0 c')).setCell ⟨w.heap.size, 5, none⟩ (.slice iA 0 ic)) = wz at *
              have e0 := E.out.1.cell _ _ _ (.head _) 0 _ rfl
              have e1 := E.out.1.cell _ _ _ (.head _) 1 _ rfl
              have e2 := E.out.1.cell _ _ _ (.head _) 2 _ rfl
              have e3 := E.out.1.cell _ _ _ (.head _) 3 _ rfl
              have e4 := E.out.1.cell _ _ _ (.head _) 4 _ rfl
              have e5 := E.out.1.cell _ _ _ (.head _) 5 _ rfl
              exact bodyPost_ret (v := .agg #[.int .i64 1, .int .i64 cl, .int .i64 0, .int .i64 tn, .slice A' 0 c', .slice iA 0 ic]) (by simp [results, Tryz.results41, go_sem, e0, e1, e2, e3, e4, e5]) rfl ⟨1, cl, 0, tn, A', 0, c', iA, 0, ic, rfl, Lib.hid (of_obj HV.out E.out.2 E2.out.2 (by omega) hcl.out ⟨htn0, htn1⟩), Lib.hid ⟨E.out.1.nm, E.out.1.gr⟩⟩
          · go_region_law (refine step_append_own (by rfl) _ _ _ (by rfl) w.heap.size 9 i1 _ 1 16 Tryz.underlying43 hi1 hy0 hy1 hy2 rfl (by omega) (.slice none 0 0) 0 [] (by rfl) (World.ownsRow_nil _ _ _ _) ⟨wf.heap.size, 0, none⟩ 1 3 ((#[.string ⟨#[120]⟩, .string ⟨#[121]⟩, .string ⟨#[110, 101, 120, 116]⟩] : Array Value).toList.take 1) (by rfl) (by rfl) (news_take_drew wf #[.string ⟨#[120]⟩, .string ⟨#[121]⟩, .string ⟨#[110, 101, 120, 116]⟩] 9 1) (by simp [Value.oneCell']) (by unfold maxLen; omega) (by omega) (by simp; omega) ?_; intro A' c' w8 hown hgrow; have S8 := Lib.hid ((SA.out.grown hgrow (fun g h => by cases h) (fun p _ h => by cases h) (fun h => by cases h)).drop (L' := [(C, #[.int .i64 1, .int .i64 cl, .int .i64 0, .int .i64 tn, (.slice none 0 0), .slice iA 1 ic], 46), (w.heap.size, #[.int .i64 0, .int .i64 0, .int .i64 0, .int .i64 0, .slice none 0 0, .slice none 0 0], 46)]) (fun p hp => .tail _ hp)); have HO8 := Lib.hid (kept_none HA'.out hgrow); have f4 := S8.out.frozen _ _ _ (.head _) 4; have k4 := S8.out.cell _ _ _ (.head _) 4 _ rfl; have HNo := Lib.hid hown; clear hown hgrow)
            all_goals
              have SN := Lib.hid (S8.out.set C _ 46 (.head _) 4 (.slice A' 1 c') (L' := [(C, #[.int .i64 1, .int .i64 cl, .int .i64 0, .int .i64 tn, (.slice A' 1 c'), .slice iA 1 ic], 46), (w.heap.size, #[.int .i64 0, .int .i64 0, .int .i64 0, .int .i64 0, .slice none 0 0, .slice none 0 0], 46)]) (fun p hp => two_of hp (fun e => by omega)))
              have HN8 := Lib.hid (own_store HO8.out (S8.out.own _ (.head _)).1 (show (64 : TypeId) ≠ 46 by decide) 4 (.slice A' 1 c'))
              have HNn := Lib.hid (own_store HNo.out (S8.out.own _ (.head _)).1 (show (9 : TypeId) ≠ 46 by decide) 4 (.slice A' 1 c'))
              clear k4 f4 k4b
              have k0 := S8.out.cell _ _ _ (.head _) 0 _ rfl
              have k1 := S8.out.cell _ _ _ (.head _) 1 _ rfl
              have k2 := S8.out.cell _ _ _ (.head _) 2 _ rfl
              have k3 := S8.out.cell _ _ _ (.head _) 3 _ rfl
              have k4 := S8.out.cell _ _ _ (.head _) 4 _ rfl
              have k5 := S8.out.cell _ _ _ (.head _) 5 _ rfl
              have f0 := S8.out.frozen _ _ _ (.head _) 0
              have f1 := S8.out.frozen _ _ _ (.head _) 1
              have f2 := S8.out.frozen _ _ _ (.head _) 2
              have f4 := S8.out.frozen _ _ _ (.head _) 4
              have f5 := S8.out.frozen _ _ _ (.head _) 5
              have r0 := S8.out.cell w.heap.size _ _ (.tail _ (.head _)) 0 _ rfl
              have g0 := S8.out.frozen w.heap.size _ _ (.tail _ (.head _)) 0
              have r1 := S8.out.cell w.heap.size _ _ (.tail _ (.head _)) 1 _ rfl
              have g1 := S8.out.frozen w.heap.size _ _ (.tail _ (.head _)) 1
              have r2 := S8.out.cell w.heap.size _ _ (.tail _ (.head _)) 2 _ rfl
              have g2 := S8.out.frozen w.heap.size _ _ (.tail _ (.head _)) 2
              have r3 := S8.out.cell w.heap.size _ _ (.tail _ (.head _)) 3 _ rfl
              have g3 := S8.out.frozen w.heap.size _ _ (.tail _ (.head _)) 3
              have r4 := S8.out.cell w.heap.size _ _ (.tail _ (.head _)) 4 _ rfl
              have g4 := S8.out.frozen w.heap.size _ _ (.tail _ (.head _)) 4
              have r5 := S8.out.cell w.heap.size _ _ (.tail _ (.head _)) 5 _ rfl
              have g5 := S8.out.frozen w.heap.size _ _ (.tail _ (.head _)) 5
              go_wp2_with fail
              have E := Lib.hid (SN.out.set6 w.heap.size _ _ _ _ _ _ 46 (.tail _ (.head _)) (.int .i64 1) (.int .i64 cl) (.int .i64 0) (.int .i64 tn) (.slice A' 1 c') (.slice iA 1 ic) HN8.out (show (64 : TypeId) ≠ 46 by decide))
              have E2 := Lib.hid (SN.out.set6 w.heap.size _ _ _ _ _ _ 46 (.tail _ (.head _)) (.int .i64 1) (.int .i64 cl) (.int .i64 0) (.int .i64 tn) (.slice A' 1 c') (.slice iA 1 ic) HNn.out (show (9 : TypeId) ≠ 46 by decide))
              generalize (((((((w8.setCell ⟨C, 4, none⟩ (.slice A' 1 c')).setCell ⟨w.heap.size, 0, none⟩ (.int .i64 1)).setCell ⟨w.heap.size, 1, none⟩ (.int .i64 cl)).setCell ⟨w.heap.size, 2, none⟩ (.int .i64 0)).setCell ⟨w.heap.size, 3, none⟩ (.int .i64 tn)).setCell ⟨w.heap.size, 4, none⟩ (.slice A' 1 c')).setCell ⟨w.heap.size, 5, none⟩ (.slice iA 1 ic)) = wz at *
              have e0 := E.out.1.cell _ _ _ (.head _) 0 _ rfl
              have e1 := E.out.1.cell _ _ _ (.head _) 1 _ rfl
              have e2 := E.out.1.cell _ _ _ (.head _) 2 _ rfl
              have e3 := E.out.1.cell _ _ _ (.head _) 3 _ rfl
              have e4 := E.out.1.cell _ _ _ (.head _) 4 _ rfl
              have e5 := E.out.1.cell _ _ _ (.head _) 5 _ rfl
              exact bodyPost_ret (v := .agg #[.int .i64 1, .int .i64 cl, .int .i64 0, .int .i64 tn, .slice A' 1 c', .slice iA 1 ic]) (by simp [results, Tryz.results41, go_sem, e0, e1, e2, e3, e4, e5]) rfl ⟨1, cl, 0, tn, A', 1, c', iA, 1, ic, rfl, Lib.hid (of_obj HV.out E.out.2 E2.out.2 (by omega) hcl.out ⟨htn0, htn1⟩), Lib.hid ⟨E.out.1.nm, E.out.1.gr⟩⟩
          · go_region_law (refine step_append_own (by rfl) _ _ _ (by rfl) w.heap.size 9 i1 _ 1 16 Tryz.underlying43 hi1 hy0 hy1 hy2 rfl (by omega) (.slice none 0 0) 0 [] (by rfl) (World.ownsRow_nil _ _ _ _) ⟨wf.heap.size, 0, none⟩ 2 3 ((#[.string ⟨#[120]⟩, .string ⟨#[121]⟩, .string ⟨#[110, 101, 120, 116]⟩] : Array Value).toList.take 2) (by rfl) (by rfl) (news_take_drew wf #[.string ⟨#[120]⟩, .string ⟨#[121]⟩, .string ⟨#[110, 101, 120, 116]⟩] 9 2) (by simp [Value.oneCell']) (by unfold maxLen; omega) (by omega) (by simp; omega) ?_; intro A' c' w8 hown hgrow; have S8 := Lib.hid ((SA.out.grown hgrow (fun g h => by cases h) (fun p _ h => by cases h) (fun h => by cases h)).drop (L' := [(C, #[.int .i64 1, .int .i64 cl, .int .i64 0, .int .i64 tn, (.slice none 0 0), .slice iA 2 ic], 46), (w.heap.size, #[.int .i64 0, .int .i64 0, .int .i64 0, .int .i64 0, .slice none 0 0, .slice none 0 0], 46)]) (fun p hp => .tail _ hp)); have HO8 := Lib.hid (kept_none HA'.out hgrow); have f4 := S8.out.frozen _ _ _ (.head _) 4; have k4 := S8.out.cell _ _ _ (.head _) 4 _ rfl; have HNo := Lib.hid hown; clear hown hgrow)
            all_goals
              have SN := Lib.hid (S8.out.set C _ 46 (.head _) 4 (.slice A' 2 c') (L' := [(C, #[.int .i64 1, .int .i64 cl, .int .i64 0, .int .i64 tn, (.slice A' 2 c'), .slice iA 2 ic], 46), (w.heap.size, #[.int .i64 0, .int .i64 0, .int .i64 0, .int .i64 0, .slice none 0 0, .slice none 0 0], 46)]) (fun p hp => two_of hp (fun e => by omega)))
              have HN8 := Lib.hid (own_store HO8.out (S8.out.own _ (.head _)).1 (show (64 : TypeId) ≠ 46 by decide) 4 (.slice A' 2 c'))
              have HNn := Lib.hid (own_store HNo.out (S8.out.own _ (.head _)).1 (show (9 : TypeId) ≠ 46 by decide) 4 (.slice A' 2 c'))
              clear k4 f4 k4b
              have k0 := S8.out.cell _ _ _ (.head _) 0 _ rfl
              have k1 := S8.out.cell _ _ _ (.head _) 1 _ rfl
              have k2 := S8.out.cell _ _ _ (.head _) 2 _ rfl
              have k3 := S8.out.cell _ _ _ (.head _) 3 _ rfl
              have k4 := S8.out.cell _ _ _ (.head _) 4 _ rfl
              have k5 := S8.out.cell _ _ _ (.head _) 5 _ rfl
              have f0 := S8.out.frozen _ _ _ (.head _) 0
              have f1 := S8.out.frozen _ _ _ (.head _) 1
              have f2 := S8.out.frozen _ _ _ (.head _) 2
              have f4 := S8.out.frozen _ _ _ (.head _) 4
              have f5 := S8.out.frozen _ _ _ (.head _) 5
              have r0 := S8.out.cell w.heap.size _ _ (.tail _ (.head _)) 0 _ rfl
              have g0 := S8.out.frozen w.heap.size _ _ (.tail _ (.head _)) 0
              have r1 := S8.out.cell w.heap.size _ _ (.tail _ (.head _)) 1 _ rfl
              have g1 := S8.out.frozen w.heap.size _ _ (.tail _ (.head _)) 1
              have r2 := S8.out.cell w.heap.size _ _ (.tail _ (.head _)) 2 _ rfl
              have g2 := S8.out.frozen w.heap.size _ _ (.tail _ (.head _)) 2
              have r3 := S8.out.cell w.heap.size _ _ (.tail _ (.head _)) 3 _ rfl
              have g3 := S8.out.frozen w.heap.size _ _ (.tail _ (.head _)) 3
              have r4 := S8.out.cell w.heap.size _ _ (.tail _ (.head _)) 4 _ rfl
              have g4 := S8.out.frozen w.heap.size _ _ (.tail _ (.head _)) 4
              have r5 := S8.out.cell w.heap.size _ _ (.tail _ (.head _)) 5 _ rfl
              have g5 := S8.out.frozen w.heap.size _ _ (.tail _ (.head _)) 5
              go_wp2_with fail
              have E := Lib.hid (SN.out.set6 w.heap.size _ _ _ _ _ _ 46 (.tail _ (.head _)) (.int .i64 1) (.int .i64 cl) (.int .i64 0) (.int .i64 tn) (.slice A' 2 c') (.slice iA 2 ic) HN8.out (show (64 : TypeId) ≠ 46 by decide))
              have E2 := Lib.hid (SN.out.set6 w.heap.size _ _ _ _ _ _ 46 (.tail _ (.head _)) (.int .i64 1) (.int .i64 cl) (.int .i64 0) (.int .i64 tn) (.slice A' 2 c') (.slice iA 2 ic) HNn.out (show (9 : TypeId) ≠ 46 by decide))
              generalize (((((((w8.setCell ⟨C, 4, none⟩ (.slice A' 2 c')).setCell ⟨w.heap.size, 0, none⟩ (.int .i64 1)).setCell ⟨w.heap.size, 1, none⟩ (.int .i64 cl)).setCell ⟨w.heap.size, 2, none⟩ (.int .i64 0)).setCell ⟨w.heap.size, 3, none⟩ (.int .i64 tn)).setCell ⟨w.heap.size, 4, none⟩ (.slice A' 2 c')).setCell ⟨w.heap.size, 5, none⟩ (.slice iA 2 ic)) = wz at *
              have e0 := E.out.1.cell _ _ _ (.head _) 0 _ rfl
              have e1 := E.out.1.cell _ _ _ (.head _) 1 _ rfl
              have e2 := E.out.1.cell _ _ _ (.head _) 2 _ rfl
              have e3 := E.out.1.cell _ _ _ (.head _) 3 _ rfl
              have e4 := E.out.1.cell _ _ _ (.head _) 4 _ rfl
              have e5 := E.out.1.cell _ _ _ (.head _) 5 _ rfl
              exact bodyPost_ret (v := .agg #[.int .i64 1, .int .i64 cl, .int .i64 0, .int .i64 tn, .slice A' 2 c', .slice iA 2 ic]) (by simp [results, Tryz.results41, go_sem, e0, e1, e2, e3, e4, e5]) rfl ⟨1, cl, 0, tn, A', 2, c', iA, 2, ic, rfl, Lib.hid (of_obj HV.out E.out.2 E2.out.2 (by omega) hcl.out ⟨htn0, htn1⟩), Lib.hid ⟨E.out.1.nm, E.out.1.gr⟩⟩
          · go_region_law (refine step_append_own (by rfl) _ _ _ (by rfl) w.heap.size 9 i1 _ 1 16 Tryz.underlying43 hi1 hy0 hy1 hy2 rfl (by omega) (.slice none 0 0) 0 [] (by rfl) (World.ownsRow_nil _ _ _ _) ⟨wf.heap.size, 0, none⟩ 3 3 ((#[.string ⟨#[120]⟩, .string ⟨#[121]⟩, .string ⟨#[110, 101, 120, 116]⟩] : Array Value).toList.take 3) (by rfl) (by rfl) (news_take_drew wf #[.string ⟨#[120]⟩, .string ⟨#[121]⟩, .string ⟨#[110, 101, 120, 116]⟩] 9 3) (by simp [Value.oneCell']) (by unfold maxLen; omega) (by omega) (by simp; omega) ?_; intro A' c' w8 hown hgrow; have S8 := Lib.hid ((SA.out.grown hgrow (fun g h => by cases h) (fun p _ h => by cases h) (fun h => by cases h)).drop (L' := [(C, #[.int .i64 1, .int .i64 cl, .int .i64 0, .int .i64 tn, (.slice none 0 0), .slice iA 3 ic], 46), (w.heap.size, #[.int .i64 0, .int .i64 0, .int .i64 0, .int .i64 0, .slice none 0 0, .slice none 0 0], 46)]) (fun p hp => .tail _ hp)); have HO8 := Lib.hid (kept_none HA'.out hgrow); have f4 := S8.out.frozen _ _ _ (.head _) 4; have k4 := S8.out.cell _ _ _ (.head _) 4 _ rfl; have HNo := Lib.hid hown; clear hown hgrow)
            all_goals
              have SN := Lib.hid (S8.out.set C _ 46 (.head _) 4 (.slice A' 3 c') (L' := [(C, #[.int .i64 1, .int .i64 cl, .int .i64 0, .int .i64 tn, (.slice A' 3 c'), .slice iA 3 ic], 46), (w.heap.size, #[.int .i64 0, .int .i64 0, .int .i64 0, .int .i64 0, .slice none 0 0, .slice none 0 0], 46)]) (fun p hp => two_of hp (fun e => by omega)))
              have HN8 := Lib.hid (own_store HO8.out (S8.out.own _ (.head _)).1 (show (64 : TypeId) ≠ 46 by decide) 4 (.slice A' 3 c'))
              have HNn := Lib.hid (own_store HNo.out (S8.out.own _ (.head _)).1 (show (9 : TypeId) ≠ 46 by decide) 4 (.slice A' 3 c'))
              clear k4 f4 k4b
              have k0 := S8.out.cell _ _ _ (.head _) 0 _ rfl
              have k1 := S8.out.cell _ _ _ (.head _) 1 _ rfl
              have k2 := S8.out.cell _ _ _ (.head _) 2 _ rfl
              have k3 := S8.out.cell _ _ _ (.head _) 3 _ rfl
              have k4 := S8.out.cell _ _ _ (.head _) 4 _ rfl
              have k5 := S8.out.cell _ _ _ (.head _) 5 _ rfl
              have f0 := S8.out.frozen _ _ _ (.head _) 0
              have f1 := S8.out.frozen _ _ _ (.head _) 1
              have f2 := S8.out.frozen _ _ _ (.head _) 2
              have f4 := S8.out.frozen _ _ _ (.head _) 4
              have f5 := S8.out.frozen _ _ _ (.head _) 5
              have r0 := S8.out.cell w.heap.size _ _ (.tail _ (.head _)) 0 _ rfl
              have g0 := S8.out.frozen w.heap.size _ _ (.tail _ (.head _)) 0
              have r1 := S8.out.cell w.heap.size _ _ (.tail _ (.head _)) 1 _ rfl
              have g1 := S8.out.frozen w.heap.size _ _ (.tail _ (.head _)) 1
              have r2 := S8.out.cell w.heap.size _ _ (.tail _ (.head _)) 2 _ rfl
              have g2 := S8.out.frozen w.heap.size _ _ (.tail _ (.head _)) 2
              have r3 := S8.out.cell w.heap.size _ _ (.tail _ (.head _)) 3 _ rfl
              have g3 := S8.out.frozen w.heap.size _ _ (.tail _ (.head _)) 3
              have r4 := S8.out.cell w.heap.size _ _ (.tail _ (.head _)) 4 _ rfl
              have g4 := S8.out.frozen w.heap.size _ _ (.tail _ (.head _)) 4
              have r5 := S8.out.cell w.heap.size _ _ (.tail _ (.head _)) 5 _ rfl
              have g5 := S8.out.frozen w.heap.size _ _ (.tail _ (.head _)) 5
              go_wp2_with fail
              have E := Lib.hid (SN.out.set6 w.heap.size _ _ _ _ _ _ 46 (.tail _ (.head _)) (.int .i64 1) (.int .i64 cl) (.int .i64 0) (.int .i64 tn) (.slice A' 3 c') (.slice iA 3 ic) HN8.out (show (64 : TypeId) ≠ 46 by decide))
              have E2 := Lib.hid (SN.out.set6 w.heap.size _ _ _ _ _ _ 46 (.tail _ (.head _)) (.int .i64 1) (.int .i64 cl) (.int .i64 0) (.int .i64 tn) (.slice A' 3 c') (.slice iA 3 ic) HNn.out (show (9 : TypeId) ≠ 46 by decide))
              generalize (((((((w8.setCell ⟨C, 4, none⟩ (.slice A' 3 c')).setCell ⟨w.heap.size, 0, none⟩ (.int .i64 1)).setCell ⟨w.heap.size, 1, none⟩ (.int .i64 cl)).setCell ⟨w.heap.size, 2, none⟩ (.int .i64 0)).setCell ⟨w.heap.size, 3, none⟩ (.int .i64 tn)).setCell ⟨w.heap.size, 4, none⟩ (.slice A' 3 c')).setCell ⟨w.heap.size, 5, none⟩ (.slice iA 3 ic)) = wz at *
              have e0 := E.out.1.cell _ _ _ (.head _) 0 _ rfl
              have e1 := E.out.1.cell _ _ _ (.head _) 1 _ rfl
              have e2 := E.out.1.cell _ _ _ (.head _) 2 _ rfl
              have e3 := E.out.1.cell _ _ _ (.head _) 3 _ rfl
              have e4 := E.out.1.cell _ _ _ (.head _) 4 _ rfl
              have e5 := E.out.1.cell _ _ _ (.head _) 5 _ rfl
              exact bodyPost_ret (v := .agg #[.int .i64 1, .int .i64 cl, .int .i64 0, .int .i64 tn, .slice A' 3 c', .slice iA 3 ic]) (by simp [results, Tryz.results41, go_sem, e0, e1, e2, e3, e4, e5]) rfl ⟨1, cl, 0, tn, A', 3, c', iA, 3, ic, rfl, Lib.hid (of_obj HV.out E.out.2 E2.out.2 (by omega) hcl.out ⟨htn0, htn1⟩), Lib.hid ⟨E.out.1.nm, E.out.1.gr⟩⟩
    · have SK := Lib.hid (S4.out.drop (L' := [(C, #[.int .i64 2, .int .i64 0, .int .i64 0, .int .i64 tn, .slice none 0 0, .slice none 0 0], 46), (w.heap.size, #[.int .i64 0, .int .i64 0, .int .i64 0, .int .i64 0, .slice none 0 0, .slice none 0 0], 46)]) (fun p hp => hp))
      clear S4
      go_wp2_with fail
      refine (next_st SK.out HA.out hB (by omega) HZ.out hl 4 (by omega) (by omega)).mono ?_
      rintro e w5 ⟨n, rfl, hn, S5⟩
      obtain ⟨hn0, hn1⟩ := hn.out
      clear hn
      clear SK
      have k0 := S5.out.cell _ _ _ (.head _) 0 _ rfl
      have k1 := S5.out.cell _ _ _ (.head _) 1 _ rfl
      have k2 := S5.out.cell _ _ _ (.head _) 2 _ rfl
      have k3 := S5.out.cell _ _ _ (.head _) 3 _ rfl
      have k4 := S5.out.cell _ _ _ (.head _) 4 _ rfl
      have k5 := S5.out.cell _ _ _ (.head _) 5 _ rfl
      have f0 := S5.out.frozen _ _ _ (.head _) 0
      have f1 := S5.out.frozen _ _ _ (.head _) 1
      have f2 := S5.out.frozen _ _ _ (.head _) 2
      have f4 := S5.out.frozen _ _ _ (.head _) 4
      have f5 := S5.out.frozen _ _ _ (.head _) 5
      go_wp2_with fail
      clear k0 k1 k2 k3 k4 k5 f0 f1 f2 f4 f5
      have L0 := Lib.hid (Ci.mk (M := m) S5.out ⟨[], VOk.nil m, World.ownsRow_nil _ _ _ _⟩)
      go_wp2_with fail
      go_loopw [7] (fun i wr => ∃ j : Nat, (j : Int) ≤ n ∧ i = .int .i64 j ∧ ∃ iA ic, Hid (Ci m w b A zs.length c C 2 tn (.slice iA j ic) j wr)) (fun i _ => 3 - (intOf i).toNat)
      case atStart => exact ⟨0, by omega, rfl, none, 0, L0⟩
      case round =>
        clear L0 S5
        obtain ⟨j, hj, rfl, iA, ic, hL⟩ := hrel
        by_cases hlt : (j : Int) < n
        · obtain ⟨xs, hv, ho⟩ := hL.out.own
          have HV := Lib.hid hv
          have HO := Lib.hid ho
          have ST := Lib.hid hL.out.st
          clear hv ho hL
          have k5 := ST.out.cell _ _ _ (.head _) 5 _ rfl
          have f5 := ST.out.frozen _ _ _ (.head _) 5
          go_wp2_with fail
          replace ST := Lib.hid ST.out.drew
          replace HO := Lib.hid HO.out.drew
          go_region_law (first
            | (go_simp; go_at_call 64; refine (value_st ST.out HA.out hB (by omega) HZ.out hl m hm hm' HO.out (by decide)).mono ?_; rintro e w6 ⟨k, x, s, rfl, hk, ST6, HO6, hw6⟩; have k5 := ST6.out.cell _ _ _ (.head _) 5 _ rfl; have hw6' := ST6.out.gr.size; have k5b := (ST6.out.alloc #[.int .i64 k, .int .i64 x, .string s] 64).cell C _ _ (.tail _ (.head _)) 5 _ rfl)
            | (refine step_append_lies _ (by rfl) _ _ _ (by rfl) w.heap.size 64 i0 _ 3 32 Tryz.underlying44 hi0 hz0 hz1 hz2 rfl (by omega) (.slice iA j ic) j xs (by rfl) (World.ownsRow.alloc HO6.out _) ⟨w6.heap.size, 0, none⟩ 1 1 [.int .i64 k, .int .i64 x, .string s] (by rfl) (by rfl) (World.news_of_block (cs := #[.int .i64 k, .int .i64 x, .string s]) (t := 64) (fr := (0, 0)) (heap_alloc_new w6 _)) (by simp [Value.oneCell']) (by omega) (by unfold maxLen; omega) (by omega) (by simp; omega) (w6.heap.size + 1) (by simp) ?_; intro g cap w8 hown hgrow _ _; have S8 := Lib.hid (Sn.append ((ST6.out.alloc #[.int .i64 k, .int .i64 x, .string s] 64).drop (L' := [(C, #[.int .i64 2, .int .i64 0, .int .i64 0, .int .i64 tn, .slice none 0 0, .slice iA j ic], 46), (w.heap.size, #[.int .i64 0, .int .i64 0, .int .i64 0, .int .i64 0, .slice none 0 0, .slice none 0 0], 46)]) (fun p hp => .tail _ hp)) (World.ownsRow.alloc HO6.out _) hgrow (by intro p hp; simp at hp; rcases hp with rfl | rfl <;> exact (show (64 : TypeId) ≠ 46 by decide)) (by decide)); have k5 := S8.out.cell _ _ _ (.head _) 5 _ rfl; have f5 := S8.out.frozen _ _ _ (.head _) 5; have HO8 := Lib.hid hown; have HG8 := Lib.hid hgrow; clear hown hgrow))
          all_goals
            have HN := Lib.hid (ci_next S8.out hC HO8.out HV.out hk.out)
            clear k5 f5 k5b
            go_wp2_with fail
            go_roundw
            case rel => exact ⟨j + 1, by omega, by go_num, _, _, HN⟩
            case measure => simp [intOf]; omega
        · have hge : n ≤ (j : Int) := by omega
          obtain ⟨xs, hv, ho⟩ := hL.out.own
          have HV := Lib.hid hv
          have HO := Lib.hid ho
          have ST := Lib.hid hL.out.st
          clear hv ho hL
          have k0 := ST.out.cell _ _ _ (.head _) 0 _ rfl
          have k1 := ST.out.cell _ _ _ (.head _) 1 _ rfl
          have k2 := ST.out.cell _ _ _ (.head _) 2 _ rfl
          have k3 := ST.out.cell _ _ _ (.head _) 3 _ rfl
          have k4 := ST.out.cell _ _ _ (.head _) 4 _ rfl
          have k5 := ST.out.cell _ _ _ (.head _) 5 _ rfl
          have f0 := ST.out.frozen _ _ _ (.head _) 0
          have f1 := ST.out.frozen _ _ _ (.head _) 1
          have f2 := ST.out.frozen _ _ _ (.head _) 2
          have f4 := ST.out.frozen _ _ _ (.head _) 4
          have f5 := ST.out.frozen _ _ _ (.head _) 5
          have r0 := ST.out.cell w.heap.size _ _ (.tail _ (.head _)) 0 _ rfl
          have g0 := ST.out.frozen w.heap.size _ _ (.tail _ (.head _)) 0
          have r1 := ST.out.cell w.heap.size _ _ (.tail _ (.head _)) 1 _ rfl
          have g1 := ST.out.frozen w.heap.size _ _ (.tail _ (.head _)) 1
          have r2 := ST.out.cell w.heap.size _ _ (.tail _ (.head _)) 2 _ rfl
          have g2 := ST.out.frozen w.heap.size _ _ (.tail _ (.head _)) 2
          have r3 := ST.out.cell w.heap.size _ _ (.tail _ (.head _)) 3 _ rfl
          have g3 := ST.out.frozen w.heap.size _ _ (.tail _ (.head _)) 3
          have r4 := ST.out.cell w.heap.size _ _ (.tail _ (.head _)) 4 _ rfl
          have g4 := ST.out.frozen w.heap.size _ _ (.tail _ (.head _)) 4
          have r5 := ST.out.cell w.heap.size _ _ (.tail _ (.head _)) 5 _ rfl
          have g5 := ST.out.frozen w.heap.size _ _ (.tail _ (.head _)) 5
          go_wp2_with fail
          have E := Lib.hid (ST.out.set6 w.heap.size _ _ _ _ _ _ 46 (.tail _ (.head _)) (.int .i64 2) (.int .i64 0) (.int .i64 0) (.int .i64 tn) (.slice none 0 0) (.slice iA j ic) HO.out (show (64 : TypeId) ≠ 46 by decide))
          generalize ((((((wr.setCell ⟨w.heap.size, 0, none⟩ (.int .i64 2)).setCell ⟨w.heap.size, 1, none⟩ (.int .i64 0)).setCell ⟨w.heap.size, 2, none⟩ (.int .i64 0)).setCell ⟨w.heap.size, 3, none⟩ (.int .i64 tn)).setCell ⟨w.heap.size, 4, none⟩ (.slice none 0 0)).setCell ⟨w.heap.size, 5, none⟩ (.slice iA j ic)) = wz at *
          have e0 := E.out.1.cell _ _ _ (.head _) 0 _ rfl
          have e1 := E.out.1.cell _ _ _ (.head _) 1 _ rfl
          have e2 := E.out.1.cell _ _ _ (.head _) 2 _ rfl
          have e3 := E.out.1.cell _ _ _ (.head _) 3 _ rfl
          have e4 := E.out.1.cell _ _ _ (.head _) 4 _ rfl
          have e5 := E.out.1.cell _ _ _ (.head _) 5 _ rfl
          exact bodyPost_ret (v := .agg #[.int .i64 2, .int .i64 0, .int .i64 0, .int .i64 tn, .slice none 0 0, .slice iA j ic]) (by simp [results, Tryz.results41, go_sem, e0, e1, e2, e3, e4, e5]) rfl ⟨2, 0, 0, tn, none, 0, 0, iA, j, ic, rfl, Lib.hid (of_arr HV.out E.out.2 (by omega) ⟨htn0, htn1⟩), Lib.hid ⟨E.out.1.nm, E.out.1.gr⟩⟩
    · have SK := Lib.hid (S4.out.drop (L' := [(C, #[.int .i64 3, .int .i64 0, .int .i64 0, .int .i64 tn, .slice none 0 0, .slice none 0 0], 46), (w.heap.size, #[.int .i64 0, .int .i64 0, .int .i64 0, .int .i64 0, .slice none 0 0, .slice none 0 0], 46)]) (fun p hp => hp))
      clear S4
      go_wp2_with fail
      refine (next_st SK.out HA.out hB (by omega) HZ.out hl 4 (by omega) (by omega)).mono ?_
      rintro e w5 ⟨n, rfl, hn, S5⟩
      obtain ⟨hn0, hn1⟩ := hn.out
      clear hn
      clear SK
      have k0 := S5.out.cell _ _ _ (.head _) 0 _ rfl
      have k1 := S5.out.cell _ _ _ (.head _) 1 _ rfl
      have k2 := S5.out.cell _ _ _ (.head _) 2 _ rfl
      have k3 := S5.out.cell _ _ _ (.head _) 3 _ rfl
      have k4 := S5.out.cell _ _ _ (.head _) 4 _ rfl
      have k5 := S5.out.cell _ _ _ (.head _) 5 _ rfl
      have f0 := S5.out.frozen _ _ _ (.head _) 0
      have f1 := S5.out.frozen _ _ _ (.head _) 1
      have f2 := S5.out.frozen _ _ _ (.head _) 2
      have f4 := S5.out.frozen _ _ _ (.head _) 4
      have f5 := S5.out.frozen _ _ _ (.head _) 5
      go_wp2_with fail
      clear k0 k1 k2 k3 k4 k5 f0 f1 f2 f4 f5
      have L0 := Lib.hid (Ci.mk (M := m) S5.out ⟨[], VOk.nil m, World.ownsRow_nil _ _ _ _⟩)
      go_wp2_with fail
      go_loopw [7] (fun i wr => ∃ j : Nat, (j : Int) ≤ n ∧ i = .int .i64 j ∧ ∃ iA ic, Hid (Ci m w b A zs.length c C 3 tn (.slice iA j ic) j wr)) (fun i _ => 3 - (intOf i).toNat)
      case atStart => exact ⟨0, by omega, rfl, none, 0, L0⟩
      case round =>
        clear L0 S5
        obtain ⟨j, hj, rfl, iA, ic, hL⟩ := hrel
        by_cases hlt : (j : Int) < n
        · obtain ⟨xs, hv, ho⟩ := hL.out.own
          have HV := Lib.hid hv
          have HO := Lib.hid ho
          have ST := Lib.hid hL.out.st
          clear hv ho hL
          have k5 := ST.out.cell _ _ _ (.head _) 5 _ rfl
          have f5 := ST.out.frozen _ _ _ (.head _) 5
          go_wp2_with fail
          replace ST := Lib.hid ST.out.drew
          replace HO := Lib.hid HO.out.drew
          go_region_law (first
            | (go_simp; go_at_call 64; refine (value_st ST.out HA.out hB (by omega) HZ.out hl m hm hm' HO.out (by decide)).mono ?_; rintro e w6 ⟨k, x, s, rfl, hk, ST6, HO6, hw6⟩; have k5 := ST6.out.cell _ _ _ (.head _) 5 _ rfl; have hw6' := ST6.out.gr.size; have k5b := (ST6.out.alloc #[.int .i64 k, .int .i64 x, .string s] 64).cell C _ _ (.tail _ (.head _)) 5 _ rfl)
            | (refine step_append_lies _ (by rfl) _ _ _ (by rfl) w.heap.size 64 i0 _ 3 32 Tryz.underlying44 hi0 hz0 hz1 hz2 rfl (by omega) (.slice iA j ic) j xs (by rfl) (World.ownsRow.alloc HO6.out _) ⟨w6.heap.size, 0, none⟩ 1 1 [.int .i64 k, .int .i64 x, .string s] (by rfl) (by rfl) (World.news_of_block (cs := #[.int .i64 k, .int .i64 x, .string s]) (t := 64) (fr := (0, 0)) (heap_alloc_new w6 _)) (by simp [Value.oneCell']) (by omega) (by unfold maxLen; omega) (by omega) (by simp; omega) (w6.heap.size + 1) (by simp) ?_; intro g cap w8 hown hgrow _ _; have S8 := Lib.hid (Sn.append ((ST6.out.alloc #[.int .i64 k, .int .i64 x, .string s] 64).drop (L' := [(C, #[.int .i64 3, .int .i64 0, .int .i64 0, .int .i64 tn, .slice none 0 0, .slice iA j ic], 46), (w.heap.size, #[.int .i64 0, .int .i64 0, .int .i64 0, .int .i64 0, .slice none 0 0, .slice none 0 0], 46)]) (fun p hp => .tail _ hp)) (World.ownsRow.alloc HO6.out _) hgrow (by intro p hp; simp at hp; rcases hp with rfl | rfl <;> exact (show (64 : TypeId) ≠ 46 by decide)) (by decide)); have k5 := S8.out.cell _ _ _ (.head _) 5 _ rfl; have f5 := S8.out.frozen _ _ _ (.head _) 5; have HO8 := Lib.hid hown; have HG8 := Lib.hid hgrow; clear hown hgrow))
          all_goals
            have HN := Lib.hid (ci_next S8.out hC HO8.out HV.out hk.out)
            clear k5 f5 k5b
            go_wp2_with fail
            go_roundw
            case rel => exact ⟨j + 1, by omega, by go_num, _, _, HN⟩
            case measure => simp [intOf]; omega
        · have hge : n ≤ (j : Int) := by omega
          obtain ⟨xs, hv, ho⟩ := hL.out.own
          have HV := Lib.hid hv
          have HO := Lib.hid ho
          have ST := Lib.hid hL.out.st
          clear hv ho hL
          have k0 := ST.out.cell _ _ _ (.head _) 0 _ rfl
          have k1 := ST.out.cell _ _ _ (.head _) 1 _ rfl
          have k2 := ST.out.cell _ _ _ (.head _) 2 _ rfl
          have k3 := ST.out.cell _ _ _ (.head _) 3 _ rfl
          have k4 := ST.out.cell _ _ _ (.head _) 4 _ rfl
          have k5 := ST.out.cell _ _ _ (.head _) 5 _ rfl
          have f0 := ST.out.frozen _ _ _ (.head _) 0
          have f1 := ST.out.frozen _ _ _ (.head _) 1
          have f2 := ST.out.frozen _ _ _ (.head _) 2
          have f4 := ST.out.frozen _ _ _ (.head _) 4
          have f5 := ST.out.frozen _ _ _ (.head _) 5
          go_wp2_with fail
          refine (next_keep ST.out HA.out hB (by omega) HZ.out hl 3 (by omega) (by omega) HO.out (by decide)).mono ?_
          rintro e w9 ⟨fn, rfl, hfn, S9, HO9⟩
          clear k0 k1 k2 k3 k4 k5 f0 f1 f2 f4 f5
          clear ST HO
          have k0 := S9.out.cell _ _ _ (.head _) 0 _ rfl
          have k1 := S9.out.cell _ _ _ (.head _) 1 _ rfl
          have k2 := S9.out.cell _ _ _ (.head _) 2 _ rfl
          have k3 := S9.out.cell _ _ _ (.head _) 3 _ rfl
          have k4 := S9.out.cell _ _ _ (.head _) 4 _ rfl
          have k5 := S9.out.cell _ _ _ (.head _) 5 _ rfl
          have f0 := S9.out.frozen _ _ _ (.head _) 0
          have f1 := S9.out.frozen _ _ _ (.head _) 1
          have f2 := S9.out.frozen _ _ _ (.head _) 2
          have f4 := S9.out.frozen _ _ _ (.head _) 4
          have f5 := S9.out.frozen _ _ _ (.head _) 5
          have r0 := S9.out.cell w.heap.size _ _ (.tail _ (.head _)) 0 _ rfl
          have g0 := S9.out.frozen w.heap.size _ _ (.tail _ (.head _)) 0
          have r1 := S9.out.cell w.heap.size _ _ (.tail _ (.head _)) 1 _ rfl
          have g1 := S9.out.frozen w.heap.size _ _ (.tail _ (.head _)) 1
          have r2 := S9.out.cell w.heap.size _ _ (.tail _ (.head _)) 2 _ rfl
          have g2 := S9.out.frozen w.heap.size _ _ (.tail _ (.head _)) 2
          have r3 := S9.out.cell w.heap.size _ _ (.tail _ (.head _)) 3 _ rfl
          have g3 := S9.out.frozen w.heap.size _ _ (.tail _ (.head _)) 3
          have r4 := S9.out.cell w.heap.size _ _ (.tail _ (.head _)) 4 _ rfl
          have g4 := S9.out.frozen w.heap.size _ _ (.tail _ (.head _)) 4
          have r5 := S9.out.cell w.heap.size _ _ (.tail _ (.head _)) 5 _ rfl
          have g5 := S9.out.frozen w.heap.size _ _ (.tail _ (.head _)) 5
          have SF := Lib.hid (S9.out.set C _ 46 (.head _) 2 (.int .i64 fn) (L' := [(C, #[.int .i64 3, .int .i64 0, .int .i64 fn, .int .i64 tn, (.slice none 0 0), .slice iA j ic], 46), (w.heap.size, #[.int .i64 0, .int .i64 0, .int .i64 0, .int .i64 0, .slice none 0 0, .slice none 0 0], 46)]) (fun p hp => two_of hp (fun e => by omega)))
          have HF := Lib.hid (own_store HO9.out (S9.out.own _ (.head _)).1 (show (64 : TypeId) ≠ 46 by decide) 2 (.int .i64 fn))
          go_wp2_with fail
          have E := Lib.hid (SF.out.set6 w.heap.size _ _ _ _ _ _ 46 (.tail _ (.head _)) (.int .i64 3) (.int .i64 0) (.int .i64 fn) (.int .i64 tn) (.slice none 0 0) (.slice iA j ic) HF.out (show (64 : TypeId) ≠ 46 by decide))
          generalize (((((((w9.setCell ⟨C, 2, none⟩ (.int .i64 fn)).setCell ⟨w.heap.size, 0, none⟩ (.int .i64 3)).setCell ⟨w.heap.size, 1, none⟩ (.int .i64 0)).setCell ⟨w.heap.size, 2, none⟩ (.int .i64 fn)).setCell ⟨w.heap.size, 3, none⟩ (.int .i64 tn)).setCell ⟨w.heap.size, 4, none⟩ (.slice none 0 0)).setCell ⟨w.heap.size, 5, none⟩ (.slice iA j ic)) = wz at *
          have e0 := E.out.1.cell _ _ _ (.head _) 0 _ rfl
          have e1 := E.out.1.cell _ _ _ (.head _) 1 _ rfl
          have e2 := E.out.1.cell _ _ _ (.head _) 2 _ rfl
          have e3 := E.out.1.cell _ _ _ (.head _) 3 _ rfl
          have e4 := E.out.1.cell _ _ _ (.head _) 4 _ rfl
          have e5 := E.out.1.cell _ _ _ (.head _) 5 _ rfl
          exact bodyPost_ret (v := .agg #[.int .i64 3, .int .i64 0, .int .i64 fn, .int .i64 tn, .slice none 0 0, .slice iA j ic]) (by simp [results, Tryz.results41, go_sem, e0, e1, e2, e3, e4, e5]) rfl ⟨3, 0, fn, tn, none, 0, 0, iA, j, ic, rfl, Lib.hid (of_clo HV.out E.out.2 (by omega) hfn.out ⟨htn0, htn1⟩), Lib.hid ⟨E.out.1.nm, E.out.1.gr⟩⟩
    · have SK := Lib.hid (S4.out.drop (L' := [(C, #[.int .i64 4, .int .i64 0, .int .i64 0, .int .i64 tn, .slice none 0 0, .slice none 0 0], 46), (w.heap.size, #[.int .i64 0, .int .i64 0, .int .i64 0, .int .i64 0, .slice none 0 0, .slice none 0 0], 46)]) (fun p hp => hp))
      clear S4
      go_wp2_with fail
      refine (next_st SK.out HA.out hB (by omega) HZ.out hl 4 (by omega) (by omega)).mono ?_
      rintro e w5 ⟨n, rfl, hn, S5⟩
      obtain ⟨hn0, hn1⟩ := hn.out
      clear hn
      clear SK
      have k0 := S5.out.cell _ _ _ (.head _) 0 _ rfl
      have k1 := S5.out.cell _ _ _ (.head _) 1 _ rfl
      have k2 := S5.out.cell _ _ _ (.head _) 2 _ rfl
      have k3 := S5.out.cell _ _ _ (.head _) 3 _ rfl
      have k4 := S5.out.cell _ _ _ (.head _) 4 _ rfl
      have k5 := S5.out.cell _ _ _ (.head _) 5 _ rfl
      have f0 := S5.out.frozen _ _ _ (.head _) 0
      have f1 := S5.out.frozen _ _ _ (.head _) 1
      have f2 := S5.out.frozen _ _ _ (.head _) 2
      have f4 := S5.out.frozen _ _ _ (.head _) 4
      have f5 := S5.out.frozen _ _ _ (.head _) 5
      go_wp2_with fail
      clear k0 k1 k2 k3 k4 k5 f0 f1 f2 f4 f5
      have L0 := Lib.hid (Ci.mk (M := m) S5.out ⟨[], VOk.nil m, World.ownsRow_nil _ _ _ _⟩)
      go_wp2_with fail
      go_loopw [7] (fun i wr => ∃ j : Nat, (j : Int) ≤ 1 ∧ i = .int .i64 j ∧ ∃ iA ic, Hid (Ci m w b A zs.length c C 4 tn (.slice iA j ic) j wr)) (fun i _ => 3 - (intOf i).toNat)
      case atStart => exact ⟨0, by omega, rfl, none, 0, L0⟩
      case round =>
        clear L0 S5
        obtain ⟨j, hj, rfl, iA, ic, hL⟩ := hrel
        by_cases hlt : (j : Int) < 1
        · obtain ⟨xs, hv, ho⟩ := hL.out.own
          have HV := Lib.hid hv
          have HO := Lib.hid ho
          have ST := Lib.hid hL.out.st
          clear hv ho hL
          have k5 := ST.out.cell _ _ _ (.head _) 5 _ rfl
          have f5 := ST.out.frozen _ _ _ (.head _) 5
          go_wp2_with fail
          replace ST := Lib.hid ST.out.drew
          replace HO := Lib.hid HO.out.drew
          go_region_law (first
            | (go_simp; go_at_call 64; refine (value_st ST.out HA.out hB (by omega) HZ.out hl m hm hm' HO.out (by decide)).mono ?_; rintro e w6 ⟨k, x, s, rfl, hk, ST6, HO6, hw6⟩; have k5 := ST6.out.cell _ _ _ (.head _) 5 _ rfl; have hw6' := ST6.out.gr.size; have k5b := (ST6.out.alloc #[.int .i64 k, .int .i64 x, .string s] 64).cell C _ _ (.tail _ (.head _)) 5 _ rfl)
            | (refine step_append_lies _ (by rfl) _ _ _ (by rfl) w.heap.size 64 i0 _ 3 32 Tryz.underlying44 hi0 hz0 hz1 hz2 rfl (by omega) (.slice iA j ic) j xs (by rfl) (World.ownsRow.alloc HO6.out _) ⟨w6.heap.size, 0, none⟩ 1 1 [.int .i64 k, .int .i64 x, .string s] (by rfl) (by rfl) (World.news_of_block (cs := #[.int .i64 k, .int .i64 x, .string s]) (t := 64) (fr := (0, 0)) (heap_alloc_new w6 _)) (by simp [Value.oneCell']) (by omega) (by unfold maxLen; omega) (by omega) (by simp; omega) (w6.heap.size + 1) (by simp) ?_; intro g cap w8 hown hgrow _ _; have S8 := Lib.hid (Sn.append ((ST6.out.alloc #[.int .i64 k, .int .i64 x, .string s] 64).drop (L' := [(C, #[.int .i64 4, .int .i64 0, .int .i64 0, .int .i64 tn, .slice none 0 0, .slice iA j ic], 46), (w.heap.size, #[.int .i64 0, .int .i64 0, .int .i64 0, .int .i64 0, .slice none 0 0, .slice none 0 0], 46)]) (fun p hp => .tail _ hp)) (World.ownsRow.alloc HO6.out _) hgrow (by intro p hp; simp at hp; rcases hp with rfl | rfl <;> exact (show (64 : TypeId) ≠ 46 by decide)) (by decide)); have k5 := S8.out.cell _ _ _ (.head _) 5 _ rfl; have f5 := S8.out.frozen _ _ _ (.head _) 5; have HO8 := Lib.hid hown; have HG8 := Lib.hid hgrow; clear hown hgrow))
          all_goals
            have HN := Lib.hid (ci_next S8.out hC HO8.out HV.out hk.out)
            clear k5 f5 k5b
            go_wp2_with fail
            go_roundw
            case rel => exact ⟨j + 1, by omega, by go_num, _, _, HN⟩
            case measure => simp [intOf]; omega
        · have hge : 1 ≤ (j : Int) := by omega
          obtain ⟨xs, hv, ho⟩ := hL.out.own
          have HV := Lib.hid hv
          have HO := Lib.hid ho
          have ST := Lib.hid hL.out.st
          clear hv ho hL
          obtain rfl : j = 1 := by omega
          obtain ⟨k, x, s, hx0, hx1, hx2, _⟩ := HV.out.at_ 0 (by omega)
          obtain ⟨g, ic', he, hgb, hgs⟩ := World.ownsRow.form HO.out (by omega)
          simp only [Value.slice.injEq] at he
          obtain ⟨rfl, _, rfl⟩ := he
          have y0 := (World.ownsRow.cellAt HO.out 0 (by omega)).trans hx0
          have y1 := (World.ownsRow.cellAt HO.out 1 (by omega)).trans hx1
          have y2 := (World.ownsRow.cellAt HO.out 2 (by omega)).trans hx2
          have z0 := World.ownsRow.frozenAt HO.out 0
          have z1 := World.ownsRow.frozenAt HO.out 1
          have z2 := World.ownsRow.frozenAt HO.out 2
          have hgC : g ≠ C := fun h => own_ne HO.out (ST.out.own _ (.head _)).1 (show (64 : TypeId) ≠ 46 by decide) (by rw [h]; rfl)
          have hgR : g ≠ w.heap.size := fun h => own_ne HO.out (ST.out.own _ (.tail _ (.head _))).1 (show (64 : TypeId) ≠ 46 by decide) (by rw [h]; rfl)
          have hCg : C ≠ g := fun h => hgC h.symm
          have hRg : w.heap.size ≠ g := fun h => hgR h.symm
          have HX0 := Lib.hid hx0
          clear hx0 hx1 hx2
          have k0 := ST.out.cell _ _ _ (.head _) 0 _ rfl
          have k1 := ST.out.cell _ _ _ (.head _) 1 _ rfl
          have k2 := ST.out.cell _ _ _ (.head _) 2 _ rfl
          have k3 := ST.out.cell _ _ _ (.head _) 3 _ rfl
          have k4 := ST.out.cell _ _ _ (.head _) 4 _ rfl
          have k5 := ST.out.cell _ _ _ (.head _) 5 _ rfl
          have f0 := ST.out.frozen _ _ _ (.head _) 0
          have f1 := ST.out.frozen _ _ _ (.head _) 1
          have f2 := ST.out.frozen _ _ _ (.head _) 2
          have f4 := ST.out.frozen _ _ _ (.head _) 4
          have f5 := ST.out.frozen _ _ _ (.head _) 5
          have r0 := ST.out.cell w.heap.size _ _ (.tail _ (.head _)) 0 _ rfl
          have g0 := ST.out.frozen w.heap.size _ _ (.tail _ (.head _)) 0
          have r1 := ST.out.cell w.heap.size _ _ (.tail _ (.head _)) 1 _ rfl
          have g1 := ST.out.frozen w.heap.size _ _ (.tail _ (.head _)) 1
          have r2 := ST.out.cell w.heap.size _ _ (.tail _ (.head _)) 2 _ rfl
          have g2 := ST.out.frozen w.heap.size _ _ (.tail _ (.head _)) 2
          have r3 := ST.out.cell w.heap.size _ _ (.tail _ (.head _)) 3 _ rfl
          have g3 := ST.out.frozen w.heap.size _ _ (.tail _ (.head _)) 3
          have r4 := ST.out.cell w.heap.size _ _ (.tail _ (.head _)) 4 _ rfl
          have g4 := ST.out.frozen w.heap.size _ _ (.tail _ (.head _)) 4
          have r5 := ST.out.cell w.heap.size _ _ (.tail _ (.head _)) 5 _ rfl
          have g5 := ST.out.frozen w.heap.size _ _ (.tail _ (.head _)) 5
          by_cases hk5 : k = 5
          · have hb : (k != 5) = false := by simp [hk5]
            have HK := Lib.hid hk5
            clear hk5
            go_wp2_with fail
            have E := Lib.hid (ST.out.set6 w.heap.size _ _ _ _ _ _ 46 (.tail _ (.head _)) (.int .i64 4) (.int .i64 0) (.int .i64 0) (.int .i64 tn) (.slice none 0 0) (.slice (some ⟨g, 0, none⟩) 1 ic) HO.out (show (64 : TypeId) ≠ 46 by decide))
            generalize ((((((wr.setCell ⟨w.heap.size, 0, none⟩ (.int .i64 4)).setCell ⟨w.heap.size, 1, none⟩ (.int .i64 0)).setCell ⟨w.heap.size, 2, none⟩ (.int .i64 0)).setCell ⟨w.heap.size, 3, none⟩ (.int .i64 tn)).setCell ⟨w.heap.size, 4, none⟩ (.slice none 0 0)).setCell ⟨w.heap.size, 5, none⟩ (.slice (some ⟨g, 0, none⟩) 1 ic)) = wz at *
            have e0 := E.out.1.cell _ _ _ (.head _) 0 _ rfl
            have e1 := E.out.1.cell _ _ _ (.head _) 1 _ rfl
            have e2 := E.out.1.cell _ _ _ (.head _) 2 _ rfl
            have e3 := E.out.1.cell _ _ _ (.head _) 3 _ rfl
            have e4 := E.out.1.cell _ _ _ (.head _) 4 _ rfl
            have e5 := E.out.1.cell _ _ _ (.head _) 5 _ rfl
            exact bodyPost_ret (v := .agg #[.int .i64 4, .int .i64 0, .int .i64 0, .int .i64 tn, .slice none 0 0, .slice (some ⟨g, 0, none⟩) 1 ic]) (by simp [results, Tryz.results41, go_sem, e0, e1, e2, e3, e4, e5]) rfl ⟨4, 0, 0, tn, none, 0, 0, some ⟨g, 0, none⟩, 1, ic, rfl, Lib.hid (of_weak HV.out E.out.2 (by rw [← HK.out]; exact HX0.out) ⟨htn0, htn1⟩), Lib.hid ⟨E.out.1.nm, E.out.1.gr⟩⟩
          · have hb : (k != 5) = true := by simp [hk5]
            have O3 := Lib.hid (own_three HO.out (.int .i64 1) (.int .i64 0) (.string ⟨#[]⟩))
            have S3 := Lib.hid (ST.out.grown O3.out.2 (fun g' e => by injection e with e; omega) (fun p hp => by
              simp only [List.mem_cons, List.not_mem_nil, or_false] at hp
              rcases hp with rfl | rfl
              · exact fun e => by injection e with e; exact hCg e
              · exact fun e => by injection e with e; exact hRg e) (own_ne HO.out (ST.out.nm.choose_spec.2) (show (64 : TypeId) ≠ 89 by decide)))
            have OW := Lib.hid O3.out.1
            have HLx := Lib.hid HO.out.1
            clear O3
            go_wp2_with fail
            have E := Lib.hid (S3.out.set6 w.heap.size _ _ _ _ _ _ 46 (.tail _ (.head _)) (.int .i64 4) (.int .i64 0) (.int .i64 0) (.int .i64 tn) (.slice none 0 0) (.slice (some ⟨g, 0, none⟩) 1 ic) OW.out (show (64 : TypeId) ≠ 46 by decide))
            generalize (((((((((wr.setCell ⟨g, 0, none⟩ (.int .i64 1)).setCell ⟨g, 1, none⟩ (.int .i64 0)).setCell ⟨g, 2, none⟩ (.string ⟨#[]⟩)).setCell ⟨w.heap.size, 0, none⟩ (.int .i64 4)).setCell ⟨w.heap.size, 1, none⟩ (.int .i64 0)).setCell ⟨w.heap.size, 2, none⟩ (.int .i64 0)).setCell ⟨w.heap.size, 3, none⟩ (.int .i64 tn)).setCell ⟨w.heap.size, 4, none⟩ (.slice none 0 0)).setCell ⟨w.heap.size, 5, none⟩ (.slice (some ⟨g, 0, none⟩) 1 ic)) = wz at *
            have e0 := E.out.1.cell _ _ _ (.head _) 0 _ rfl
            have e1 := E.out.1.cell _ _ _ (.head _) 1 _ rfl
            have e2 := E.out.1.cell _ _ _ (.head _) 2 _ rfl
            have e3 := E.out.1.cell _ _ _ (.head _) 3 _ rfl
            have e4 := E.out.1.cell _ _ _ (.head _) 4 _ rfl
            have e5 := E.out.1.cell _ _ _ (.head _) 5 _ rfl
            exact bodyPost_ret (v := .agg #[.int .i64 4, .int .i64 0, .int .i64 0, .int .i64 tn, .slice none 0 0, .slice (some ⟨g, 0, none⟩) 1 ic]) (by simp [results, Tryz.results41, go_sem, e0, e1, e2, e3, e4, e5]) rfl ⟨4, 0, 0, tn, none, 0, 0, some ⟨g, 0, none⟩, 1, ic, rfl, Lib.hid (of_none HLx.out E.out.2 ⟨htn0, htn1⟩), Lib.hid ⟨E.out.1.nm, E.out.1.gr⟩⟩
end Go.Proofs.YtkdpcnikgdbmaaaGreatDoor.Ac
