/-
  The walk of ValueStrings.
-/
import Derived.Test.YtibjhcgfjhbgoaaDoorSt
import Derived.RegionTactic
import Derived.Deep.RegionHeld3
import Derived.Deep.DeepCutAuto
namespace Go.Proofs.YtibjhcgfjhbgoaaDoor.Va
open Go Go.RowKit Mp

theorem letter_of (c : Int) (_h : 0 ≤ c) : ∃ l : UInt8, 97 + c % 26 = (l.toNat : Int) ∧ low l := by
  have h1 : 0 ≤ c % 26 ∧ c % 26 < 26 := by omega
  refine ⟨UInt8.ofNat (97 + c % 26).toNat, ?_, ?_⟩
  · rw [UInt8.toNat_ofNat']; omega
  · unfold low; rw [UInt8.toNat_ofNat']; omega
def strLen : Option Value → Nat
  | some (.string s) => s.size
  | _ => 0
set_option maxRecDepth 5000 in
set_option maxHeartbeats 8000000 in
theorem strings_walk (n0 n1 c0 c1 : Int) (hn0 : 0 ≤ n0 ∧ n0 ≤ 255) (hn1 : 0 ≤ n1 ∧ n1 ≤ 255) (hc0 : 0 ≤ c0 ∧ c0 ≤ 255) (hc1 : 0 ≤ c1 ∧ c1 ≤ 255) (w : World) (hG : Gl w) :
    Calls Tryd.prog 3 #[.agg #[.int .u8 n0, .int .u8 n1], .agg #[.int .u8 c0, .int .u8 c1]] w fun e w' => e = .returned (.bool true) ∧ Below w.heap.size w w' := by
  obtain ⟨x1, x2⟩ := hn0
  obtain ⟨y1, y2⟩ := hn1
  obtain ⟨u1, u2⟩ := hc0
  obtain ⟨v1, v2⟩ := hc1
  have hs := Lib.hid (((Sx.init hG).add #[.int .u8 n0, .int .u8 n1] 22).add #[.int .u8 c0, .int .u8 c1] 22)
  have GW := Lib.hid hG
  clear hG
  go_enter Tryd.func3, Tryd.ntmps3
  go_wp2_with fail
  refine (sanity_any _ hs.out.gl).mono ?_
  rintro e w1 ⟨rfl, hb⟩
  replace hs := Lib.hid (hs.out.step hb)
  clear hb
  simp only [World.size_alloc] at hs
  have hz := hs.out.lt _ _ _ (.head _)
  go_wp2_with fail
  replace hs := Lib.hid (hs.out.add #[.string ⟨#[]⟩, .string ⟨#[]⟩] 24)
  obtain ⟨wo, hwo⟩ : ∃ wo : World, wo = w1.alloc (.cells #[.string ⟨#[]⟩, .string ⟨#[]⟩] 24) := ⟨_, rfl⟩
  rw [← hwo] at hs ⊢
  obtain ⟨B, hB⟩ : ∃ B : Nat, B = w1.heap.size := ⟨_, rfl⟩
  rw [← hB] at hs hz ⊢
  clear hwo hB
  obtain ⟨p, hp⟩ : ∃ p : Nat, n0 % 210 = p := ⟨(n0 % 210).toNat, by omega⟩
  obtain ⟨q, hq⟩ : ∃ q : Nat, n1 % 210 = q := ⟨(n1 % 210).toNat, by omega⟩
  obtain ⟨c, hc, lc⟩ := letter_of c0 u1
  obtain ⟨d, hd, ld⟩ := letter_of c1 v1
  have HP := Lib.hid hp
  have HQ := Lib.hid hq
  have HC := Lib.hid hc
  have HD := Lib.hid hd
  have LC := Lib.hid lc
  have LD := Lib.hid ld
  have HZ := Lib.hid hz
  clear hp hq hc hd lc ld hz
  go_loopw [17] (fun i wr => (i = .int .i64 0 ∧ Hid (Sx w [(B, #[.string ⟨#[]⟩, .string ⟨#[]⟩], 24), (w.heap.size + 1, #[.int .u8 c0, .int .u8 c1], 22), (w.heap.size, #[.int .u8 n0, .int .u8 n1], 22)] wr)) ∨ (i = .int .i64 1 ∧ Hid (Sx w [(B, #[.string (rep p c), .string ⟨#[]⟩], 24), (w.heap.size + 1, #[.int .u8 c0, .int .u8 c1], 22), (w.heap.size, #[.int .u8 n0, .int .u8 n1], 22)] wr)) ∨ (i = .int .i64 2 ∧ Hid (Sx w [(B, #[.string (rep p c), .string (rep q d)], 24), (w.heap.size + 1, #[.int .u8 c0, .int .u8 c1], 22), (w.heap.size, #[.int .u8 n0, .int .u8 n1], 22)] wr))) (fun i _ => 2 - (intOf i).toNat)
  case atStart => exact .inl ⟨rfl, hs⟩
  case round =>
    clear hs
    rcases hrel with ⟨rfl, hs⟩ | ⟨rfl, hs⟩ | ⟨rfl, hs⟩
    · go_wp2_with fail
      go_loopw [29] (fun _ wr => ∃ m : Nat, m ≤ p ∧ Hid (Sx w [(B, #[.string (rep m c), .string ⟨#[]⟩], 24), (w.heap.size + 1, #[.int .u8 c0, .int .u8 c1], 22), (w.heap.size, #[.int .u8 n0, .int .u8 n1], 22)] wr)) (fun _ wr => p - strLen (wr.cell? ⟨B, 0, none⟩))
      case atStart => exact ⟨0, Nat.zero_le _, hs⟩
      case round =>
        clear hs
        obtain ⟨m, hm, hs⟩ := hrel
        have hsz := Lib.hid (rep_size m c)
        have HR := Lib.hid (rep_succ m c)
        generalize hra : rep m c = a at *
        have HA := Lib.hid hra
        clear hra
        obtain ⟨b0, b1⟩ := hs.out.c2 B _ _ _ (.head _)
        obtain ⟨e0, e1⟩ := hs.out.c2 w.heap.size _ _ _ (.tail _ (.tail _ (.head _)))
        have hold := Lib.hid (show strLen (wr.cell? ⟨B, 0, none⟩) = m by rw [b0]; exact hsz.out)
        go_wp2_with fail
        go_quiet (fail)
        replace hs := Lib.hid (hs.out.step (below_drewN (Below.refl _ _) nq))
        clear b0 b1 e0 e1
        rcases Nat.lt_or_ge m p with hlt | hge
        · have g : (a.size : Int) < n0 % 210 := by rw [hsz.out, HP.out]; omega
          generalize wr.drewN nq = wz at *
          obtain ⟨b0, b1⟩ := hs.out.c2 B _ _ _ (.head _)
          obtain ⟨f0, f1⟩ := hs.out.c2 (w.heap.size + 1) _ _ _ (.tail _ (.head _))
          have bl := hs.out.lt B _ _ (.head _)
          have bf := (hs.out.own _ (.head _)).frozen
          have fl := hs.out.lt (w.heap.size + 1) _ _ (.tail _ (.head _))
          simp only at bf
          have nb := World.new_ne _ _ b0
          have nf := World.new_ne _ _ f0
          go_wp2_with fail
          have hcv := conv1 wz (97 + c0 % 26) c HC.out
          go_region
          go_wp2_with fail
          replace hs := Lib.hid ((Sx.put GW.out hs.out B _ _ (.head _) (by have := HZ.out; omega) 0 (.string (a ++ ⟨#[c]⟩)) (L' := [(B, #[.string (a ++ ⟨#[c]⟩), .string ⟨#[]⟩], 24), (w.heap.size + 1, #[.int .u8 c0, .int .u8 c1], 22), (w.heap.size, #[.int .u8 n0, .int .u8 n1], 22)]) (fun x hx => by
            simp only [List.mem_cons, List.not_mem_nil, or_false] at hx
            have := HZ.out
            rcases hx with rfl | rfl | rfl
            · exact .inl rfl
            · exact .inr ⟨.tail _ (.head _), by simp only; omega⟩
            · exact .inr ⟨.tail _ (.tail _ (.head _)), by simp only; omega⟩)).alloc (.cells #[.int .u8 (97 + c0 % 26)] 5)).drew
          have hnew : strLen (((wz.setCell ⟨B, 0, none⟩ (.string (a ++ ⟨#[c]⟩))).alloc (.cells #[.int .u8 (97 + c0 % 26)] 5)).drew.cell? ⟨B, 0, none⟩) = m + 1 := by
            rw [(hs.out.c2 B _ _ _ (.head _)).1, HR.out]; exact rep_size _ _
          rw [HR.out] at hs hnew ⊢
          refine ⟨⟨m + 1, by omega, hs⟩, ?_⟩
          rw [hnew, hold.out]; omega
        · have g : n0 % 210 ≤ (a.size : Int) := by rw [hsz.out, HP.out]; omega
          obtain rfl : m = p := by omega
          rw [← HA.out] at hs
          go_wp2_with fail
          exact ⟨.inr (.inl ⟨rfl, hs⟩), by simp [intOf]⟩
    · go_wp2_with fail
      go_loopw [29] (fun _ wr => ∃ m : Nat, m ≤ q ∧ Hid (Sx w [(B, #[.string (rep p c), .string (rep m d)], 24), (w.heap.size + 1, #[.int .u8 c0, .int .u8 c1], 22), (w.heap.size, #[.int .u8 n0, .int .u8 n1], 22)] wr)) (fun _ wr => q - strLen (wr.cell? ⟨B, 1, none⟩))
      case atStart => exact ⟨0, Nat.zero_le _, hs⟩
      case round =>
        clear hs
        obtain ⟨m, hm, hs⟩ := hrel
        have hsz := Lib.hid (rep_size m d)
        have HR := Lib.hid (rep_succ m d)
        generalize hra : rep m d = a at *
        have HA := Lib.hid hra
        clear hra
        obtain ⟨b0, b1⟩ := hs.out.c2 B _ _ _ (.head _)
        obtain ⟨e0, e1⟩ := hs.out.c2 w.heap.size _ _ _ (.tail _ (.tail _ (.head _)))
        have hold := Lib.hid (show strLen (wr.cell? ⟨B, 1, none⟩) = m by rw [b1]; exact hsz.out)
        go_wp2_with fail
        go_quiet (fail)
        replace hs := Lib.hid (hs.out.step (below_drewN (Below.refl _ _) nq))
        clear b0 b1 e0 e1
        rcases Nat.lt_or_ge m q with hlt | hge
        · have g : (a.size : Int) < n1 % 210 := by rw [hsz.out, HQ.out]; omega
          generalize wr.drewN nq = wz at *
          obtain ⟨b0, b1⟩ := hs.out.c2 B _ _ _ (.head _)
          obtain ⟨f0, f1⟩ := hs.out.c2 (w.heap.size + 1) _ _ _ (.tail _ (.head _))
          have bl := hs.out.lt B _ _ (.head _)
          have bf := (hs.out.own _ (.head _)).frozen
          have fl := hs.out.lt (w.heap.size + 1) _ _ (.tail _ (.head _))
          simp only at bf
          have nb := World.new_ne _ _ b0
          have nf := World.new_ne _ _ f0
          go_wp2_with fail
          have hcv := conv1 wz (97 + c1 % 26) d HD.out
          go_region
          go_wp2_with fail
          replace hs := Lib.hid ((Sx.put GW.out hs.out B _ _ (.head _) (by have := HZ.out; omega) 1 (.string (a ++ ⟨#[d]⟩)) (L' := [(B, #[.string (rep p c), .string (a ++ ⟨#[d]⟩)], 24), (w.heap.size + 1, #[.int .u8 c0, .int .u8 c1], 22), (w.heap.size, #[.int .u8 n0, .int .u8 n1], 22)]) (fun x hx => by
            simp only [List.mem_cons, List.not_mem_nil, or_false] at hx
            have := HZ.out
            rcases hx with rfl | rfl | rfl
            · exact .inl rfl
            · exact .inr ⟨.tail _ (.head _), by simp only; omega⟩
            · exact .inr ⟨.tail _ (.tail _ (.head _)), by simp only; omega⟩)).alloc (.cells #[.int .u8 (97 + c1 % 26)] 5)).drew
          have hnew : strLen (((wz.setCell ⟨B, 1, none⟩ (.string (a ++ ⟨#[d]⟩))).alloc (.cells #[.int .u8 (97 + c1 % 26)] 5)).drew.cell? ⟨B, 1, none⟩) = m + 1 := by
            rw [(hs.out.c2 B _ _ _ (.head _)).2, HR.out]; exact rep_size _ _
          rw [HR.out] at hs hnew ⊢
          refine ⟨⟨m + 1, by omega, hs⟩, ?_⟩
          rw [hnew, hold.out]; omega
        · have g : n1 % 210 ≤ (a.size : Int) := by rw [hsz.out, HQ.out]; omega
          obtain rfl : m = q := by omega
          rw [← HA.out] at hs
          go_wp2_with fail
          exact ⟨.inr (.inr ⟨rfl, hs⟩), by simp [intOf]⟩
    · have hap := rep_size p c
      have hbq := rep_size q d
      have K1 := Lib.hid (cat_type p q c d LC.out LD.out)
      have K2 := Lib.hid (cat_range p q c d LC.out LD.out)
      have K3 := Lib.hid (cat_yes p q c d LC.out LD.out)
      have K4 := Lib.hid (less_cat p q c d LC.out LD.out)
      have K5 := Lib.hid (right_two p q c d)
      generalize rep p c = a at *
      generalize rep q d = b at *
      have HA := Lib.hid hap
      have HB := Lib.hid hbq
      clear hap hbq
      have TX : Hid (∀ (s : ByteArray) (w : World), Calls Tryd.prog 5 #[.string s] w fun e w' => e = .returned (.agg #[.int .i64 4, .int .i64 0, .string s]) ∧ Below w.heap.size w w') := lawText_any
      go_upto_region 9 with fail
      go_cut [8, 9] (fun p q wc => ∃ A D : Nat, p = .pointer (some ⟨A, 0, none⟩) ∧ q = .pointer (some ⟨D, 0, none⟩) ∧ Hid (Sx w [(A, #[.int .i64 4, .int .i64 0, .string a], 27), (D, #[.int .i64 4, .int .i64 0, .string b], 27), (B, #[.string a, .string b], 24)] wc))
      case first =>
        obtain ⟨c0, c1⟩ := hs.out.c2 B (.string a) (.string b) 24 (by simp)
        have n0 := hs.out.lt B #[.string a, .string b] 24 (by simp)
        have m0 := HZ.out
        have n2 : ¬ B = wr.heap.size := by omega
        have n3 : ¬ B = wr.heap.size + 1 := by omega
        go_region_held3 (fun w' => w'.cell? ⟨B, 0, none⟩ = some (.string a) ∧ w'.cell? ⟨B, 1, none⟩ = some (.string b)) (first | (with_reducible exact ⟨c0, c1⟩) | (refine ⟨?_, ?_⟩ <;> (repeat (first | (with_reducible exact c0) | (with_reducible exact c1) | (with_reducible refine keepD ?_) | (with_reducible refine keepA ?_ _) | ((with_reducible refine keepT ?_ ?_); (· first | omega | (dsimp only; omega))))) <;> done) | (refine ⟨?_, ?_⟩ <;> go_keep)) ((go_at_call 5; (with_reducible refine (TX.out _ _).mono ?_); rintro e w' ⟨rfl, hb⟩; (first | (with_reducible replace hs := Lib.hid (hs.out.step hb)) | (with_reducible replace hs := Lib.hid ((hs.out.add #[.int .i64 0, .int .i64 0, .string ⟨#[]⟩] 27).step hb)) | (with_reducible replace hs := Lib.hid (((hs.out.add #[.int .i64 0, .int .i64 0, .string ⟨#[]⟩] 27).add #[.int .i64 0, .int .i64 0, .string ⟨#[]⟩] 27).step hb)) | (with_reducible replace hs := Lib.hid (hs.out.drew.step hb)) | (with_reducible replace hs := Lib.hid ((hs.out.add #[.int .i64 0, .int .i64 0, .string ⟨#[]⟩] 27).drew.step hb)) | (with_reducible replace hs := Lib.hid (((hs.out.add #[.int .i64 0, .int .i64 0, .string ⟨#[]⟩] 27).add #[.int .i64 0, .int .i64 0, .string ⟨#[]⟩] 27).drew.step hb))); clear hb; clear c0 c1; (try simp only [World.size_alloc] at hs); (have n0 := hs.out.lt B #[.string a, .string b] 24 (by simp); have n2 : ¬ B = w'.heap.size := (by omega); have n3 : ¬ B = w'.heap.size + 1 := (by omega)); (try obtain ⟨y0, y1, y2, yf, yl⟩ := (hs.out.own (_, #[.int .i64 0, .int .i64 0, .string ⟨#[]⟩], 27) (.head _)).facts); (try obtain ⟨x0, x1, x2, xf, xl⟩ := (hs.out.own (_, #[.int .i64 0, .int .i64 0, .string ⟨#[]⟩], 27) (.tail _ (.head _))).facts); obtain ⟨c0, c1⟩ := hs.out.c2 B (.string a) (.string b) 24 (by simp)))
        all_goals (go_wp2_with fail)
        all_goals go_meet
        all_goals (refine ⟨_, _, rfl, rfl, Lib.hid ?_⟩)
        all_goals first
          | (with_reducible refine Sx.zeroR hs.out _ ?_ _ _ _)
          | (with_reducible refine (Sx.zeroR hs.out _ ?_ _ _ _).swapR)
          | (with_reducible refine Sx.oneR GW.out hs.out _ ?_ _ (.int .i64 0) (.int .i64 0) (.string ⟨#[]⟩) _ _ _ _ _ ?_ ?_ ?_)
          | (with_reducible refine (Sx.oneR GW.out hs.out _ ?_ _ (.int .i64 0) (.int .i64 0) (.string ⟨#[]⟩) _ _ _ _ _ ?_ ?_ ?_).swapR)
          | (with_reducible refine Sx.twoR GW.out hs.out _ ?_ _ _ (.int .i64 0) (.int .i64 0) (.string ⟨#[]⟩) _ _ _ _ _ _ _ ?_ ?_ ?_ ?_ ?_ ?_)
        all_goals first
          | omega
          | simp
          | decide
      case rest =>
      clear hs
      obtain ⟨A, D, rfl, rfl, hs⟩ := hcut
      have ha : (a.size : Int) = p := by rw [HA.out]
      have hb : (b.size : Int) = q := by rw [HB.out]
      have la : a.size ≤ maxLen := by rw [HA.out]; unfold maxLen; have := HP.out; omega
      have lb : b.size ≤ maxLen := by rw [HB.out]; unfold maxLen; have := HQ.out; omega
      have lab : (a ++ b).size ≤ maxLen := by rw [app_size, HA.out, HB.out]; unfold maxLen; have := HP.out; have := HQ.out; omega
      have CB := Lib.hid (fun w hB => binary_any 14 (4, 0, a) (4, 0, b) w hB la lb)
      have CL := Lib.hid (fun w hB => binary_any 10 (4, 0, a) (4, 0, a ++ b) w hB la lab)
      have CR := Lib.hid (fun h w hB => right_at 4 0 (a ++ b) false (K5.out h) lab w hB)
      have SA := Lib.hid ha
      have SB := Lib.hid hb
      clear ha hb la lb lab K5
      obtain ⟨a0, a1, a2⟩ := hs.out.c3 A _ _ _ _ (.head _)
      obtain ⟨d0, d1, d2⟩ := hs.out.c3 D _ _ _ _ (.tail _ (.head _))
      rcases (show 200 < p ∨ (p ≤ 200 ∧ 200 < q) ∨ (p ≤ 200 ∧ q ≤ 200 ∧ 200 < p + q) ∨ p + q ≤ 200 by omega) with h | h | h | h
      · have E := Lib.hid (K1.out (.inl h))
        go_wp2_with fail
        refine (CB.out _ hs.out.gl.bnds).mono ?_
        rw [E.out]
        rintro e v1 ⟨rfl, hb⟩
        replace hs := Lib.hid (hs.out.step hb)
        clear hb a0 a1 a2 d0 d1 d2
        unfold z3 typeS V3.val vv es
        simp only
        replace hs := Lib.hid (hs.out.add #[.int .i64 0, .int .i64 0, .string ⟨#[]⟩] 27)
        obtain ⟨b0, b1⟩ := hs.out.c2 B _ _ _ (.tail _ (.tail _ (.tail _ (.head _))))
        obtain ⟨e0, e1, e2⟩ := hs.out.c3 v1.heap.size _ _ _ _ (.head _)
        have g : (200 : Int) < a.size := by rw [SA.out]; omega
        have hv := run_vrefl 0 0 ⟨#[]⟩
        have gs : a.size + b.size ≤ 1000 := by rw [HA.out, HB.out]; have := HP.out; have := HQ.out; omega
        go_wp2_with fail
        refine (TX.out _ _).mono ?_
        rintro e v2 ⟨rfl, hb⟩
        replace hs := Lib.hid (hs.out.step hb)
        clear hb
        go_wp2_with fail
        refine (CR.out (.inl h) _ hs.out.gl.bnds).mono ?_
        rintro e v3 ⟨rfl, hb⟩
        replace hs := Lib.hid (hs.out.step hb)
        clear hb
        go_wp2_with fail
        go_ret
        exact ⟨rfl, hs.out.be⟩
      · have E := Lib.hid (K1.out (.inr h.2))
        go_wp2_with fail
        refine (CB.out _ hs.out.gl.bnds).mono ?_
        rw [E.out]
        rintro e v1 ⟨rfl, hb⟩
        replace hs := Lib.hid (hs.out.step hb)
        clear hb a0 a1 a2 d0 d1 d2
        unfold z3 typeS V3.val vv es
        simp only
        replace hs := Lib.hid (hs.out.add #[.int .i64 0, .int .i64 0, .string ⟨#[]⟩] 27)
        obtain ⟨b0, b1⟩ := hs.out.c2 B _ _ _ (.tail _ (.tail _ (.tail _ (.head _))))
        obtain ⟨e0, e1, e2⟩ := hs.out.c3 v1.heap.size _ _ _ _ (.head _)
        have g : (a.size : Int) ≤ 200 := by rw [SA.out]; omega
        have g2 : (200 : Int) < b.size := by rw [SB.out]; omega
        have hv := run_vrefl 0 0 ⟨#[]⟩
        have gs : a.size + b.size ≤ 1000 := by rw [HA.out, HB.out]; have := HP.out; have := HQ.out; omega
        go_wp2_with fail
        refine (TX.out _ _).mono ?_
        rintro e v2 ⟨rfl, hb⟩
        replace hs := Lib.hid (hs.out.step hb)
        clear hb
        go_wp2_with fail
        refine (CR.out (.inr h.2) _ hs.out.gl.bnds).mono ?_
        rintro e v3 ⟨rfl, hb⟩
        replace hs := Lib.hid (hs.out.step hb)
        clear hb
        go_wp2_with fail
        go_ret
        exact ⟨rfl, hs.out.be⟩
      · have E := Lib.hid (K2.out h.1 h.2.1 h.2.2)
        go_wp2_with fail
        refine (CB.out _ hs.out.gl.bnds).mono ?_
        rw [E.out]
        rintro e v1 ⟨rfl, hb⟩
        replace hs := Lib.hid (hs.out.step hb)
        clear hb a0 a1 a2 d0 d1 d2
        unfold z3 rangeS V3.val vv es
        simp only
        replace hs := Lib.hid (hs.out.add #[.int .i64 0, .int .i64 0, .string ⟨#[]⟩] 27)
        obtain ⟨b0, b1⟩ := hs.out.c2 B _ _ _ (.tail _ (.tail _ (.tail _ (.head _))))
        obtain ⟨e0, e1, e2⟩ := hs.out.c3 v1.heap.size _ _ _ _ (.head _)
        have g : (a.size : Int) ≤ 200 := by rw [SA.out]; omega
        have g2 : (b.size : Int) ≤ 200 := by rw [SB.out]; omega
        have g3 : (200 : Int) < (a.size : Int) + b.size := by rw [SA.out, SB.out]; omega
        have hv := run_vrefl 0 0 ⟨#[]⟩
        go_wp2_with fail
        go_ret
        exact ⟨rfl, hs.out.be⟩
      · have E := Lib.hid (K3.out h)
        go_wp2_with fail
        refine (CB.out _ hs.out.gl.bnds).mono ?_
        rw [E.out]
        rintro e v1 ⟨rfl, hb⟩
        replace hs := Lib.hid (hs.out.step hb)
        clear hb a0 a1 a2 d0 d1 d2
        unfold V3.val vv es
        simp only
        replace hs := Lib.hid (hs.out.add #[.int .i64 4, .int .i64 0, .string (a ++ b)] 27)
        obtain ⟨b0, b1⟩ := hs.out.c2 B _ _ _ (.tail _ (.tail _ (.tail _ (.head _))))
        obtain ⟨e0, e1, e2⟩ := hs.out.c3 v1.heap.size _ _ _ _ (.head _)
        have g : (a.size : Int) ≤ 200 := by rw [SA.out]; omega
        have g2 : (b.size : Int) ≤ 200 := by rw [SB.out]; omega
        have g3 : (a.size : Int) + b.size ≤ 200 := by rw [SA.out, SB.out]; omega
        obtain ⟨a0, a1, a2⟩ := hs.out.c3 A _ _ _ _ (.tail _ (.head _))
        have e4 := K4.out h
        generalize hy : decide (0 < (q : Int)) = yes at e4
        have E4 := Lib.hid e4
        have HY := Lib.hid hy
        clear e4 hy
        go_wp2_with fail
        refine (CL.out _ hs.out.gl.bnds).mono ?_
        rw [E4.out]
        rintro e v2 ⟨rfl, hb⟩
        replace hs := Lib.hid (hs.out.step hb)
        clear hb a0 a1 a2 b0 b1 e0 e1 e2
        have CT := Lib.hid (fun w hB => truth3_any (b3 yes) w hB es_le)
        rw [truth_b3s] at CT
        replace CT : Hid (∀ w, Bnds w → Calls Tryd.prog 8 #[.agg #[.int .i64 2, .int .i64 (bi yes), .string ⟨#[]⟩]] w fun e w' => e = .returned (.tuple #[.bool yes, .bool true]) ∧ Below w.heap.size w w') := CT
        unfold b3 V3.val vv es
        simp only
        replace hs := Lib.hid (hs.out.add #[.int .i64 2, .int .i64 (bi yes), .string ⟨#[]⟩] 27)
        obtain ⟨e0, e1, e2⟩ := hs.out.c3 v2.heap.size _ _ _ _ (.head _)
        go_wp2_with fail
        refine (CT.out _ hs.out.gl.bnds).mono ?_
        rintro e v3 ⟨rfl, hb⟩
        replace hs := Lib.hid (hs.out.step hb)
        clear hb e0 e1 e2
        have hv := run_vrefl 4 0 (a ++ b)
        have gs : a.size + b.size ≤ 200 := by rw [HA.out, HB.out]; omega
        have gs3 : ¬ a.size + b.size > 9223372036854775807 := by rw [HA.out, HB.out]; omega
        have hq : yes = true ∧ (0 : Int) < b.size ∨ yes = false ∧ (b.size : Int) ≤ 0 := by
          rw [SB.out, ← HY.out]
          by_cases h0 : (0 : Int) < q
          · exact .inl ⟨by simpa using h0, h0⟩
          · exact .inr ⟨by simpa using h0, by omega⟩
        clear E E4 CB CL CR CT K1 K2 K3 K4
        go_upto_region 17 with fail
        obtain ⟨e0, e1, e2⟩ := hs.out.c3 v1.heap.size _ _ _ _ (.tail _ (.head _))
        obtain ⟨b0, b1⟩ := hs.out.c2 B _ _ _ (.tail _ (.tail _ (.tail _ (.tail _ (.head _)))))
        rcases hq with ⟨rfl, g5⟩ | ⟨rfl, g5⟩
        all_goals
          go_region_held3 (fun w' => w'.cell? ⟨v1.heap.size, 0, none⟩ = some (.int .i64 4) ∧ w'.cell? ⟨v1.heap.size, 1, none⟩ = some (.int .i64 0) ∧ w'.cell? ⟨v1.heap.size, 2, none⟩ = some (.string (a ++ b)) ∧ w'.cell? ⟨B, 0, none⟩ = some (.string a) ∧ w'.cell? ⟨B, 1, none⟩ = some (.string b)) (first | (with_reducible exact ⟨e0, e1, e2, b0, b1⟩) | (refine ⟨?_, ?_, ?_, ?_, ?_⟩ <;> (repeat (first | (with_reducible assumption) | (with_reducible refine keepD ?_) | (with_reducible refine keepA ?_ _))) <;> done)) ((go_at_call 5; (with_reducible refine (TX.out _ _).mono ?_); rintro e w' ⟨rfl, hb⟩; (first | (with_reducible replace hs := Lib.hid (hs.out.step hb)) | (with_reducible replace hs := Lib.hid (hs.out.drew.step hb))); clear hb; clear e0 e1 e2 b0 b1; obtain ⟨e0, e1, e2⟩ := hs.out.c3 v1.heap.size _ _ _ _ (.tail _ (.head _)); obtain ⟨b0, b1⟩ := hs.out.c2 B _ _ _ (.tail _ (.tail _ (.tail _ (.tail _ (.head _)))))))
          all_goals (go_wp2_with fail)
          all_goals go_ret
          all_goals first
            | exact ⟨ret_bool (decide_eq_true (p := 0 < b.size) (by omega)), hs.out.be⟩
            | exact ⟨ret_bool (show (!decide (0 < b.size)) = true by rw [decide_eq_false (p := 0 < b.size) (by omega)]; rfl), hs.out.be⟩
end Go.Proofs.YtibjhcgfjhbgoaaDoor.Va
