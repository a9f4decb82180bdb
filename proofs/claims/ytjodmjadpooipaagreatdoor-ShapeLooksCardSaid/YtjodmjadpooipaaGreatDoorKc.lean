/-
  Walks of Count, Canon, layout, Names, Class, Slot, Root of package shape.
-/
import Derived.Test.YtjodmjadpooipaaGreatDoorKa
namespace Go.Proofs.YtjodmjadpooipaaGreatDoor.Sh
open Go Go.RowKit

theorem code_count (w : World) (p : Nat) (t : Tre) (F : Nat → Prop) (h : CodeH w p t F) :
    Calls Tryz.prog 31 #[.pointer (some ⟨p, 0, none⟩)] w fun e w' => e = .returned (.int .i64 (t.L.length : Nat)) ∧ w = w' := by
  obtain ⟨_, vL, vR, mb, D, hd, h⟩ := h
  have c0 := h.c0
  obtain ⟨A, c, rfl⟩ := h.vlen
  clear h
  go_enter Tryz.func31, Tryz.ntmps31
  go_wp2
  go_ret
  exact ⟨rfl, rfl⟩
set_option maxHeartbeats 1000000 in
theorem code_canon (w : World) (p : Nat) (t : Tre) (F : Nat → Prop) (m : Nat) (s : Int) (h : CodeH w p t F) (hw : t.WF m) (hs : I64 s) :
    Calls Tryz.prog 16 #[.pointer (some ⟨p, 0, none⟩), .int .i64 s] w fun e w' => e = .returned (.int .i64 (t.canonI s)) ∧ w = w' := by
  have H := Lib.hid h
  obtain ⟨_, vL, vR, mb, D, hd, h⟩ := h
  obtain ⟨h1, h2⟩ := hs
  by_cases h0 : s < 0
  · have E := Lib.hid (show t.canonI s = -1 by unfold Tre.canonI; rw [if_neg (by rw [there_iff]; omega)])
    clear h hw
    go_enter Tryz.func16, Tryz.ntmps16
    go_wp2
    go_ret
    exact ⟨by rw [E.out]; rfl, rfl⟩
  · by_cases hl : s < t.L.length
    · obtain ⟨s, rfl⟩ := Int.eq_ofNat_of_zero_le (show 0 ≤ s by omega)
      have sl : s < t.L.length := by omega
      have c0 := h.c0
      obtain ⟨g, c, rfl, hcap, _, _, _, hr⟩ := h.row sl
      have HR := Lib.hid hr
      have W := Lib.hid hw
      have E := Lib.hid (canonI_nat sl)
      clear h hw hr
      go_enter Tryz.func16, Tryz.ntmps16
      go_wp2_with fail
      refine (code_count _ p t F H.out).mono ?_
      rintro e w' ⟨rfl, rfl⟩
      go_wp2_with fail
      go_loop [1] (fun i => ∃ n : Nat, n < t.L.length ∧ i = .int .i64 n ∧ Hid (t.canon n = t.canon s)) (fun i => rk t t.als (intOf i).toNat)
      case atStart => exact ⟨s, sl, rfl, Lib.hid rfl⟩
      case round =>
        obtain ⟨n, hn, rfl, hc⟩ := hrel
        obtain ⟨_, _, c2⟩ := HR.out n hn
        cases ha : (t.sh n).ali with
        | some a =>
          rw [ali_some ha] at c2
          have HH := Lib.hid (show hop t n = a by unfold hop; rw [ha])
          have al : a < t.L.length := (W.out.al n a ha).1
          have RK := Lib.hid (rk_less W.out (n := n) (by rw [ha]; simp))
          clear ha
          go_wp2
          go_round
          case rel => exact ⟨a, al, rfl, Lib.hid (by rw [← HH.out, canon_hop W.out, hc.out])⟩
          case measure =>
            have := RK.out
            rw [HH.out] at this
            simpa [intOf] using this
        | none =>
          rw [ali_none ha] at c2
          have HE := Lib.hid (show t.canonI (s : Int) = (n : Int) by rw [E.out, ← hc.out, canon_fix ha])
          clear ha
          go_wp2
          go_ret
          exact ⟨by rw [HE.out]; rfl, rfl⟩
    · have E := Lib.hid (show t.canonI s = -1 by unfold Tre.canonI; rw [if_neg (by rw [there_iff]; omega)])
      clear h hw
      go_enter Tryz.func16, Tryz.ntmps16
      go_wp2_with fail
      refine (code_count _ p t F H.out).mono ?_
      rintro e w' ⟨rfl, rfl⟩
      go_wp2_with fail
      go_ret
      exact ⟨by rw [E.out]; rfl, rfl⟩
/-- What layout returns. -/
def LayV (w : World) (F : Nat → Prop) (t : Tre) (s : Int) (v : Value) : Prop := ∃ A c a, v = .agg #[.int .i64 (t.clsI s), .slice A (t.namesI s).length c, .int .i64 a] ∧ SlS w F A (t.namesI s)
set_option maxHeartbeats 1000000 in
theorem code_layout (w : World) (p : Nat) (t : Tre) (F : Nat → Prop) (m : Nat) (s : Int) (h : CodeH w p t F) (hw : t.WF m) (hs : I64 s) :
    Calls Tryz.prog 38 #[.pointer (some ⟨p, 0, none⟩), .int .i64 s] w fun e w' => ∃ v, e = .returned v ∧ LayV w F t s v ∧ Below w.heap.size w w' := by
  have H := Lib.hid h
  have HS := Lib.hid hs
  have W := Lib.hid hw
  cases hb : t.there s
  · have E := Lib.hid (show t.canonI s = -1 by unfold Tre.canonI; rw [hb]; rfl)
    have G := Lib.hid (show LayV w F t s (.agg #[.int .i64 (-1), .slice none 0 0, .int .i64 0]) from ⟨none, 0, 0, by unfold Tre.clsI Tre.namesI; rw [hb]; rfl, by unfold Tre.namesI; rw [hb]; exact SlS.nil _ _ _⟩)
    have CC := Lib.hid (fun W' (h : CodeH W' p t F) => code_canon W' p t F m s h W.out HS.out)
    clear h hw hb hs
    go_enter Tryz.func38, Tryz.ntmps38
    go_wp2_with fail
    refine (CC.out _ (H.out.keep fun b hF => Below.heap_alloc _ _ _ (H.out.lt b hF))).mono ?_
    rintro e w' ⟨rfl, rfl⟩
    rw [E.out]
    go_wp2_with fail
    refine bodyPost_ret (v := .agg #[.int .i64 (-1), .slice none 0 0, .int .i64 0]) (by simp [results, Tryz.results38, go_sem]) rfl ⟨_, rfl, G.out, ?_⟩
    exact (Below.refl _ w).alloc (Nat.le_refl _) _
  · have CC := Lib.hid (fun W' (h : CodeH W' p t F) => code_canon W' p t F m s h W.out HS.out)
    obtain ⟨s, rfl⟩ := Int.eq_ofNat_of_zero_le (there_iff.1 hb).1
    have sl : s < t.L.length := (there_iff.1 hb).2
    obtain ⟨n, hn⟩ : ∃ n, t.canon s = n := ⟨_, rfl⟩
    have nl : n < t.L.length := by rw [← hn]; exact canon_lt hw sl
    have E := Lib.hid (show t.canonI (s : Int) = (n : Int) by rw [canonI_nat sl, hn])
    obtain ⟨_, vL, vR, mb, D, hd, h⟩ := h
    have h1 : CodeAt (w.alloc (.cells #[.int .i64 0, .slice none 0 0, .int .i64 0] 65)) p t F vL vR mb D hd := h.keep fun b hF => Below.heap_alloc _ _ _ (h.lt b hF)
    have c0 := h1.c0
    obtain ⟨g, c, rfl, hcap, _, _, _, hr⟩ := h1.row nl
    obtain ⟨r0, r1, r2⟩ := hr n nl
    have G := Lib.hid (show LayV w F t (s : Int) (.agg #[.int .i64 (t.sh n).cls, .slice (hd n).at (t.sh n).names.length (hd n).nc, .int .i64 (aliV (t.sh n))]) from
      ⟨(hd n).at, (hd n).nc, _, by rw [clsI_nat sl, namesI_nat sl, ← hn, canon_cls hw, canon_names hw], by rw [namesI_nat sl, ← canon_names hw, hn]; exact (h.names n nl).imp fun b hb => hb.1⟩)
    have ni : (n : Int) < t.L.length := by omega
    clear h h1 hw hb hs hr hn
    go_enter Tryz.func38, Tryz.ntmps38
    go_wp2_with fail
    refine (CC.out _ (H.out.keep fun b hF => Below.heap_alloc _ _ _ (H.out.lt b hF))).mono ?_
    rintro e w' ⟨rfl, rfl⟩
    rw [E.out]
    go_wp2_with fail
    refine bodyPost_ret (v := .agg #[.int .i64 (t.sh n).cls, .slice (hd n).at (t.sh n).names.length (hd n).nc, .int .i64 (aliV (t.sh n))]) (by simp [results, Tryz.results38, go_sem]) rfl ⟨_, rfl, G.out, ?_⟩
    exact (Below.refl _ w).alloc (Nat.le_refl _) _
theorem run_names (k a : Int) (A : Option Addr) (n c : Nat) (w : World) : (Instr.field 65 (.agg #[.int .i64 k, .slice A n c, .int .i64 a]) 1).run Tryz.prog w = .ok (.slice A n c) w := by kernel_rfl
theorem run_class (k a : Int) (A : Option Addr) (n c : Nat) (w : World) : (Instr.field 65 (.agg #[.int .i64 k, .slice A n c, .int .i64 a]) 0).run Tryz.prog w = .ok (.int .i64 k) w := by kernel_rfl
/-- What layout returns, its parts under names. -/
theorem layout_as (w : World) (p : Nat) (t : Tre) (F : Nat → Prop) (m : Nat) (s : Int) (h : CodeH w p t F) (hw : t.WF m) (hs : I64 s) {k : Int} {ns : List ByteArray} (hk : t.clsI s = k) (hn : t.namesI s = ns) :
    Calls Tryz.prog 38 #[.pointer (some ⟨p, 0, none⟩), .int .i64 s] w fun e w' => ∃ A c a, e = .returned (.agg #[.int .i64 k, .slice A ns.length c, .int .i64 a]) ∧ SlS w' F A ns ∧ Below w.heap.size w w' :=
  (code_layout w p t F m s h hw hs).mono fun e w' ⟨v, he, ⟨A, c, a, hv, hs⟩, hb⟩ => by
    subst hk hn
    exact ⟨A, c, a, by rw [he, hv], hs.keep fun b hF => ⟨hF, hb.block b (h.lt b hF)⟩, hb⟩
set_option maxRecDepth 100000 in
set_option maxHeartbeats 1000000 in
theorem code_class (w : World) (p : Nat) (t : Tre) (F : Nat → Prop) (m : Nat) (s : Int) (h : CodeH w p t F) (hw : t.WF m) (hs : I64 s) :
    Calls Tryz.prog 18 #[.pointer (some ⟨p, 0, none⟩), .int .i64 s] w fun e w' => e = .returned (.int .i64 (t.clsI s)) ∧ Below w.heap.size w w' := by
  obtain ⟨k, hk⟩ : ∃ k, t.clsI s = k := ⟨_, rfl⟩
  obtain ⟨ns, hn⟩ : ∃ ns, t.namesI s = ns := ⟨_, rfl⟩
  have CL := Lib.hid (layout_as w p t F m s h hw hs hk hn)
  rw [hk]
  clear h hw hs hk hn
  go_enter Tryz.func18, Tryz.ntmps18
  go_wp2_with fail
  refine CL.out.mono ?_
  rintro e w' ⟨A, c, a, rfl, _, hb⟩
  have HB := Lib.hid hb
  have hf := run_class k a A ns.length c w'
  clear hb
  go_wp2_with fail
  go_ret
  exact ⟨rfl, HB.out⟩
set_option maxRecDepth 100000 in
set_option maxHeartbeats 1000000 in
theorem code_names (w : World) (p : Nat) (t : Tre) (F : Nat → Prop) (m : Nat) (s : Int) (h : CodeH w p t F) (hw : t.WF m) (hs : I64 s) (h64 : (t.namesI s).length ≤ 200) :
    Calls Tryz.prog 23 #[.pointer (some ⟨p, 0, none⟩), .int .i64 s] w fun e w' => ∃ v, e = .returned v ∧ OwnS w' w.heap.size v (t.namesI s) ∧ Below w.heap.size w w' := by
  obtain ⟨ns, hn⟩ : ∃ ns, t.namesI s = ns := ⟨_, rfl⟩
  have CL := Lib.hid (layout_as w p t F m s h hw hs rfl hn)
  rw [hn] at h64 ⊢
  obtain ⟨k, hk⟩ : ∃ k, t.clsI s = k := ⟨_, rfl⟩
  rw [hk] at CL
  clear h hw hs hn hk
  go_enter Tryz.func23, Tryz.ntmps23
  go_wp2_with fail
  refine CL.out.mono ?_
  rintro e w1 ⟨A, c, a, rfl, hs, hb⟩
  have hf := run_names k a A ns.length c w1
  have HS := Lib.hid hs
  have HB := Lib.hid hb
  clear hb hs
  go_wp2_with fail
  refine (clone_any _ _ _ _ _ HS.out (by omega)).mono ?_
  rintro e w2 ⟨v, rfl, ho, hb⟩
  have HO := Lib.hid (ho.mono HB.out.size)
  have HB2 := Lib.hid (HB.out.trans (hb.mono HB.out.size))
  clear ho hb
  go_wp2_with fail
  go_ret
  exact ⟨_, rfl, HO.out, HB2.out⟩
set_option maxRecDepth 100000 in
set_option maxHeartbeats 1000000 in
theorem code_slot (w : World) (p : Nat) (t : Tre) (F : Nat → Prop) (m : Nat) (s : Int) (nm : ByteArray) (h : CodeH w p t F) (hw : t.WF m) (hs : I64 s) (h64 : (t.namesI s).length ≤ 200) :
    Calls Tryz.prog 10 #[.pointer (some ⟨p, 0, none⟩), .int .i64 s, .string nm] w fun e w' => e = .returned (.tuple #[.int .i64 (slotL (t.namesI s) nm).1, .bool (slotL (t.namesI s) nm).2]) ∧ Below w.heap.size w w' := by
  obtain ⟨ns, hn⟩ : ∃ ns, t.namesI s = ns := ⟨_, rfl⟩
  have CL := Lib.hid (layout_as w p t F m s h hw hs rfl hn)
  rw [hn] at h64 ⊢
  obtain ⟨k, hk⟩ : ∃ k, t.clsI s = k := ⟨_, rfl⟩
  rw [hk] at CL
  clear h hw hs hn hk
  have key : ∀ (z a : Int) (b : Bool), idxN ns nm = z → slotL ns nm = (a, b) → max z 0 = a → decide (0 ≤ z) = b →
      Calls Tryz.prog 10 #[.pointer (some ⟨p, 0, none⟩), .int .i64 s, .string nm] w fun e w' => e = .returned (.tuple #[.int .i64 a, .bool b]) ∧ Below w.heap.size w w' := by
    intro z a b hz _ ha hb
    have E := Lib.hid hz
    have HA := Lib.hid ha
    have HB' := Lib.hid hb
    clear hz ha hb
    go_enter Tryz.func10, Tryz.ntmps10
    go_wp2_with fail
    refine CL.out.mono ?_
    rintro e w1 ⟨A, c, a, rfl, hs, hb⟩
    have hf := run_names k a A ns.length c w1
    have HS := Lib.hid hs
    have HB := Lib.hid hb
    clear hb hs
    go_wp2_with fail
    refine (index_any _ _ _ _ nm _ HS.out (by omega)).mono ?_
    rintro e w2 ⟨rfl, rfl⟩
    rw [E.out]
    go_wp2_with fail
    go_ret2
    exact ⟨by rw [← HA.out, ← HB'.out]; rfl, HB.out⟩
  by_cases hm : nm ∈ ns
  · have R : slotL ns nm = ((posL nm ns : Int), true) := by unfold slotL; rw [if_pos hm]
    rw [R]
    exact key (posL nm ns) (posL nm ns) true (by unfold idxN; rw [if_pos hm]) R (by omega) (by simp)
  · have R : slotL ns nm = (0, false) := by unfold slotL; rw [if_neg hm]
    rw [R]
    exact key (-1) 0 false (by unfold idxN; rw [if_neg hm]) R (by omega) (by simp)
set_option maxHeartbeats 1000000 in
theorem code_root (w : World) (p : Nat) (t : Tre) (F : Nat → Prop) (m : Nat) (k : Int) (h : CodeH w p t F) (hw : t.WF m) (hk : I64 k) :
    Calls Tryz.prog 20 #[.pointer (some ⟨p, 0, none⟩), .int .i64 k] w fun e w' => e = .returned (.int .i64 (t.rootI k)) ∧ w = w' := by
  have H := Lib.hid h
  obtain ⟨_, vL, vR, mb, D, hd, h⟩ := h
  obtain ⟨A, c, rfl, hr⟩ := h.rootV
  have c1 := h.c1
  have W := Lib.hid hw
  obtain ⟨k1, k2⟩ := hk
  have HR := Lib.hid hr
  have few := hw.few
  clear h hw hr
  by_cases h0 : k < 0
  · have E := Lib.hid (show t.rootI k = -1 by unfold Tre.rootI; rw [if_neg (by omega)])
    go_enter Tryz.func20, Tryz.ntmps20
    go_wp2
    go_ret
    exact ⟨by rw [E.out]; rfl, rfl⟩
  · by_cases h1 : (t.roots.length : Int) ≤ k
    · have E := Lib.hid (show t.rootI k = -1 by unfold Tre.rootI; rw [if_neg (by omega)])
      go_enter Tryz.func20, Tryz.ntmps20
      go_wp2
      go_ret
      exact ⟨by rw [E.out]; rfl, rfl⟩
    · obtain ⟨k, rfl⟩ := Int.eq_ofNat_of_zero_le (show 0 ≤ k by omega)
      have kl : k < t.roots.length := by omega
      obtain ⟨g, rfl, hcap, _, hc, _⟩ := HR.out k kl
      have km : k < m := by rw [← W.out.rl]; exact kl
      obtain ⟨r, hr⟩ : ∃ r, t.roots.getD k 0 = r := ⟨_, rfl⟩
      have rl : r < t.L.length := by rw [← hr]; exact (W.out.ro k km).1
      have E := Lib.hid (show t.canonI (r : Int) = t.rootI (k : Int) by rw [canonI_nat rl, ← hr]; unfold Tre.rootI; rw [if_pos ⟨by omega, by omega⟩]; rfl)
      have RI := Lib.hid (nat64 rl (by omega))
      rw [hr] at hc
      clear hr
      go_enter Tryz.func20, Tryz.ntmps20
      go_wp2_with fail
      refine (code_canon _ p t F m (r : Int) H.out W.out RI.out).mono ?_
      rintro e w' ⟨rfl, rfl⟩
      go_wp2_with fail
      go_ret
      exact ⟨by rw [← E.out]; rfl, rfl⟩
end Go.Proofs.YtjodmjadpooipaaGreatDoor.Sh
