/-
  Make of package shape.
-/
import Derived.Test.YtjodmjadpooipaaGreatDoorKg
namespace Go.Proofs.YtjodmjadpooipaaGreatDoor.Sh
open Go Go.RowKit

theorem okNames_len {ns : List ByteArray} (h : 64 < ns.length) : okNames ns = false := by
  unfold okNames; rw [decide_eq_false_iff_not]; exact fun e => by omega
set_option maxRecDepth 100000 in
set_option maxHeartbeats 4000000 in
theorem code_make (w : World) (p : Nat) (t : Tre) (F : Nat → Prop) (m : Nat) (k : Int) (A : Option Addr) (ns : List ByteArray) (c : Nat) (h : CodeH w p t F) (hw : t.WF m) (h64 : ∀ s, (t.sh s).names.length ≤ 200) (hk : I64 k) (hs : SlS w (· < w.heap.size) A ns) (hl : ns.length ≤ 8796093022208) (hc : ns.length ≤ c) (hz : A = none → c = 0) :
    Calls Tryz.prog 29 #[.pointer (some ⟨p, 0, none⟩), .int .i64 k, .slice A ns.length c] w (CodeTo w p F (t.make k ns).2 (mkV (t.make k ns).1)) := by
  have H := Lib.hid h
  have W := Lib.hid hw
  have H64 := Lib.hid h64
  have HK := Lib.hid hk
  have HS := Lib.hid hs
  have HZ := Lib.hid hz
  have few := hw.few
  obtain ⟨R, hR⟩ : ∃ R, t.make k ns = R := ⟨_, rfl⟩
  rw [hR]
  have HR := Lib.hid hR
  obtain ⟨k1, k2⟩ := hk
  clear h hw h64 hs hz hR
  by_cases hbad : k < 0 ∨ (t.roots.length : Int) ≤ k
  · have E := Lib.hid (show t.rootI k = -1 by unfold Tre.rootI; rw [if_neg (by omega)])
    have RE := Lib.hid (show R = ((0, 1), t) by rw [← HR.out]; exact make_no W.out (by omega))
    have G := Lib.hid (CodeTo.low (v := mkV (0, 1)) H.out (Below.refl w.heap.size w))
    go_enter Tryz.func29, Tryz.ntmps29
    go_wp2_with fail
    refine (code_root _ p t F m k H.out W.out HK.out).mono ?_
    rintro e w' ⟨rfl, rfl⟩
    rw [E.out]
    go_wp2_with fail
    go_ret2
    rw [RE.out]; exact G.out
  · obtain ⟨k, rfl⟩ := Int.eq_ofNat_of_zero_le (show 0 ≤ k by omega)
    have kl : k < t.roots.length := by omega
    have km : k < m := by rw [← W.out.rl]; exact kl
    obtain ⟨r, hr⟩ : ∃ r, t.root k = r := ⟨_, rfl⟩
    have rl : r < t.L.length := by rw [← hr]; exact root_lt W.out km
    have E := Lib.hid (show t.rootI (k : Int) = (r : Int) by unfold Tre.rootI; rw [if_pos ⟨by omega, by omega⟩, ← hr]; rfl)
    have RC := Lib.hid (show (t.sh r).cls = k by rw [← hr]; exact root_cls W.out km)
    have MK := Lib.hid (fun ok => HR.out.symm.trans (make_yes W.out (ns := ns) km ok))
    rw [hr] at MK
    have re : ((r : Int) == -1) = false := by rw [beq_eq_false_iff_ne]; omega
    clear hr hbad
    by_cases hbig : 64 < ns.length
    · have RE := Lib.hid (show R = ((0, 1), t) by rw [← HR.out]; exact make_no W.out (.inr (.inr (okNames_len hbig))))
      have G := Lib.hid (CodeTo.low (v := mkV (0, 1)) H.out (Below.refl w.heap.size w))
      go_enter Tryz.func29, Tryz.ntmps29
      go_wp2_with fail
      refine (code_root _ p t F m _ H.out W.out HK.out).mono ?_
      rintro e w' ⟨rfl, rfl⟩
      rw [E.out]
      go_wp2_with fail
      go_ret2
      rw [RE.out]; exact G.out
    · cases hok : okNames ns with
      | false =>
        have RE := Lib.hid (show R = ((0, 1), t) by rw [← HR.out]; exact make_no W.out (.inr (.inr hok)))
        have OK := Lib.hid hok
        have G := Lib.hid (CodeTo.low (v := mkV (0, 1)) H.out (Below.refl w.heap.size w))
        clear hok
        go_enter Tryz.func29, Tryz.ntmps29
        go_wp2_with fail
        refine (code_root _ p t F m _ H.out W.out HK.out).mono ?_
        rintro e w' ⟨rfl, rfl⟩
        rw [E.out]
        go_wp2_with fail
        refine (distinct_any _ A ns c _ HS.out (by omega) hc false OK.out).mono ?_
        rintro e w' ⟨rfl, rfl⟩
        go_wp2_with fail
        go_ret2
        rw [RE.out]; exact G.out
      | true =>
        have MK := Lib.hid (MK.out hok)
        have OK := Lib.hid hok
        clear hok
        obtain ⟨hsrt, vL, vR, mb, D, hd, h⟩ := H.out
        have c0 := h.c0
        obtain ⟨g, cL, rfl, hcap, _, gl, _, hrow⟩ := h.row rl
        obtain ⟨r0, r1, r2⟩ := hrow r rl
        have SR := Lib.hid (show SlS w F (hd r).at (t.sh r).names from (h.names r rl).imp fun b hb => hb.1)
        have LT := Lib.hid h.lt
        have n64 := H64.out r
        have ri : (r : Int) < t.L.length := by omega
        rw [RC.out] at r0
        obtain ⟨f, hf⟩ : ∃ f, decide ((t.sh r).names = ns) = f := ⟨_, rfl⟩
        have HF := Lib.hid hf
        clear h hrow hf hsrt
        go_enter Tryz.func29, Tryz.ntmps29
        go_wp2_with fail
        refine (code_root _ p t F m _ H.out W.out HK.out).mono ?_
        rintro e w' ⟨rfl, rfl⟩
        rw [E.out]
        go_wp2_with fail
        refine (distinct_any _ A ns c _ HS.out (by omega) hc true OK.out).mono ?_
        rintro e w' ⟨rfl, rfl⟩
        go_wp2_with fail
        refine (is_any F (· < w.heap.size) _ _ _ _ _ _ ns _ c w SR.out HS.out LT.out (fun _ h => h) (by omega) hl f (by rw [← HF.out]; simp)).mono ?_
        rintro e w1 ⟨rfl, hb⟩
        have B1 := Lib.hid hb
        have H1 := Lib.hid (H.out.below hb)
        clear hb c0 r0 r1 r2
        cases f with
        | true =>
          have RE := Lib.hid (show R = (((r : Int), 0), t) by rw [MK.out, if_pos (of_decide_eq_true HF.out)])
          have G := Lib.hid (CodeTo.low (v := mkV ((r : Int), 0)) H1.out B1.out)
          go_wp2_with fail
          go_ret2
          rw [RE.out]; exact G.out
        | false =>
          have MK := Lib.hid (MK.out.trans (if_neg (fun e => of_decide_eq_false HF.out e)))
          have S1 := Lib.hid (HS.out.low' (fun _ h => h) B1.out)
          have z1 := B1.out.size
          go_wp2_with fail
          refine (code_find _ p t F m _ A ns c H1.out W.out H64.out HK.out (S1.out.imp fun b (hb : b < w.heap.size) => by omega) hl).mono ?_
          rintro e w2 ⟨rfl, hb⟩
          have B2 := Lib.hid (B1.out.trans (hb.mono z1))
          have H2 := Lib.hid (H1.out.below hb)
          clear hb
          cases hf : t.find (k : Int) ns with
          | some n =>
            have RE := Lib.hid (show R = (((n : Int), 0), t) by rw [MK.out, hf])
            have FI := Lib.hid (show t.findI (k : Int) ns = ((n : Int), true) by unfold Tre.findI; rw [hf])
            have G := Lib.hid (CodeTo.low (v := mkV ((n : Int), 0)) H2.out B2.out)
            clear hf
            rw [FI.out]
            go_wp2_with fail
            go_ret2
            rw [RE.out]; exact G.out
          | none =>
            have FI := Lib.hid (show t.findI (k : Int) ns = (0, false) by unfold Tre.findI; rw [hf])
            have MK := Lib.hid (show R = if 200 ≤ t.L.length then (((0 : Int), (2 : Int)), t) else (((t.L.length : Int), (0 : Int)), t.push k ns) by rw [MK.out, hf])
            clear hf
            rw [FI.out]
            by_cases h200 : 200 ≤ t.L.length
            · have RE := Lib.hid (show R = ((0, 2), t) by rw [MK.out, if_pos h200])
              have G := Lib.hid (CodeTo.low (v := mkV (0, 2)) H2.out B2.out)
              go_wp2_with fail
              refine (grow_full _ p t F H2.out h200 few _ _ _).mono ?_
              rintro e w' ⟨rfl, rfl⟩
              dsimp only [mkV]
              go_wp2_with fail
              go_ret2
              rw [RE.out]; exact G.out
            · have RE := Lib.hid (show R = (((t.L.length : Int), 0), t.push k ns) by rw [MK.out, if_neg h200])
              have z2 := B2.out.size
              have S2 := Lib.hid (show SlS w2 (· < w2.heap.size) A ns from (HS.out.low' (fun _ h => h) B2.out).imp fun b (hb : b < w.heap.size) => by omega)
              go_wp2_with fail
              refine (grow_ok _ p t F H2.out h200 k A none ns [] ns c 0 S2.out (SlS.nil _ _ _) (by omega) (by simp) HZ.out (fun _ => rfl) (List.append_nil _)).mono ?_
              intro e w' hh
              have G := Lib.hid (CodeTo.of B2.out hh)
              obtain ⟨F', rfl, _⟩ := hh
              dsimp only [mkV]
              go_wp2_with fail
              go_ret2
              rw [RE.out]; exact G.out
end Go.Proofs.YtjodmjadpooipaaGreatDoor.Sh
