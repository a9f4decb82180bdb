/-
  The walk of HeapShows.
-/
import Derived.Test.YtkdpcnikgdbmaaaGreatDoorRa
import Derived.IntWalk
import Derived.Deep.QuietTactic
import Derived.BigQuiet
namespace Go.Proofs.YtkdpcnikgdbmaaaGreatDoor.Hp
open Go Go.RowKit Go.Maps Va

theorem bnds_lowS {w w' : World} (hB : Bnds w) (hb : Below w.heap.size w w') : Bnds w' := fun i hi => (hb.cell (p := ⟨_, _, none⟩) hB.size).trans (hB i hi)
theorem two_ready {P : Program} {ops : Array Oper} {Q : Exit → Go.Act → World → Prop} {S : World → Prop} {md : Region.Mode} {fuel : Nat} {listed : Array Bool} {a : Go.Act} {w : World} (i k : Nat) {o o' : Oper} (ho : ops[i]? = some o) (ho' : ops[k]? = some o') (hr : Region.ready md ops listed = [i, k]) (hw : Region.wanted o (yielded ops a.tmps) = true) (hw' : Region.wanted o' (yielded ops a.tmps) = true)
    (h : o.wp P a w (fun a' w' => S w' ∧ wpAnyH P md ops Q S fuel (listed.setIfInBounds i true) a' w') Q) (h' : o'.wp P a w (fun a' w' => S w' ∧ wpAnyH P md ops Q S fuel (listed.setIfInBounds k true) a' w') Q) : wpAnyH P md ops Q S (fuel + 1) listed a w := by
  refine wpAnyH_all hr (by simp) (fun j hj => ?_)
  have hj : j = i ∨ j = k := by simpa using hj
  rcases hj with rfl | rfl
  · unfold wpOp
    simp only [ho, hw, if_true]
    exact .inl h
  · unfold wpOp
    simp only [ho', hw', if_true]
    exact .inl h'
def flatC (l : List ByteArray) : List Value := l.flatMap fun s => [.string s, .slice none 0 0, .slice none 0 0]
theorem flatC_len (l : List ByteArray) : (flatC l).length = l.length * 3 := by
  unfold flatC; induction l with
  | nil => rfl
  | cons x l ih => rw [List.flatMap_cons, List.length_append, ih]; simp; omega
theorem flatC_at : ∀ (l : List ByteArray) (j : Nat) (s : ByteArray), l[j]? = some s → (flatC l)[j * 3]? = some (.string s)
  | [], j, s, h => by simp at h
  | x :: l, 0, s, h => by
    simp at h; subst h; rfl
  | x :: l, j + 1, s, h => by
    have ih := flatC_at l j s (by simpa using h)
    unfold flatC at ih ⊢
    rw [List.flatMap_cons, show (j + 1) * 3 = 3 + j * 3 by omega]
    rw [List.getElem?_append_right (by simp)]
    simpa using ih
theorem cls_of {w : World} {base : Nat} {v : Value} {l : List ByteArray} (h : w.ownsRow base 72 3 v l.length (flatC l)) : ∃ A c, v = .slice A l.length c ∧ ClsAt w (fun g => base ≤ g ∧ g < w.heap.size) A l := by
  obtain ⟨A, c, rfl⟩ := own_slice h
  refine ⟨A, c, rfl, fun j s hs => ?_⟩
  have hj := (List.getElem?_eq_some_iff.1 hs).1
  obtain ⟨g, cap, e, hb, hg⟩ := World.ownsRow.form h (by omega)
  simp only [Value.slice.injEq] at e
  obtain ⟨rfl, _, rfl⟩ := e
  exact ⟨g, rfl, ⟨hb, hg⟩, (World.ownsRow.cellAt h (j * 3) (by omega)).trans (flatC_at l j s hs)⟩
theorem infoC : (Tryz.prog.info? 72).map (fun i => (i.zero, i.size, i.bytes)) = some (some (.agg #[.string ⟨#[]⟩, .slice none 0 0, .slice none 0 0]), 3, 64) := by kernel_rfl
theorem Bk.drew' {w : World} {b : Nat} {c : Array Value} {T : TypeId} (h : Bk w b c T) : Bk w.drew b c T := h
theorem news_bk {w : World} {b : Nat} {cs : Array Value} {T : TypeId} (h : Bk w b cs T) : ∀ j u, cs.toList[j]? = some u → w.cell? ((⟨b, 0, none⟩ : Addr).add j) = some u := fun j u hu => by
  have hj : cs[j]? = some u := by simpa using hu
  have e : ((⟨b, 0, none⟩ : Addr).add j) = ⟨b, j, none⟩ := by
    unfold Addr.add
    split
    · rename_i h0; rw [h0]
    · simp
  rw [e]
  exact h.cell j u hj
theorem sls_take {w : World} {P : Nat → Prop} {A : Option Addr} {l : List ByteArray} (k : Nat) (h : SlS w P A l) : SlS w P A (l.take k) := fun j v hv => by
  rw [List.getElem?_take] at hv
  split at hv
  · exact h j v hv
  · cases hv
theorem wv_shown {v : Val} (h : Ac.Wv v) : Sv v := by
  rcases h with h | rfl
  · refine ⟨(wv_fits (.inl h)).2.1, ?_⟩
    obtain ⟨k, n, s⟩ := v
    unfold Ac.Gv at h
    simp only at h ⊢
    rcases h with ⟨h, -, -⟩ | ⟨h, -, -⟩ | ⟨h, h', -⟩ | ⟨h, -, -⟩ | ⟨h, -, -⟩
    · exact .inr (.inl h)
    · exact .inr (.inr (.inl h))
    · exact .inr (.inr (.inr (.inl ⟨h, h'⟩)))
    · exact .inr (.inr (.inr (.inr (.inl h))))
    · exact .inr (.inr (.inr (.inr (.inr (.inl h)))))
  · exact ⟨by unfold I64; simp only; omega, .inl rfl⟩
theorem shown_all {vs : List Val} (h : ∀ v ∈ vs, Ac.Wv v) {z : Int} (hz : I64 z) : ∀ v ∈ (vs ++ [⟨6, z, ⟨#[]⟩⟩, ⟨9, 0, ⟨#[]⟩⟩, ⟨5, -3, ⟨#[]⟩⟩] : List Val), Sv v := fun v hv => by
  rcases List.mem_append.1 hv with hv | hv
  · exact wv_shown (h v hv)
  · simp only [List.mem_cons, List.not_mem_nil, or_false] at hv
    rcases hv with rfl | rfl | rfl
    · exact ⟨hz, .inr (.inr (.inr (.inr (.inr (.inr (.inl rfl))))))⟩
    · exact ⟨by unfold I64; simp only; omega, .inr (.inr (.inr (.inr (.inr (.inr (.inr rfl))))))⟩
    · exact ⟨by unfold I64; simp only; omega, .inr (.inr (.inr (.inr (.inr (.inl rfl)))))⟩
set_option maxRecDepth 100000 in
set_option maxHeartbeats 4000000 in
theorem shows_walk (w : World) (hB : Bnds w) (hG : Pw w) (A : Option Addr) (zs : List Int) (c : Nat) (wh : Int) (A' : Option Addr) (ys : List Int) (c' : Nat) (N : Option Addr) (xs : List ByteArray) (nc : Nat) (hA : Ac.Sl w w.heap.size A zs) (hz : ∀ z ∈ zs, I64 z) (hl : zs.length ≤ 17592186044404) (hA' : Ac.Sl w w.heap.size A' ys) (hy : ∀ z ∈ ys, I64 z) (hl' : ys.length ≤ 17592186044404)
    (hN : SlS w (fun g => g < w.heap.size) N xs) (hxl : xs.length ≤ 17592186044404) (hxc : xs.length ≤ nc) (hxs : ∀ s ∈ xs, s.size ≤ 140737488351232) :
    Calls Tryz.prog 8 #[.slice A zs.length c, .agg #[.int .i64 wh, .slice A' ys.length c'], .slice N xs.length nc] w fun e w' => e = .returned (.bool true) ∧ Below w.heap.size w w' := by
  have hmx : Tryz.prog.follows .mixedOrders = true := by kernel_rfl
  obtain ⟨iC, hiC, hC0, hC1, hC2⟩ := info_parts infoC
  obtain ⟨iV, hiV, hV0, hV1, hV2⟩ := info_parts Ac.infoV
  have HN := Lib.hid hN
  have HG := Lib.hid hG
  have HX := Lib.hid hxs
  obtain ⟨M, hM, hM3, hMx⟩ : ∃ M : Nat, min (xs.length : Int) 3 = M ∧ M ≤ 3 ∧ M ≤ xs.length := by
    rcases Nat.lt_or_ge xs.length 3 with h | h
    · exact ⟨xs.length, by omega, by omega, by omega⟩
    · exact ⟨3, by omega, by omega, h⟩
  have HM := Lib.hid hM
  clear hN hG hxs hM
  have HB := Lib.hid hB
  have HA := Lib.hid hA
  have HZ := Lib.hid hz
  have HA' := Lib.hid hA'
  have HY := Lib.hid hy
  clear hB hA hz hA' hy
  go_enter Tryz.func8, Tryz.ntmps8
  go_wp2_with fail
  have hW1 := (Below.refl w.heap.size w).alloc (Nat.le_refl _) (.cells #[.int .i64 wh, .slice A' ys.length c'] 31)
  have BA1 := Lib.hid (Bk.new w #[.int .i64 wh, .slice A' ys.length c'] 31)
  refine (sanity_any _ (bnds_lowS HB.out hW1)).mono ?_
  rintro e w1 ⟨rfl, hb⟩
  have B1 := Lib.hid (hW1.trans (hb.mono hW1.size))
  have BA2 := Lib.hid (BA1.out.low hb)
  have sz1 := B1.out.size
  generalize hab : w.heap.size = ab at BA2 ⊢
  clear hW1 hb BA1
  go_wp2_with fail
  refine (begin_any A zs c w1 (Ac.Sl.up (HA.out.below B1.out (Nat.le_refl _)) sz1) HZ.out hl (bnds_lowS HB.out B1.out)).mono ?_
  rintro e w2 ⟨p, q, v0, es, l, next, rfl, hh⟩
  have FI := Lib.hid hh.out.2.2.2.2
  have S2 := Lib.hid (hh.out.1.since B1.out HB.out).st
  have L2 := Lib.hid hh.out.2.1
  have B2 := Lib.hid (B1.out.trans (hh.out.2.2.2.1.mono sz1))
  have BA3 := Lib.hid (BA2.out.low hh.out.2.2.2.1)
  have sz2 := B2.out.size
  have HNS := Lib.hid (sls_take M HN.out)
  have NL := Lib.hid (show (xs.take M).length = M by rw [List.length_take]; omega)
  have XSZ := Lib.hid (show ∀ s ∈ xs.take M, s.size ≤ 140737488351232 from fun s hs => HX.out s (List.mem_of_mem_take hs))
  have BA4 := Lib.hid BA3.out
  clear hh BA2 BA3 HN HX
  have hM := HM.out
  go_wp2_with fail
  clear hM
  generalize xs.take M = ns at *
  go_loopw [11, 32] (fun rv i wr => ∃ k : Nat, k ≤ M ∧ i = .int .i64 k ∧ Hid (wr.ownsRow w2.heap.size 72 3 rv (ns.take k).length (flatC (ns.take k))) ∧ Hid (Below w2.heap.size w2 wr)) (fun _ i _ => M - (intOf i).toNat)
  case atStart => exact ⟨0, by omega, rfl, Lib.hid (World.ownsRow_nil _ _ _ _), Lib.hid (Below.refl _ _)⟩
  case round =>
    obtain ⟨k, hk, rfl, hrow, hb⟩ := hrel
    have szr := hb.out.size
    by_cases hlt : k < M
    · have kl : k < ns.length := by rw [NL.out]; exact hlt
      have hg := List.getElem?_eq_getElem kl
      obtain ⟨b1, o1, rfl, hb1, x0⟩ := HNS.out k _ hg
      have y0 := ((B2.out.trans (hb.out.mono sz2)).cell (p := ⟨b1, o1 + k, none⟩) hb1).trans x0
      have TK := Lib.hid (List.take_succ_eq_append_getElem kl)
      have ki : (k : Int) < M := by omega
      have GL : (ns.take k).length ≤ 3 := by rw [List.length_take]; omega
      generalize ns[k] = s at *
      clear hg x0 kl
      generalize ns.take k = G at *
      go_wp2_with (at_builtin; refine wpList_append_lies _ rfl _ _ 69 rfl w2.heap.size 72 iC _ 3 64 Tryz.underlying69 hiC hC0 hC1 hC2 rfl (by decide) _ _ _ rfl (World.ownsRow.alloc hrow.out _) ⟨wr.heap.size, 0, none⟩ 1 1 [.string s, .slice none 0 0, .slice none 0 0] rfl rfl (Ac.news_all wr #[.string s, .slice none 0 0, .slice none 0 0] 72) ?qa1 (by decide) ?qa2 ?qa3 ?qa4 _ rfl ?_)
      case qa1 => intro u hu; simp at hu; rcases hu with rfl | rfl | rfl <;> rfl
      case qa2 => unfold maxLen; omega
      case qa3 => omega
      case qa4 => simp; omega
      intro g1 cap1 w6 hown hgrow hat hlt3
      have R3 := Lib.hid (show w6.ownsRow w2.heap.size 72 3 (.slice (some ⟨g1, 0, none⟩) (G.length + 1) cap1) (ns.take (k + 1)).length (flatC (ns.take (k + 1))) by
        rw [TK.out, List.length_append, show flatC (G ++ [s]) = flatC G ++ [.string s, .slice none 0 0, .slice none 0 0] by simp [flatC]]
        exact hown)
      have F3 := Lib.hid ((hb.out.alloc hb.out.size _).grown hgrow (by simp; omega) (fun k hk => (row_cells hrow.out hk).1))
      clear hown hgrow hat hlt3
      go_wp2_with fail
      go_roundw
      case rel => exact ⟨k + 1, by omega, by go_num, R3, F3⟩
      case measure => simp [intOf]; omega
    · obtain rfl : M = k := by omega
      rename World => w3
      have hrow' := hrow.out
      rw [show ns.take M = ns by rw [← NL.out, List.take_length]] at hrow'
      obtain ⟨A1, c1, hu, hC⟩ := cls_of hrow'
      rw [NL.out] at hu
      subst hu
      have C3 := Lib.hid hC
      have S3 := Lib.hid (S2.out.down hb.out)
      have L3 := Lib.hid (L2.out.below hb.out (Nat.le_refl _))
      have B3 := Lib.hid (B2.out.trans (hb.out.mono sz2))
      have N3 := Lib.hid (HNS.out.low (fun g hg => hg) B3.out)
      have BA5 := Lib.hid (BA4.out.low hb.out)
      have sz3 : w.heap.size ≤ w3.heap.size := by omega
      have c3w : w2.heap.size ≤ w3.heap.size := szr
      clear hrow hrow' hb hC S2 L2 BA4 hlt hk
      go_wp2_with fail
      have AL := BA5.out.lt
      obtain ⟨z, hz0, Z64⟩ : ∃ z : Int, IntKind.i64.wrap ((ys.length : Int) - 1) = z ∧ I64 z := ⟨_, IntWalk.i64_in _ (by omega), by unfold I64; omega⟩
      have SA := Lib.hid (show (fun v : World => v.cell? ⟨ab, 0, none⟩ = some (.int .i64 wh) ∧ v.cell? ⟨ab, 1, none⟩ = some (.slice A' ys.length c')) w3.drew from ⟨BA5.out.cell 0 _ rfl, BA5.out.cell 1 _ rfl⟩)
      refine region_plain (fun v : World => v.cell? ⟨ab, 0, none⟩ = some (.int .i64 wh) ∧ v.cell? ⟨ab, 1, none⟩ = some (.slice A' ys.length c')) hmx ?_
      refine wpAnyH_take (i := 0) (v := ?_) rfl (by kernel_rfl) (by kernel_rfl) (by kernel_rfl) (fun _ _ _ h => h) (.inl ⟨by kernel_rfl, fun v hS => ?_⟩) SA.out ?_
      rotate_left
      · obtain ⟨e0, e1⟩ := hS
        go_simp
        with_reducible rfl
      refine wpAnyH_take (i := 2) (v := ?_) rfl (by kernel_rfl) (by kernel_rfl) (by kernel_rfl) (fun _ _ _ h => h) (.inl ⟨by kernel_rfl, fun v hS => ?_⟩) SA.out ?_
      rotate_left
      · obtain ⟨e0, e1⟩ := hS
        go_simp
        with_reducible rfl
      refine wpAnyH_take (i := 3) (v := ?_) rfl (by kernel_rfl) (by kernel_rfl) (by kernel_rfl) (fun _ _ _ h => h) (.inl ⟨by kernel_rfl, fun v hS => ?_⟩) SA.out ?_
      rotate_left
      · obtain ⟨e0, e1⟩ := hS
        go_simp
        with_reducible rfl
      refine wpAnyH_take (i := 4) (v := ?_) rfl (by kernel_rfl) (by kernel_rfl) (by kernel_rfl) (fun _ _ _ h => h) (.inl ⟨by kernel_rfl, fun v hS => ?_⟩) SA.out ?_
      rotate_left
      · obtain ⟨e0, e1⟩ := hS
        go_simp
        with_reducible rfl
      refine wpAnyH_take (i := 5) (v := ?_) rfl (by kernel_rfl) (by kernel_rfl) (by kernel_rfl) (fun _ _ _ h => h) (.inl ⟨by kernel_rfl, fun v hS => ?_⟩) SA.out ?_
      rotate_left
      · obtain ⟨e0, e1⟩ := hS
        go_simp
        with_reducible rfl
      refine wpAnyH_take (i := 6) (v := ?_) rfl (by kernel_rfl) (by kernel_rfl) (by kernel_rfl) (fun _ _ _ h => h) (.inl ⟨by kernel_rfl, fun v hS => ?_⟩) SA.out ?_
      rotate_left
      · obtain ⟨e0, e1⟩ := hS
        go_simp
        with_reducible rfl
      refine wpAnyH_take (i := 7) (v := ?_) rfl (by kernel_rfl) (by kernel_rfl) (by kernel_rfl) (fun _ _ _ h => h) (.inl ⟨by kernel_rfl, fun v hS => ?_⟩) SA.out ?_
      rotate_left
      · obtain ⟨e0, e1⟩ := hS
        go_simp
        with_reducible rfl
      refine wpAnyH_take (i := 8) (v := ?_) rfl (by kernel_rfl) (by kernel_rfl) (by kernel_rfl) (fun _ _ _ h => h) (.inl ⟨by kernel_rfl, fun v hS => ?_⟩) SA.out ?_
      rotate_left
      · obtain ⟨e0, e1⟩ := hS
        go_simp
        with_reducible rfl
      refine two_ready 1 9 rfl rfl (by kernel_rfl) (by kernel_rfl) (by kernel_rfl) ?_ ?_
      · go_simp
        have Bd := B3.out.drew
        refine (roots_any wh A' ys c' 6 w3.drew (Ac.Sl.up (HA'.out.below Bd (Nat.le_refl _)) sz3) HY.out hl' (by decide)).mono ?_
        rintro e w5 ⟨vs, VA, vc, rfl, hvl, hh⟩
        obtain ⟨h1, h2, h3, h4, h5⟩ := hh.out
        have al5 := h4.size
        have al0 : ab < w5.heap.size := Nat.lt_of_lt_of_le AL h4.size
        have KA := BA5.out.drew'.low h4
        refine ⟨⟨KA.cell 0 _ rfl, KA.cell 1 _ rfl⟩, ?_⟩
        refine one_ready 9 rfl (by kernel_rfl) (by kernel_rfl) ?_
        go_simp
        refine ⟨⟨KA.cell 0 _ rfl, KA.cell 1 _ rfl⟩, ?_⟩
        refine one_ready 10 rfl (by kernel_rfl) (by kernel_rfl) ?_
        have aw : w3.drew.heap.size ≤ (w5.alloc (.cells #[.int .i64 6, .int .i64 z, .string ⟨#[]⟩, .int .i64 9, .int .i64 0, .string ⟨#[]⟩, .int .i64 5, .int .i64 (-3), .string ⟨#[]⟩] 64)).heap.size := by rw [World.size_alloc]; omega
        refine wp_append_own _ _ _ 44 rfl w3.drew.heap.size 64 iV _ 3 32 Tryz.underlying44 hiV hV0 hV1 hV2 rfl (by decide) (.slice VA 6 vc) 6 (flatV vs) rfl (World.ownsRow.alloc h5 _) ⟨w5.heap.size, 0, none⟩ 3 3 [.int .i64 6, .int .i64 z, .string ⟨#[]⟩, .int .i64 9, .int .i64 0, .string ⟨#[]⟩, .int .i64 5, .int .i64 (-3), .string ⟨#[]⟩] rfl rfl (Ac.news_all w5 #[.int .i64 6, .int .i64 z, .string ⟨#[]⟩, .int .i64 9, .int .i64 0, .string ⟨#[]⟩, .int .i64 5, .int .i64 (-3), .string ⟨#[]⟩] 64) (by intro u hu; simp at hu; rcases hu with rfl | rfl | rfl | rfl | rfl | rfl | rfl | rfl | rfl <;> rfl) (by unfold maxLen; omega) (by omega) aw ?_
        intro v7 w7 ho hg _
        obtain ⟨V9, c9, rfl⟩ := own_slice ho
        have bb := h4.alloc al5 (.cells #[.int .i64 6, .int .i64 z, .string ⟨#[]⟩, .int .i64 9, .int .i64 0, .string ⟨#[]⟩, .int .i64 5, .int .i64 (-3), .string ⟨#[]⟩] 64)
        have b7 : Below w3.drew.heap.size w3.drew w7 := ⟨hg.os.trans bb.os, hg.tape.trans bb.tape, hg.output.trans bb.output, Nat.le_trans bb.size hg.size, fun x hx => (hg.block x (Nat.lt_of_lt_of_le hx bb.size) (fun e => by have := (World.ownsRow.lt h5 x e.symm).1; omega)).trans (bb.block x hx)⟩
        have b37 : Below w3.heap.size w3 w7 := ((Below.refl w3.heap.size w3).drew).trans b7
        have RL := Lib.hid (show (vs ++ [⟨6, z, ⟨#[]⟩⟩, ⟨9, 0, ⟨#[]⟩⟩, ⟨5, -3, ⟨#[]⟩⟩] : List Val).length = 9 by rw [List.length_append, hvl.out]; rfl)
        have SH := Lib.hid (show ∀ v ∈ (vs ++ [⟨6, z, ⟨#[]⟩⟩, ⟨9, 0, ⟨#[]⟩⟩, ⟨5, -3, ⟨#[]⟩⟩] : List Val), Sv v from shown_all h1 Z64)
        have O7 := Lib.hid (show w7.ownsRow w3.heap.size 64 3 (.slice V9 9 c9) 9 (flatV (vs ++ [⟨6, z, ⟨#[]⟩⟩, ⟨9, 0, ⟨#[]⟩⟩, ⟨5, -3, ⟨#[]⟩⟩])) by
          rw [show flatV (vs ++ [⟨6, z, ⟨#[]⟩⟩, ⟨9, 0, ⟨#[]⟩⟩, ⟨5, -3, ⟨#[]⟩⟩]) = flatV vs ++ [.int .i64 6, .int .i64 z, .string ⟨#[]⟩, .int .i64 9, .int .i64 0, .string ⟨#[]⟩, .int .i64 5, .int .i64 (-3), .string ⟨#[]⟩] by simp [flatV]]
          exact ho)
        have S7 := Lib.hid (S3.out.down b37)
        have L7 := Lib.hid (L3.out.below b37 (Nat.le_refl _))
        have B7 := Lib.hid (B3.out.trans (b37.mono sz3))
        have C7 := Lib.hid (C3.out.keep (w' := w7) (Q := fun g => g < w3.heap.size) fun g hg => ⟨hg.2, b37.block g hg.2⟩)
        have N7 := Lib.hid (N3.out.low (fun g hg => by omega) b37)
        have G7 := Lib.hid (HG.out.below B7.out)
        have z37 := b37.size
        have KX := Lib.hid (BA5.out.low b37)
        refine ⟨⟨KX.out.cell 0 _ rfl, KX.out.cell 1 _ rfl⟩, ?_⟩
        refine one_ready 11 rfl (by kernel_rfl) (by kernel_rfl) ?_
        go_simp
        refine ⟨⟨KX.out.cell 0 _ rfl, KX.out.cell 1 _ rfl⟩, rfl, ?_⟩
        clear KX b7 b37 ho hg h1 h2 h3 h4 h5 hh hvl KA al5 SA hz0 Bd
        generalize (vs ++ [⟨6, z, ⟨#[]⟩⟩, ⟨9, 0, ⟨#[]⟩⟩, ⟨5, -3, ⟨#[]⟩⟩] : List Val) = rs at *
        go_wp2_with fail
        go_loopw [55] (fun i wr => ∃ k : Nat, k ≤ 9 ∧ i = .int .i64 k ∧ Hid (Below w7.heap.size w7 wr)) (fun i _ => 9 - (intOf i).toNat)
        case atStart => exact ⟨0, by omega, rfl, Lib.hid (Below.refl _ _)⟩
        case round =>
          obtain ⟨k, hk, rfl, hb⟩ := hrel
          have szk := hb.out.size
          by_cases hlt : k < 9
          · have kl : k < rs.length := by rw [RL.out]; exact hlt
            have hgv := List.getElem?_eq_getElem kl
            obtain ⟨g, cap, eO, hgb, hgl⟩ := World.ownsRow.form O7.out (by decide)
            simp only [Value.slice.injEq] at eO
            obtain ⟨rfl, _, rfl⟩ := eO
            obtain ⟨f0, f1, f2⟩ := flatV_at rs k _ hgv
            have z0 := (hb.out.cell (p := ⟨g, k * 3, none⟩) hgl).trans ((World.ownsRow.cellAt O7.out (k * 3) (by omega)).trans f0)
            have z1 := (hb.out.cell (p := ⟨g, k * 3 + 1, none⟩) hgl).trans ((World.ownsRow.cellAt O7.out (k * 3 + 1) (by omega)).trans f1)
            have z2 := (hb.out.cell (p := ⟨g, k * 3 + 2, none⟩) hgl).trans ((World.ownsRow.cellAt O7.out (k * 3 + 2) (by omega)).trans f2)
            have SVk := SH.out _ (List.getElem_mem kl)
            have ki : (k : Int) < 9 := by omega
            generalize rs[k] = v at *
            have SHW := Lib.hid (fun (w' : World) (hb' : Below w7.heap.size w7 w') => st_show w w' (fun g => g < w3.heap.size) (fun g => g < w.heap.size) p l next v A1 N ns M c1 nc (S7.out.down hb') (G7.out.below hb') SVk FI.out NL.out (by omega) (C7.out.keep fun g hg => ⟨hg, hb'.block g (by omega)⟩) (N7.out.low (fun g hg => by omega) hb') (fun b hb2 => by have := hb'.size; omega) (fun b hb2 => by have := hb'.size; omega) XSZ.out)
            have RFW := Lib.hid (fun (w' : World) (hb' : Below w7.heap.size w7 w') => refShow_any (fun g => g < w3.heap.size) (fun g => g < w.heap.size) q v0 es l next v A1 N ns M c1 nc w' (L7.out.below hb' (Nat.le_refl _)) FI.out SVk NL.out (by omega) (C7.out.keep fun g hg => ⟨hg, hb'.block g (by omega)⟩) (N7.out.low (fun g hg => by omega) hb') (fun b hb2 => by have := hb'.size; omega) (fun b hb2 => by have := hb'.size; omega) XSZ.out)
            generalize showB l ns v = sh at *
            obtain ⟨vk, vn, vs0⟩ := v
            unfold valV at SHW RFW
            simp only at z0 z1 z2 SHW RFW
            clear hgv f0 f1 f2 kl SVk
            go_wp2_with fail
            have S0 := Lib.hid (show (fun v : World => v.cell? ⟨g, k * 3, none⟩ = some (.int .i64 vk) ∧ v.cell? ⟨g, k * 3 + 1, none⟩ = some (.int .i64 vn) ∧ v.cell? ⟨g, k * 3 + 2, none⟩ = some (.string vs0)) wr.drew from ⟨z0, z1, z2⟩)
            refine region_plain (fun v : World => v.cell? ⟨g, k * 3, none⟩ = some (.int .i64 vk) ∧ v.cell? ⟨g, k * 3 + 1, none⟩ = some (.int .i64 vn) ∧ v.cell? ⟨g, k * 3 + 2, none⟩ = some (.string vs0)) hmx ?_
            refine wpAnyH_take (i := 0) (v := ?_) rfl (by kernel_rfl) (by kernel_rfl) (by kernel_rfl) (fun _ _ _ h => h) (.inl ⟨by kernel_rfl, fun v hS => ?_⟩) S0.out ?_
            rotate_left
            · obtain ⟨e0, e1, e2⟩ := hS
              go_simp
              with_reducible rfl
            refine wpAnyH_take (i := 1) (v := ?_) rfl (by kernel_rfl) (by kernel_rfl) (by kernel_rfl) (fun _ _ _ h => h) (.inl ⟨by kernel_rfl, fun v hS => ?_⟩) S0.out ?_
            rotate_left
            · obtain ⟨e0, e1, e2⟩ := hS
              go_simp
              with_reducible rfl
            refine wpAnyH_take (i := 2) (v := ?_) rfl (by kernel_rfl) (by kernel_rfl) (by kernel_rfl) (fun _ _ _ h => h) (.inl ⟨by kernel_rfl, fun v hS => ?_⟩) S0.out ?_
            rotate_left
            · obtain ⟨e0, e1, e2⟩ := hS
              go_simp
              with_reducible rfl
            refine wpAnyH_take (i := 3) (v := ?_) rfl (by kernel_rfl) (by kernel_rfl) (by kernel_rfl) (fun _ _ _ h => h) (.inl ⟨by kernel_rfl, fun v hS => ?_⟩) S0.out ?_
            rotate_left
            · obtain ⟨e0, e1, e2⟩ := hS
              go_simp
              with_reducible rfl
            refine wpAnyH_take (i := 4) (v := ?_) rfl (by kernel_rfl) (by kernel_rfl) (by kernel_rfl) (fun _ _ _ h => h) (.inl ⟨by kernel_rfl, fun v hS => ?_⟩) S0.out ?_
            rotate_left
            · obtain ⟨e0, e1, e2⟩ := hS
              go_simp
              with_reducible rfl
            refine wpAnyH_take (i := 5) (v := ?_) rfl (by kernel_rfl) (by kernel_rfl) (by kernel_rfl) (fun _ _ _ h => h) (.inl ⟨by kernel_rfl, fun v hS => ?_⟩) S0.out ?_
            rotate_left
            · obtain ⟨e0, e1, e2⟩ := hS
              go_simp
              with_reducible rfl
            refine wpAnyH_take (i := 6) (v := ?_) rfl (by kernel_rfl) (by kernel_rfl) (by kernel_rfl) (fun _ _ _ h => h) (.inl ⟨by kernel_rfl, fun v hS => ?_⟩) S0.out ?_
            rotate_left
            · obtain ⟨e0, e1, e2⟩ := hS
              go_simp
              with_reducible rfl
            refine wpAnyH_take (i := 8) (v := ?_) rfl (by kernel_rfl) (by kernel_rfl) (by kernel_rfl) (fun _ _ _ h => h) (.inl ⟨by kernel_rfl, fun v hS => ?_⟩) S0.out ?_
            rotate_left
            · obtain ⟨e0, e1, e2⟩ := hS
              go_simp
              with_reducible rfl
            refine wpAnyH_take (i := 9) (v := ?_) rfl (by kernel_rfl) (by kernel_rfl) (by kernel_rfl) (fun _ _ _ h => h) (.inl ⟨by kernel_rfl, fun v hS => ?_⟩) S0.out ?_
            rotate_left
            · obtain ⟨e0, e1, e2⟩ := hS
              go_simp
              with_reducible rfl
            refine wpAnyH_take (i := 10) (v := ?_) rfl (by kernel_rfl) (by kernel_rfl) (by kernel_rfl) (fun _ _ _ h => h) (.inl ⟨by kernel_rfl, fun v hS => ?_⟩) S0.out ?_
            rotate_left
            · obtain ⟨e0, e1, e2⟩ := hS
              go_simp
              with_reducible rfl
            refine wpAnyH_take (i := 11) (v := ?_) rfl (by kernel_rfl) (by kernel_rfl) (by kernel_rfl) (fun _ _ _ h => h) (.inl ⟨by kernel_rfl, fun v hS => ?_⟩) S0.out ?_
            rotate_left
            · obtain ⟨e0, e1, e2⟩ := hS
              go_simp
              with_reducible rfl
            refine wpAnyH_take (i := 12) (v := ?_) rfl (by kernel_rfl) (by kernel_rfl) (by kernel_rfl) (fun _ _ _ h => h) (.inl ⟨by kernel_rfl, fun v hS => ?_⟩) S0.out ?_
            rotate_left
            · obtain ⟨e0, e1, e2⟩ := hS
              go_simp
              with_reducible rfl
            refine wpAnyH_take (i := 13) (v := ?_) rfl (by kernel_rfl) (by kernel_rfl) (by kernel_rfl) (fun _ _ _ h => h) (.inl ⟨by kernel_rfl, fun v hS => ?_⟩) S0.out ?_
            rotate_left
            · obtain ⟨e0, e1, e2⟩ := hS
              go_simp
              with_reducible rfl
            refine wpAnyH_take (i := 14) (v := ?_) rfl (by kernel_rfl) (by kernel_rfl) (by kernel_rfl) (fun _ _ _ h => h) (.inl ⟨by kernel_rfl, fun v hS => ?_⟩) S0.out ?_
            rotate_left
            · obtain ⟨e0, e1, e2⟩ := hS
              go_simp
              with_reducible rfl
            have bd : Below w7.heap.size w7 wr.drew := hb.out.drew
            have kp : ∀ {u u' : World}, Below u.heap.size u u' → w7.heap.size ≤ u.heap.size → (fun v : World => v.cell? ⟨g, k * 3, none⟩ = some (.int .i64 vk) ∧ v.cell? ⟨g, k * 3 + 1, none⟩ = some (.int .i64 vn) ∧ v.cell? ⟨g, k * 3 + 2, none⟩ = some (.string vs0)) u → (fun v : World => v.cell? ⟨g, k * 3, none⟩ = some (.int .i64 vk) ∧ v.cell? ⟨g, k * 3 + 1, none⟩ = some (.int .i64 vn) ∧ v.cell? ⟨g, k * 3 + 2, none⟩ = some (.string vs0)) u' := fun {u u'} h hs hq => ⟨(h.cell (p := ⟨g, k * 3, none⟩) (by show g < _; omega)).trans hq.1, (h.cell (p := ⟨g, k * 3 + 1, none⟩) (by show g < _; omega)).trans hq.2.1, (h.cell (p := ⟨g, k * 3 + 2, none⟩) (by show g < _; omega)).trans hq.2.2⟩
            refine one_ready 7 rfl (by kernel_rfl) (by kernel_rfl) ?_
            go_simp
            refine (SHW.out _ bd).mono ?_
            rintro e wx ⟨rfl, hx⟩
            have bx := bd.trans (hx.mono bd.size)
            have S1 := Lib.hid (kp hx bd.size S0.out)
            refine ⟨S1.out, ?_⟩
            refine one_ready 15 rfl (by kernel_rfl) (by kernel_rfl) ?_
            go_simp
            refine (RFW.out _ bx).mono ?_
            rintro e wy ⟨rfl, hy⟩
            have BY := Lib.hid (bx.trans (hy.mono bx.size))
            have S2 := Lib.hid (kp hy bx.size S1.out)
            refine ⟨S2.out, ?_⟩
            refine one_ready 16 rfl (by kernel_rfl) (by kernel_rfl) ?_
            go_simp
            refine ⟨S2.out, rfl, ?_⟩
            clear S0 S1 S2 kp bx bd hx hy
            go_wp2_with fail
            go_roundw
            case rel => exact ⟨k + 1, by omega, by go_num, BY⟩
            case measure => simp [intOf]; omega
          · obtain rfl : k = 9 := by omega
            have BF := Lib.hid (B7.out.trans (hb.out.mono B7.out.size))
            go_wp2_with fail
            go_ret
            exact ⟨rfl, BF.out⟩
      · go_simp
        have Bd := B3.out.drew
        have bl := (Below.refl w3.drew.heap.size w3.drew).alloc (Nat.le_refl _) (.cells #[.int .i64 6, .int .i64 z, .string ⟨#[]⟩, .int .i64 9, .int .i64 0, .string ⟨#[]⟩, .int .i64 5, .int .i64 (-3), .string ⟨#[]⟩] 64)
        have KA6 := BA5.out.drew'.alloc (.cells #[.int .i64 6, .int .i64 z, .string ⟨#[]⟩, .int .i64 9, .int .i64 0, .string ⟨#[]⟩, .int .i64 5, .int .i64 (-3), .string ⟨#[]⟩] 64)
        have BL9 := Lib.hid (Bk.new w3.drew #[.int .i64 6, .int .i64 z, .string ⟨#[]⟩, .int .i64 9, .int .i64 0, .string ⟨#[]⟩, .int .i64 5, .int .i64 (-3), .string ⟨#[]⟩] 64)
        refine ⟨⟨BA5.out.cell 0 _ rfl, BA5.out.cell 1 _ rfl⟩, ?_⟩
        refine one_ready 1 rfl (by kernel_rfl) (by kernel_rfl) ?_
        go_simp
        have Bl := Bd.trans (bl.mono Bd.size)
        refine (roots_any wh A' ys c' 6 (w3.drew.alloc (.cells #[.int .i64 6, .int .i64 z, .string ⟨#[]⟩, .int .i64 9, .int .i64 0, .string ⟨#[]⟩, .int .i64 5, .int .i64 (-3), .string ⟨#[]⟩] 64)) (Ac.Sl.up (HA'.out.below Bl (Nat.le_refl _)) Bl.size) HY.out hl' (by decide)).mono ?_
        rintro e w5 ⟨vs, VA, vc, rfl, hvl, hh⟩
        obtain ⟨h1, h2, h3, h4, h5⟩ := hh.out
        have al5 := h4.size
        have KA := KA6.low h4
        have BL5 := Lib.hid (BL9.out.low h4)
        refine ⟨⟨KA.cell 0 _ rfl, KA.cell 1 _ rfl⟩, ?_⟩
        refine one_ready 10 rfl (by kernel_rfl) (by kernel_rfl) ?_
        have ls : (w3.drew.alloc (.cells #[.int .i64 6, .int .i64 z, .string ⟨#[]⟩, .int .i64 9, .int .i64 0, .string ⟨#[]⟩, .int .i64 5, .int .i64 (-3), .string ⟨#[]⟩] 64)).heap.size = w3.drew.heap.size + 1 := World.size_alloc ..
        refine wp_append_own _ _ _ 44 rfl (w3.drew.alloc (.cells #[.int .i64 6, .int .i64 z, .string ⟨#[]⟩, .int .i64 9, .int .i64 0, .string ⟨#[]⟩, .int .i64 5, .int .i64 (-3), .string ⟨#[]⟩] 64)).heap.size 64 iV _ 3 32 Tryz.underlying44 hiV hV0 hV1 hV2 rfl (by decide) (.slice VA 6 vc) 6 (flatV vs) rfl h5 ⟨w3.drew.heap.size, 0, none⟩ 3 3 [.int .i64 6, .int .i64 z, .string ⟨#[]⟩, .int .i64 9, .int .i64 0, .string ⟨#[]⟩, .int .i64 5, .int .i64 (-3), .string ⟨#[]⟩] rfl rfl (news_bk BL5.out) (by intro u hu; simp at hu; rcases hu with rfl | rfl | rfl | rfl | rfl | rfl | rfl | rfl | rfl <;> rfl) (by unfold maxLen; omega) (by omega) al5 ?_
        intro v7 w7 ho hg _
        obtain ⟨V9, c9, rfl⟩ := own_slice ho
        have ho := own_mono ho (show w3.drew.heap.size ≤ (w3.drew.alloc (.cells #[.int .i64 6, .int .i64 z, .string ⟨#[]⟩, .int .i64 9, .int .i64 0, .string ⟨#[]⟩, .int .i64 5, .int .i64 (-3), .string ⟨#[]⟩] 64)).heap.size by omega)
        have b7 : Below w3.drew.heap.size w3.drew w7 := by
          have bb := bl.trans (h4.mono (by omega))
          exact ⟨hg.os.trans bb.os, hg.tape.trans bb.tape, hg.output.trans bb.output, Nat.le_trans bb.size hg.size, fun x hx => (hg.block x (Nat.lt_of_lt_of_le hx bb.size) (fun e => by have := (World.ownsRow.lt h5 x e.symm).1; omega)).trans (bb.block x hx)⟩
        clear bl KA6 BL9 Bl BL5 ls
        have b37 : Below w3.heap.size w3 w7 := ((Below.refl w3.heap.size w3).drew).trans b7
        have RL := Lib.hid (show (vs ++ [⟨6, z, ⟨#[]⟩⟩, ⟨9, 0, ⟨#[]⟩⟩, ⟨5, -3, ⟨#[]⟩⟩] : List Val).length = 9 by rw [List.length_append, hvl.out]; rfl)
        have SH := Lib.hid (show ∀ v ∈ (vs ++ [⟨6, z, ⟨#[]⟩⟩, ⟨9, 0, ⟨#[]⟩⟩, ⟨5, -3, ⟨#[]⟩⟩] : List Val), Sv v from shown_all h1 Z64)
        have O7 := Lib.hid (show w7.ownsRow w3.heap.size 64 3 (.slice V9 9 c9) 9 (flatV (vs ++ [⟨6, z, ⟨#[]⟩⟩, ⟨9, 0, ⟨#[]⟩⟩, ⟨5, -3, ⟨#[]⟩⟩])) by
          rw [show flatV (vs ++ [⟨6, z, ⟨#[]⟩⟩, ⟨9, 0, ⟨#[]⟩⟩, ⟨5, -3, ⟨#[]⟩⟩]) = flatV vs ++ [.int .i64 6, .int .i64 z, .string ⟨#[]⟩, .int .i64 9, .int .i64 0, .string ⟨#[]⟩, .int .i64 5, .int .i64 (-3), .string ⟨#[]⟩] by simp [flatV]]
          exact ho)
        have S7 := Lib.hid (S3.out.down b37)
        have L7 := Lib.hid (L3.out.below b37 (Nat.le_refl _))
        have B7 := Lib.hid (B3.out.trans (b37.mono sz3))
        have C7 := Lib.hid (C3.out.keep (w' := w7) (Q := fun g => g < w3.heap.size) fun g hg => ⟨hg.2, b37.block g hg.2⟩)
        have N7 := Lib.hid (N3.out.low (fun g hg => by omega) b37)
        have G7 := Lib.hid (HG.out.below B7.out)
        have z37 := b37.size
        have KX := Lib.hid (BA5.out.low b37)
        refine ⟨⟨KX.out.cell 0 _ rfl, KX.out.cell 1 _ rfl⟩, ?_⟩
        refine one_ready 11 rfl (by kernel_rfl) (by kernel_rfl) ?_
        go_simp
        refine ⟨⟨KX.out.cell 0 _ rfl, KX.out.cell 1 _ rfl⟩, rfl, ?_⟩
        clear KX b7 b37 ho hg h1 h2 h3 h4 h5 hh hvl KA al5 SA hz0 Bd
        generalize (vs ++ [⟨6, z, ⟨#[]⟩⟩, ⟨9, 0, ⟨#[]⟩⟩, ⟨5, -3, ⟨#[]⟩⟩] : List Val) = rs at *
        go_wp2_with fail
        go_loopw [55] (fun i wr => ∃ k : Nat, k ≤ 9 ∧ i = .int .i64 k ∧ Hid (Below w7.heap.size w7 wr)) (fun i _ => 9 - (intOf i).toNat)
        case atStart => exact ⟨0, by omega, rfl, Lib.hid (Below.refl _ _)⟩
        case round =>
          obtain ⟨k, hk, rfl, hb⟩ := hrel
          have szk := hb.out.size
          by_cases hlt : k < 9
          · have kl : k < rs.length := by rw [RL.out]; exact hlt
            have hgv := List.getElem?_eq_getElem kl
            obtain ⟨g, cap, eO, hgb, hgl⟩ := World.ownsRow.form O7.out (by decide)
            simp only [Value.slice.injEq] at eO
            obtain ⟨rfl, _, rfl⟩ := eO
            obtain ⟨f0, f1, f2⟩ := flatV_at rs k _ hgv
            have z0 := (hb.out.cell (p := ⟨g, k * 3, none⟩) hgl).trans ((World.ownsRow.cellAt O7.out (k * 3) (by omega)).trans f0)
            have z1 := (hb.out.cell (p := ⟨g, k * 3 + 1, none⟩) hgl).trans ((World.ownsRow.cellAt O7.out (k * 3 + 1) (by omega)).trans f1)
            have z2 := (hb.out.cell (p := ⟨g, k * 3 + 2, none⟩) hgl).trans ((World.ownsRow.cellAt O7.out (k * 3 + 2) (by omega)).trans f2)
            have SVk := SH.out _ (List.getElem_mem kl)
            have ki : (k : Int) < 9 := by omega
            generalize rs[k] = v at *
            have SHW := Lib.hid (fun (w' : World) (hb' : Below w7.heap.size w7 w') => st_show w w' (fun g => g < w3.heap.size) (fun g => g < w.heap.size) p l next v A1 N ns M c1 nc (S7.out.down hb') (G7.out.below hb') SVk FI.out NL.out (by omega) (C7.out.keep fun g hg => ⟨hg, hb'.block g (by omega)⟩) (N7.out.low (fun g hg => by omega) hb') (fun b hb2 => by have := hb'.size; omega) (fun b hb2 => by have := hb'.size; omega) XSZ.out)
            have RFW := Lib.hid (fun (w' : World) (hb' : Below w7.heap.size w7 w') => refShow_any (fun g => g < w3.heap.size) (fun g => g < w.heap.size) q v0 es l next v A1 N ns M c1 nc w' (L7.out.below hb' (Nat.le_refl _)) FI.out SVk NL.out (by omega) (C7.out.keep fun g hg => ⟨hg, hb'.block g (by omega)⟩) (N7.out.low (fun g hg => by omega) hb') (fun b hb2 => by have := hb'.size; omega) (fun b hb2 => by have := hb'.size; omega) XSZ.out)
            generalize showB l ns v = sh at *
            obtain ⟨vk, vn, vs0⟩ := v
            unfold valV at SHW RFW
            simp only at z0 z1 z2 SHW RFW
            clear hgv f0 f1 f2 kl SVk
            go_wp2_with fail
            have S0 := Lib.hid (show (fun v : World => v.cell? ⟨g, k * 3, none⟩ = some (.int .i64 vk) ∧ v.cell? ⟨g, k * 3 + 1, none⟩ = some (.int .i64 vn) ∧ v.cell? ⟨g, k * 3 + 2, none⟩ = some (.string vs0)) wr.drew from ⟨z0, z1, z2⟩)
            refine region_plain (fun v : World => v.cell? ⟨g, k * 3, none⟩ = some (.int .i64 vk) ∧ v.cell? ⟨g, k * 3 + 1, none⟩ = some (.int .i64 vn) ∧ v.cell? ⟨g, k * 3 + 2, none⟩ = some (.string vs0)) hmx ?_
            refine wpAnyH_take (i := 0) (v := ?_) rfl (by kernel_rfl) (by kernel_rfl) (by kernel_rfl) (fun _ _ _ h => h) (.inl ⟨by kernel_rfl, fun v hS => ?_⟩) S0.out ?_
            rotate_left
            · obtain ⟨e0, e1, e2⟩ := hS
              go_simp
              with_reducible rfl
            refine wpAnyH_take (i := 1) (v := ?_) rfl (by kernel_rfl) (by kernel_rfl) (by kernel_rfl) (fun _ _ _ h => h) (.inl ⟨by kernel_rfl, fun v hS => ?_⟩) S0.out ?_
            rotate_left
            · obtain ⟨e0, e1, e2⟩ := hS
              go_simp
              with_reducible rfl
            refine wpAnyH_take (i := 2) (v := ?_) rfl (by kernel_rfl) (by kernel_rfl) (by kernel_rfl) (fun _ _ _ h => h) (.inl ⟨by kernel_rfl, fun v hS => ?_⟩) S0.out ?_
            rotate_left
            · obtain ⟨e0, e1, e2⟩ := hS
              go_simp
              with_reducible rfl
            refine wpAnyH_take (i := 3) (v := ?_) rfl (by kernel_rfl) (by kernel_rfl) (by kernel_rfl) (fun _ _ _ h => h) (.inl ⟨by kernel_rfl, fun v hS => ?_⟩) S0.out ?_
            rotate_left
            · obtain ⟨e0, e1, e2⟩ := hS
              go_simp
              with_reducible rfl
            refine wpAnyH_take (i := 4) (v := ?_) rfl (by kernel_rfl) (by kernel_rfl) (by kernel_rfl) (fun _ _ _ h => h) (.inl ⟨by kernel_rfl, fun v hS => ?_⟩) S0.out ?_
            rotate_left
            · obtain ⟨e0, e1, e2⟩ := hS
              go_simp
              with_reducible rfl
            refine wpAnyH_take (i := 5) (v := ?_) rfl (by kernel_rfl) (by kernel_rfl) (by kernel_rfl) (fun _ _ _ h => h) (.inl ⟨by kernel_rfl, fun v hS => ?_⟩) S0.out ?_
            rotate_left
            · obtain ⟨e0, e1, e2⟩ := hS
              go_simp
              with_reducible rfl
            refine wpAnyH_take (i := 6) (v := ?_) rfl (by kernel_rfl) (by kernel_rfl) (by kernel_rfl) (fun _ _ _ h => h) (.inl ⟨by kernel_rfl, fun v hS => ?_⟩) S0.out ?_
            rotate_left
            · obtain ⟨e0, e1, e2⟩ := hS
              go_simp
              with_reducible rfl
            refine wpAnyH_take (i := 8) (v := ?_) rfl (by kernel_rfl) (by kernel_rfl) (by kernel_rfl) (fun _ _ _ h => h) (.inl ⟨by kernel_rfl, fun v hS => ?_⟩) S0.out ?_
            rotate_left
            · obtain ⟨e0, e1, e2⟩ := hS
              go_simp
              with_reducible rfl
            refine wpAnyH_take (i := 9) (v := ?_) rfl (by kernel_rfl) (by kernel_rfl) (by kernel_rfl) (fun _ _ _ h => h) (.inl ⟨by kernel_rfl, fun v hS => ?_⟩) S0.out ?_
            rotate_left
            · obtain ⟨e0, e1, e2⟩ := hS
              go_simp
              with_reducible rfl
            refine wpAnyH_take (i := 10) (v := ?_) rfl (by kernel_rfl) (by kernel_rfl) (by kernel_rfl) (fun _ _ _ h => h) (.inl ⟨by kernel_rfl, fun v hS => ?_⟩) S0.out ?_
            rotate_left
            · obtain ⟨e0, e1, e2⟩ := hS
              go_simp
              with_reducible rfl
            refine wpAnyH_take (i := 11) (v := ?_) rfl (by kernel_rfl) (by kernel_rfl) (by kernel_rfl) (fun _ _ _ h => h) (.inl ⟨by kernel_rfl, fun v hS => ?_⟩) S0.out ?_
            rotate_left
            · obtain ⟨e0, e1, e2⟩ := hS
              go_simp
              with_reducible rfl
            refine wpAnyH_take (i := 12) (v := ?_) rfl (by kernel_rfl) (by kernel_rfl) (by kernel_rfl) (fun _ _ _ h => h) (.inl ⟨by kernel_rfl, fun v hS => ?_⟩) S0.out ?_
            rotate_left
            · obtain ⟨e0, e1, e2⟩ := hS
              go_simp
              with_reducible rfl
            refine wpAnyH_take (i := 13) (v := ?_) rfl (by kernel_rfl) (by kernel_rfl) (by kernel_rfl) (fun _ _ _ h => h) (.inl ⟨by kernel_rfl, fun v hS => ?_⟩) S0.out ?_
            rotate_left
            · obtain ⟨e0, e1, e2⟩ := hS
              go_simp
              with_reducible rfl
            refine wpAnyH_take (i := 14) (v := ?_) rfl (by kernel_rfl) (by kernel_rfl) (by kernel_rfl) (fun _ _ _ h => h) (.inl ⟨by kernel_rfl, fun v hS => ?_⟩) S0.out ?_
            rotate_left
            · obtain ⟨e0, e1, e2⟩ := hS
              go_simp
              with_reducible rfl
            have bd : Below w7.heap.size w7 wr.drew := hb.out.drew
            have kp : ∀ {u u' : World}, Below u.heap.size u u' → w7.heap.size ≤ u.heap.size → (fun v : World => v.cell? ⟨g, k * 3, none⟩ = some (.int .i64 vk) ∧ v.cell? ⟨g, k * 3 + 1, none⟩ = some (.int .i64 vn) ∧ v.cell? ⟨g, k * 3 + 2, none⟩ = some (.string vs0)) u → (fun v : World => v.cell? ⟨g, k * 3, none⟩ = some (.int .i64 vk) ∧ v.cell? ⟨g, k * 3 + 1, none⟩ = some (.int .i64 vn) ∧ v.cell? ⟨g, k * 3 + 2, none⟩ = some (.string vs0)) u' := fun {u u'} h hs hq => ⟨(h.cell (p := ⟨g, k * 3, none⟩) (by show g < _; omega)).trans hq.1, (h.cell (p := ⟨g, k * 3 + 1, none⟩) (by show g < _; omega)).trans hq.2.1, (h.cell (p := ⟨g, k * 3 + 2, none⟩) (by show g < _; omega)).trans hq.2.2⟩
            refine one_ready 7 rfl (by kernel_rfl) (by kernel_rfl) ?_
            go_simp
            refine (SHW.out _ bd).mono ?_
            rintro e wx ⟨rfl, hx⟩
            have bx := bd.trans (hx.mono bd.size)
            have S1 := Lib.hid (kp hx bd.size S0.out)
            refine ⟨S1.out, ?_⟩
            refine one_ready 15 rfl (by kernel_rfl) (by kernel_rfl) ?_
            go_simp
            refine (RFW.out _ bx).mono ?_
            rintro e wy ⟨rfl, hy⟩
            have BY := Lib.hid (bx.trans (hy.mono bx.size))
            have S2 := Lib.hid (kp hy bx.size S1.out)
            refine ⟨S2.out, ?_⟩
            refine one_ready 16 rfl (by kernel_rfl) (by kernel_rfl) ?_
            go_simp
            refine ⟨S2.out, rfl, ?_⟩
            clear S0 S1 S2 kp bx bd hx hy
            go_wp2_with fail
            go_roundw
            case rel => exact ⟨k + 1, by omega, by go_num, BY⟩
            case measure => simp [intOf]; omega
          · obtain rfl : k = 9 := by omega
            have BF := Lib.hid (B7.out.trans (hb.out.mono B7.out.size))
            go_wp2_with fail
            go_ret
            exact ⟨rfl, BF.out⟩
end Go.Proofs.YtkdpcnikgdbmaaaGreatDoor.Hp
