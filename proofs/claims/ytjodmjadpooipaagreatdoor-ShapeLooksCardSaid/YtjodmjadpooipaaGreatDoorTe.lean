/-
  The reference's Make.
-/
import Derived.Test.YtjodmjadpooipaaGreatDoorTd
namespace Go.Proofs.YtjodmjadpooipaaGreatDoor.Sh
open Go Go.RowKit

theorem not_ok_dup {ns : List ByteArray} {i j : Nat} (hi : i < j) (hj : j < ns.length) (e : ns[i] = ns[j]) : okNames ns = false := by
  unfold okNames
  rw [decide_eq_false_iff_not]
  rintro ⟨_, h, _⟩
  exact List.pairwise_iff_getElem.1 h i j (by omega) hj hi e
theorem not_ok_empty {ns : List ByteArray} {j : Nat} (hj : j < ns.length) (e : ns[j].size = 0) : okNames ns = false := by
  unfold okNames
  rw [decide_eq_false_iff_not]
  rintro ⟨_, _, h⟩
  exact h _ (List.getElem_mem hj) e
theorem ok_all {ns : List ByteArray} (hl : ns.length ≤ 64) (h : ∀ x, x < ns.length → ∀ y, ns[x]? = some y → y.size ≠ 0 ∧ ∀ i, i < x → ns[i]? ≠ some y) : okNames ns = true := by
  unfold okNames
  rw [decide_eq_true_eq]
  refine ⟨hl, ?_, fun x hx => ?_⟩
  · exact List.pairwise_iff_getElem.2 fun i j hi hj hij e => (h j hj _ (List.getElem?_eq_getElem hj)).2 i hij (by rw [List.getElem?_eq_getElem hi, e])
  · obtain ⟨j, hj, rfl⟩ := List.mem_iff_getElem.1 hx
    exact (h j hj _ (List.getElem?_eq_getElem hj)).1
theorem make_yes {t : Tre} {m k : Nat} (w : t.WF m) {ns : List ByteArray} (hk : k < m) (ok : okNames ns = true) :
    t.make (k : Int) ns = if (t.sh (t.root k)).names = ns then (((t.root k : Int), (0 : Int)), t) else match t.find (k : Int) ns with | some n => (((n : Int), 0), t) | none => if 200 ≤ t.L.length then ((0, 2), t) else (((t.L.length : Int), 0), t.push k ns) := by
  unfold Tre.make
  rw [if_neg (fun e => e ⟨by omega, by rw [w.rl]; omega, ok⟩)]
  rfl
theorem make_no {t : Tre} {m : Nat} (w : t.WF m) {k : Int} {ns : List ByteArray} (h : k < 0 ∨ (t.roots.length : Int) ≤ k ∨ okNames ns = false) : t.make k ns = ((0, 1), t) := by
  refine make_err w fun e => ?_
  rw [w.rl] at h
  rcases h with h | h | h
  · omega
  · omega
  · rw [e.2.2] at h; cases h
theorem infoSh : (Tryz.prog.info? 62).map (fun i => (i.zero, i.size, i.bytes)) = some (some (.agg #[.int .i64 0, .int .i64 0, .slice none 0 0, .slice none 0 0]), 4, 64) := by kernel_rfl
def mkV (x : Int × Int) : Value := .tuple #[.int .i64 x.1, .int .i64 x.2]
theorem RefTo.drewN {w : World} {p : Nat} {t : Tre} {F : Nat → Prop} {v : Value} {wr : World} (h : RefH w p t F) (hw : ∃ n, wr = w.drewN n) : RefTo w p F t v (.returned v) wr := by
  obtain ⟨n, rfl⟩ := hw
  exact RefTo.same h n
theorem news_of {w : World} {F : Nat → Prop} {ad : Addr} {ns : List ByteArray} (h : SlS w (fun b => b < w.heap.size ∧ ¬ F b) (some ad) ns) : ∀ j u, (ns.map Value.string)[j]? = some u → (w.alloc (.cells #[] 9)).cell? (ad.add j) = some u := by
  intro j u hj
  rw [List.getElem?_map, Option.map_eq_some_iff] at hj
  obtain ⟨z, hz, rfl⟩ := hj
  obtain ⟨ad', e, hb, hc⟩ := h j z hz
  injection e with e
  subst e
  rw [World.cell?_alloc_lt _ _ _ (by rw [blk_add]; exact hb.1)]; exact hc
theorem made_names {w : World} {base g c : Nat} {ns : List ByteArray} (h : w.ownsRow base 9 1 (.slice (some ⟨g, 0, none⟩) (0 + ns.length) c) (0 + ns.length) ([] ++ ns.map Value.string)) :
    SlS w (fun b => (base ≤ b ∧ b < w.heap.size) ∧ isStr w b) (some ⟨g, 0, none⟩) ns := by
  have hg := h.lt g (by simp [Value.ownBlock])
  have hs : isStr w g := by
    rcases h.2 with ⟨h', _⟩ | ⟨g', cap', cur, h', _, hh, _⟩
    · simp at h'
    · simp only [Value.slice.injEq, Option.some.injEq, Addr.mk.injEq, and_true, true_and] at h'
      obtain ⟨rfl, _⟩ := h'
      exact ⟨_, hh⟩
  intro j x hx
  refine ⟨_, rfl, ⟨hg, hs⟩, ?_⟩
  exact h.cells (g := g) (by simp [Value.ownBlock]) j _ (by rw [List.nil_append, List.getElem?_map, hx]; rfl)
theorem news_two (w : World) (a : Array Value) (S : TypeId) (T : TypeId) (cs : Array Value) : ∀ j u, cs.toList[j]? = some u → ((w.alloc (.cells a S)).alloc (.cells cs T)).cell? ((⟨w.heap.size + 1, 0, none⟩ : Addr).add j) = some u := by
  have := World.news_of_block (w := (w.alloc (.cells a S)).alloc (.cells cs T)) (B := w.heap.size + 1) (cs := cs) (t := T) (fr := (0, 0)) (by have := heap_alloc_new (w.alloc (.cells a S)) (.cells cs T); rw [World.size_alloc] at this; exact this)
  exact this
set_option maxRecDepth 100000 in
set_option maxHeartbeats 8000000 in
theorem ref_make (w : World) (p : Nat) (t : Tre) (F : Nat → Prop) (m : Nat) (k : Int) (A : Option Addr) (ns : List ByteArray) (c : Nat) (h : RefH w p t F) (hw : t.WF m) (h64 : ∀ s, (t.sh s).names.length ≤ 200) (hk : I64 k) (hs : SlS w (fun b => b < w.heap.size ∧ ¬ F b) A ns) (hA : A = none → c = 0) (hl : ns.length ≤ 8796093022208) :
    Calls Tryz.prog 34 #[.pointer (some ⟨p, 0, none⟩), .int .i64 k, .slice A ns.length c] w (RefTo w p F (t.make k ns).2 (mkV (t.make k ns).1)) := by
  have H := Lib.hid h
  obtain ⟨gL, cL, vR, hd, h⟩ := h
  obtain ⟨AR, cR, rfl, hr⟩ := h.rootV
  have c1 := h.c1
  have c0 := h.c0
  obtain ⟨k1, k2⟩ := hk
  have HK := Lib.hid (show I64 k from ⟨k1, k2⟩)
  have W := Lib.hid hw
  have HS := Lib.hid hs
  have few := hw.few
  have H64 := Lib.hid h64
  have HAT := Lib.hid h
  have hcap := h.cap
  have HA := Lib.hid hA
  clear h hr hw hs h64 hA
  by_cases h0 : k < 0
  · have M := Lib.hid (make_no (ns := ns) W.out (.inl h0))
    rw [M.out]
    have G := Lib.hid (RefTo.same (v := mkV (0, 1)) H.out 0)
    go_enter Tryz.func34, Tryz.ntmps34
    go_wp2_with fail
    go_ret2
    exact G.out
  · by_cases h1 : (t.roots.length : Int) ≤ k
    · have M := Lib.hid (make_no (ns := ns) W.out (.inr (.inl h1)))
      rw [M.out]
      have G := Lib.hid (RefTo.same (v := mkV (0, 1)) H.out 0)
      go_enter Tryz.func34, Tryz.ntmps34
      go_wp2_with fail
      go_ret2
      exact G.out
    · by_cases h2 : 64 < ns.length
      · have M := Lib.hid (make_no (k := k) (ns := ns) W.out (.inr (.inr (by unfold okNames; rw [decide_eq_false_iff_not]; omega))))
        rw [M.out]
        have G := Lib.hid (RefTo.same (v := mkV (0, 1)) H.out 0)
        go_enter Tryz.func34, Tryz.ntmps34
        go_wp2_with fail
        go_ret2
        exact G.out
      · obtain ⟨R, hR⟩ : ∃ R, t.make k ns = R := ⟨_, rfl⟩
        rw [hR]
        have HR := Lib.hid hR
        clear hR
        go_enter Tryz.func34, Tryz.ntmps34
        go_wp2_with fail
        go_loopw [8, 9] (fun i _ wr => ∃ j : Nat, j ≤ ns.length ∧ i = .int .i64 j ∧ Hid (∀ x, x < j → ∀ y, ns[x]? = some y → y.size ≠ 0 ∧ ∀ i, i < x → ns[i]? ≠ some y) ∧ Hid (∃ n, wr = w.drewN n)) (fun i _ _ => ns.length - (intOf i).toNat)
        case atStart => exact ⟨0, by omega, rfl, Lib.hid (fun x hx => by omega), Lib.hid ⟨0, rfl⟩⟩
        case round =>
          obtain ⟨j, hj, rfl, hb, hw⟩ := hrel
          by_cases hlt : j < ns.length
          · obtain ⟨y, hy⟩ : ∃ y, ns[j]? = some y := ⟨_, List.getElem?_eq_getElem hlt⟩
            obtain ⟨ad, rfl, hbl, hcy⟩ := HS.out j y hy
            have HY := Lib.hid hy
            have HB := Lib.hid hb
            have HCY := Lib.hid (show w.cell? (ad.add j) = some (.string y) from hcy)
            have hj2 : (j : Int) < ns.length := by omega
            clear hy hb hcy
            go_wp2_with fail
            go_loopw [9] (fun i wi => ∃ x : Nat, x ≤ j ∧ i = .int .i64 x ∧ Hid (∀ i, i < x → ns[i]? ≠ some y) ∧ Hid (∃ n, wi = w.drewN n)) (fun i _ => j - (intOf i).toNat)
            case atStart => exact ⟨0, by omega, rfl, Lib.hid (fun i hi => by omega), hw⟩
            case round =>
              clear hw
              obtain ⟨x, hx, rfl, hd, hw⟩ := hrel
              obtain ⟨nd, hwr⟩ := hw.out
              subst hwr
              have hcy := HCY.out
              by_cases hxj : x < j
              · obtain ⟨z, hz⟩ : ∃ z, ns[x]? = some z := ⟨_, List.getElem?_eq_getElem (by omega)⟩
                obtain ⟨ad', e, _, hcz⟩ := HS.out x z hz
                injection e with e
                subst e
                have hx2 : (x : Int) < ns.length := by omega
                have HZ := Lib.hid hz
                clear hz
                by_cases he : z = y
                · have hq : (z.toList == y.toList) = true := by simp [he]
                  have M := Lib.hid (make_no (t := t) (k := k) (ns := ns) W.out (.inr (.inr (by
                    have h1 := HZ.out
                    have h2 := HY.out
                    rw [List.getElem?_eq_getElem (show x < ns.length by omega)] at h1
                    rw [List.getElem?_eq_getElem hlt] at h2
                    injection h1 with h1
                    injection h2 with h2
                    exact not_ok_dup hxj hlt (by rw [h1, h2, he])))))
                  have HR2 := Lib.hid (show R = ((0, 1), t) by rw [← HR.out, M.out])
                  have G := Lib.hid (fun n => RefTo.same (v := mkV (0, 1)) H.out n)
                  clear he
                  go_wp2
                  go_quiet (fail)
                  go_wp2
                  go_ret2
                  rw [HR2.out, World.drewN_drewN]; exact G.out _
                · have hq : (z.toList == y.toList) = false := by
                    rw [beq_eq_false_iff_ne]
                    exact fun e => he (WideShapes.bytes_inj (by rwa [ByteArray.toList_eq, ByteArray.toList_eq] at e))
                  have HN := Lib.hid (all_snoc (P := fun i => ns[i]? ≠ some y) hd.out (by show ns[x]? ≠ some y; rw [HZ.out]; exact fun e => he (by injection e)))
                  clear he
                  go_wp2
                  go_quiet (fail)
                  go_wp2
                  go_roundw
                  case rel => exact ⟨x + 1, by omega, by go_num, HN, Lib.hid ⟨_, rfl⟩⟩
                  case measure => simp [intOf]; omega
              · obtain rfl : x = j := by omega
                by_cases he : y.size = 0
                · have ht : y.toList = [] := by rw [ByteArray.toList_eq]; exact List.eq_nil_of_length_eq_zero (by simpa using he)
                  have M := Lib.hid (make_no (t := t) (k := k) (ns := ns) W.out (.inr (.inr (by
                    have h2 := HY.out
                    rw [List.getElem?_eq_getElem hlt] at h2
                    injection h2 with h2
                    exact not_ok_empty hlt (by rw [h2]; exact he)))))
                  have HR2 := Lib.hid (show R = ((0, 1), t) by rw [← HR.out, M.out])
                  have G := Lib.hid (fun n => RefTo.same (v := mkV (0, 1)) H.out n)
                  clear he
                  go_wp2
                  go_ret2
                  rw [HR2.out]; exact G.out _
                · have ht : y.toList.isEmpty = false := by
                    rw [ByteArray.toList_eq]; cases h : y.data.toList with
                    | nil => exact absurd (show y.size = 0 by show y.data.size = 0; rw [← Array.length_toList, h]; rfl) he
                    | cons => rfl
                  have HN := Lib.hid (all_snoc (P := fun x => ∀ y, ns[x]? = some y → y.size ≠ 0 ∧ ∀ i, i < x → ns[i]? ≠ some y) HB.out (fun y' hy' => by
                    rw [HY.out] at hy'
                    injection hy' with hy'
                    subst hy'
                    exact ⟨he, hd.out⟩))
                  clear he
                  go_wp2
                  go_roundw
                  case rel => exact ⟨x + 1, by omega, by go_num, HN, Lib.hid ⟨nd, rfl⟩⟩
                  case measure => simp [intOf]; omega
          · obtain rfl : j = ns.length := by omega
            have OK := Lib.hid (ok_all (by omega) hb.out)
            clear hb
            obtain ⟨nd, hwr⟩ := hw.out
            subst hwr
            have H2 := Lib.hid (show RefAt (w.drewN nd) p t F gL cL (.slice AR t.roots.length cR) hd from HAT.out.keep fun _ _ => rfl)
            have CH := Lib.hid (show Chg F w (w.drewN nd) from Chg.drewN w nd)
            have S2 := Lib.hid (show SlS (w.drewN nd) (fun b => b < (w.drewN nd).heap.size ∧ ¬ F b) A ns from HS.out)
            clear c0 c1 hw
            obtain ⟨k, rfl⟩ := Int.eq_ofNat_of_zero_le (show 0 ≤ k by omega)
            have kl : k < t.roots.length := by omega
            have km : k < m := by rw [← W.out.rl]; exact kl
            generalize w.drewN nd = w1 at *
            obtain ⟨r, hr⟩ : ∃ r, t.root k = r := ⟨_, rfl⟩
            have rl : r < t.L.length := by rw [← hr]; exact root_lt W.out km
            have RT := Lib.hid (show t.rootI (k : Int) = (r : Int) by unfold Tre.rootI; rw [if_pos ⟨by omega, by omega⟩, ← hr]; rfl)
            have MK := make_yes W.out km OK.out
            rw [hr] at MK
            have MK := Lib.hid (HR.out.symm.trans MK)
            clear hr
            have c0 := H2.out.c0
            have r2 := H2.out.r2 rl
            have SR := Lib.hid (H2.out.names r rl)
            have n64 := H64.out r
            obtain ⟨l, hle⟩ : ∃ l, (t.sh r).names = l := ⟨_, rfl⟩
            rw [hle] at r2 SR n64 MK
            have ri : (r : Int) < t.L.length := by omega
            clear hle
            go_wp2_with fail
            refine (ref_root _ p t F m (k : Int) H2.out.refH W.out HK.out).mono ?_
            rintro e w2 ⟨rfl, rfl⟩
            rw [RT.out]
            go_wp2_with fail
            by_cases hn : l = ns
            · have HR2 := Lib.hid (show R = (((r : Int), 0), t) by rw [MK.out, if_pos hn])
              refine (strings_eq _ _ _ A l ns _ c _ SR.out S2.out (by omega) hl hn).mono ?_
              rintro e w2 ⟨rfl, nq, hw2⟩
              have G := Lib.hid (show RefTo w p F t (mkV ((r : Int), 0)) (.returned (mkV ((r : Int), 0))) w2 by
                rw [hw2]; exact ⟨F, rfl, H2.out.refH.keep fun _ _ => rfl, CH.out.trans (Chg.drewN _ _) (fun x hx => .inl hx), fun _ hb => .inl hb⟩)
              clear hw2 c0 r2
              go_wp2_with fail
              go_ret2
              rw [HR2.out]; exact G.out
            · refine (strings_ne _ _ _ A l ns _ c _ SR.out S2.out (by omega) hl hn).mono ?_
              rintro e w2 ⟨rfl, nq, hw2⟩
              have H3 := Lib.hid (show RefAt w2 p t F gL cL (.slice AR t.roots.length cR) hd by rw [hw2]; exact H2.out.keep fun _ _ => rfl)
              have CH2 := Lib.hid (show Chg F w w2 by rw [hw2]; exact CH.out.trans (Chg.drewN _ _) (fun x hx => .inl hx))
              have S3 := Lib.hid (show SlS w2 (fun b => b < w2.heap.size ∧ ¬ F b) A ns by rw [hw2]; exact S2.out)
              clear hw2 c0 r2 H2 CH S2 SR
              have MK := Lib.hid (MK.out.trans (if_neg hn))
              go_wp2_with fail
              refine (ref_find _ p t F m (k : Int) A ns c H3.out.refH W.out H64.out HK.out (S3.out.imp fun b hb => hb.1) hl).mono ?_
              rintro e w3 ⟨rfl, hb⟩
              have H4 := Lib.hid (show RefAt w3 p t F gL cL (.slice AR t.roots.length cR) hd from H3.out.keep fun b hF => hb.block b (H3.out.lt b hF))
              have CH3 := Lib.hid (show Chg F w w3 from CH2.out.trans (Chg.of_below (F := F) hb) (fun x hx => .inl hx))
              have S4 := Lib.hid (S3.out.low hb)
              clear hb H3 CH2 S3
              cases hf : t.find (k : Int) ns with
              | some n =>
                have HR2 := Lib.hid (show R = (((n : Int), 0), t) by rw [MK.out, hf])
                have FI := Lib.hid (show t.findI (k : Int) ns = ((n : Int), true) by unfold Tre.findI; rw [hf])
                have G := Lib.hid (show RefTo w p F t (mkV ((n : Int), 0)) (.returned (mkV ((n : Int), 0))) w3 from ⟨F, rfl, H4.out.refH, CH3.out, fun _ hb => .inl hb⟩)
                clear hf
                rw [FI.out]
                go_wp2_with fail
                go_ret2
                rw [HR2.out]; exact G.out
              | none =>
                have FI := Lib.hid (show t.findI (k : Int) ns = (0, false) by unfold Tre.findI; rw [hf])
                have MK := Lib.hid (show R = if 200 ≤ t.L.length then (((0 : Int), (2 : Int)), t) else (((t.L.length : Int), (0 : Int)), t.push k ns) by rw [MK.out, hf])
                clear hf
                rw [FI.out]
                have c0 := H4.out.c0
                by_cases h200 : 200 ≤ t.L.length
                · have HR2 := Lib.hid (show R = ((0, 2), t) by rw [MK.out, if_pos h200])
                  have G := Lib.hid (show RefTo w p F t (mkV (0, 2)) (.returned (mkV (0, 2))) w3 from ⟨F, rfl, H4.out.refH, CH3.out, fun _ hb => .inl hb⟩)
                  go_wp2_with fail
                  go_ret2
                  rw [HR2.out]; exact G.out
                · have HR2 := Lib.hid (show R = (((t.L.length : Int), 0), t.push k ns) by rw [MK.out, if_neg h200])
                  obtain ⟨i0, hi0, hz0, hz1, hz2⟩ := info_parts infoS
                  obtain ⟨i1, hi1, hy0, hy1, hy2⟩ := info_parts infoSh
                  obtain ⟨xs, ho, hx⟩ := H4.out.rows
                  have HO := Lib.hid (show w3.ownsRow 0 62 4 (.slice (some ⟨gL, 0, none⟩) t.L.length cL) t.L.length xs from ho)
                  have HX := Lib.hid hx
                  have pl : p < w3.heap.size := H4.out.hp.lt
                  have gl : gL < w3.heap.size := H4.out.lt gL H4.out.fL
                  have pf : w3.frozen? ⟨p, 0, none⟩ = false := by
                    have := H4.out.hp
                    unfold Bk at this
                    simp [World.frozen?, this]
                  clear ho hx
                  rcases A with _ | ad
                  · have en : ns = [] := by
                      cases hn : ns with
                      | nil => rfl
                      | cons x l =>
                        obtain ⟨ad, e, _⟩ := S4.out 0 x (by rw [hn]; rfl)
                        cases e
                    obtain rfl : c = 0 := HA.out rfl
                    subst en
                    simp only [List.length_nil]
                    go_wp2_with fail
                    go_region_law (refine step_append_lies _ (by rfl) _ _ _ (by rfl) 0 62 i1 _ 4 64 Tryz.underlying53 hi1 hy0 hy1 hy2 rfl (by omega) (.slice (some ⟨gL, 0, none⟩) t.L.length cL) t.L.length xs (by rfl) (World.ownsRow.alloc (World.ownsRow.alloc HO.out (.cells #[] 9)) (.cells #[.int .i64 k, .int .i64 (-1), .slice (some ⟨w3.heap.size, 0, none⟩) 0 0, .slice none 0 0] 62)) ⟨w3.heap.size + 1, 0, none⟩ 1 1 [.int .i64 k, .int .i64 (-1), .slice (some ⟨w3.heap.size, 0, none⟩) 0 0, .slice none 0 0] (by rfl) (by rfl) (news_two w3 _ _ _ _) (by simp [Value.oneCell']) (by omega) (by unfold maxLen; omega) (by omega) (Nat.zero_le _) (w3.heap.size + 1 + 1) (by simp) ?_
                                   intro g cap w6 hown hgrow hg hglt
                                   have B5 := Lib.hid (show Below w3.heap.size w3 (w3.alloc (.cells #[] 9)).drew from ((Below.refl _ w3).alloc (Nat.le_refl _) (.cells #[] 9)).drew)
                                   have hgrow : ((w3.alloc (.cells #[] 9)).drew.alloc (.cells #[.int .i64 k, .int .i64 (-1), .slice (some ⟨w3.heap.size, 0, none⟩) 0 0, .slice none 0 0] 62)).grownBy w6 (Value.ownBlock (.slice (some ⟨gL, 0, none⟩) t.L.length cL)) := hgrow
                                   have PH := push_hdr H4.out HO.out B5.out hgrow
                                   have c6 := PH.cell 0 (.slice (some ⟨gL, 0, none⟩) t.L.length cL) rfl
                                   have f6 := PH.frozen 0
                                   have FIN := Lib.hid (push_done (ns := []) (gN := w3.heap.size) (cN := 0) H4.out HO.out B5.out hgrow HX.out (SlS.nil _ _ _) hown (by simpa using hg) hglt)
                                   clear hown hgrow hg hglt PH)
                    all_goals
                      have G := Lib.hid (show RefTo w p F (t.push k []) (mkV ((t.L.length : Int), 0)) (.returned (mkV ((t.L.length : Int), 0))) (w6.setCell ⟨p, 0, none⟩ (.slice (some ⟨g, 0, none⟩) (t.L.length + 1) cap)) from
                        ⟨_, rfl, FIN.out.1, CH3.out.trans FIN.out.2 (fun x hx => .inl hx), fun b hb => hb.imp_right fun h => Nat.le_trans CH3.out.size h.1⟩)
                      clear FIN
                      go_wp2_with fail
                      go_ret2
                      rw [HR2.out]; exact G.out
                  · go_wp2_with fail
                    go_region_law (first
                      | (refine step_append_own (by rfl) _ _ _ (by rfl) w3.heap.size 9 i0 (.string ⟨#[]⟩) 1 16 Tryz.underlying41 hi0 hz0 hz1 hz2 rfl (by decide) (.slice (some ⟨w3.heap.size, 0, none⟩) 0 0) 0 [] (by rfl) (World.ownsRow_made w3 #[] 0 (Nat.le_refl _) (Nat.zero_le _) (by simp)) ad ns.length c (ns.map Value.string) (by rfl) (by rw [List.length_map, Nat.mul_one]) (news_of S4.out) (onesS ns) (by unfold maxLen; omega) (by omega) (by simp) (by simp) ?_
                         intro gN cN w5 hown hgrow
                         have SN := Lib.hid (made_names hown)
                         have B5 := Lib.hid (show Below w3.heap.size w3 w5 from ((Below.refl _ w3).alloc (Nat.le_refl _) (.cells #[] 9)).drew.grown hgrow (by simp) (by intro k hk; simp [Value.ownBlock] at hk; omega))
                         have c5 : w5.cell? ⟨p, 0, none⟩ = some (.slice (some ⟨gL, 0, none⟩) t.L.length cL) := (B5.out.cell (p := ⟨p, 0, none⟩) pl).trans c0
                         have pl5 : p < w5.heap.size := Nat.lt_of_lt_of_le pl B5.out.size
                         have HO5 := Lib.hid (own_keep HO.out (w' := w5) fun b hb => B5.out.block b (by simp [Value.ownBlock] at hb; subst hb; exact gl))
                         clear hown hgrow)
                      | (refine step_append_lies _ (by rfl) _ _ _ (by rfl) 0 62 i1 _ 4 64 Tryz.underlying53 hi1 hy0 hy1 hy2 rfl (by omega) (.slice (some ⟨gL, 0, none⟩) t.L.length cL) t.L.length xs (by rfl) (World.ownsRow.alloc HO5.out _) ⟨w5.heap.size, 0, none⟩ 1 1 [.int .i64 k, .int .i64 (-1), .slice (some ⟨gN, 0, none⟩) ns.length cN, .slice none 0 0] (by rfl) (by rfl) (World.news_of_block (cs := #[.int .i64 k, .int .i64 (-1), .slice (some ⟨gN, 0, none⟩) ns.length cN, .slice none 0 0]) (t := 62) (fr := (0, 0)) (heap_alloc_new w5 _)) (by simp [Value.oneCell']) (by omega) (by unfold maxLen; omega) (by omega) (Nat.zero_le _) (w5.heap.size + 1) (by simp) ?_
                         intro g cap w6 hown hgrow hg hglt
                         have PH := push_hdr H4.out HO.out B5.out hgrow
                         have c6 := PH.cell 0 (.slice (some ⟨gL, 0, none⟩) t.L.length cL) rfl
                         have f6 := PH.frozen 0
                         have FIN := Lib.hid (push_done H4.out HO.out B5.out hgrow HX.out SN.out hown hg hglt)
                         clear HO5 hown hgrow hg hglt PH))
                    all_goals
                      have G := Lib.hid (show RefTo w p F (t.push k ns) (mkV ((t.L.length : Int), 0)) (.returned (mkV ((t.L.length : Int), 0))) (w6.setCell ⟨p, 0, none⟩ (.slice (some ⟨g, 0, none⟩) (t.L.length + 1) cap)) from
                        ⟨_, rfl, FIN.out.1, CH3.out.trans FIN.out.2 (fun x hx => .inl hx), fun b hb => hb.imp_right fun h => Nat.le_trans CH3.out.size h.1⟩)
                      clear FIN
                      go_wp2_with fail
                      go_ret2
                      rw [HR2.out]; exact G.out
end Go.Proofs.YtjodmjadpooipaaGreatDoor.Sh
