/-
  Add of package shape.
  The walk of Add of package shape.
-/
import Derived.Test.YtjodmjadpooipaaGreatDoorKi
import Derived.Test.YtjodmjadpooipaaGreatDoorKe
import Derived.Deep.QuietTactic
namespace Go.Proofs.YtjodmjadpooipaaGreatDoor.Sh
open Go Go.RowKit

theorem rowC_same {x y : Shp} (h : Ld) (h1 : y.cls = x.cls) (h2 : y.names = x.names) (h3 : y.ali = x.ali) : rowC y h = rowC x h := by
  unfold rowC aliV; rw [h1, h2, h3]
/-- Only the map has turned. -/
theorem relink_at {w w' : World} {p : Nat} {t t' : Tre} {F : Nat → Prop} {vL vR : Value} {mb : Nat} {D D' : DataW Unit} {hd : Nat → Ld} (h : CodeAt w p t F vL vR mb D hd) (hl : t'.L.length = t.L.length) (hr : t'.roots = t.roots)
    (hs : ∀ s, (t'.sh s).cls = (t.sh s).cls ∧ (t'.sh s).names = (t.sh s).names ∧ (t'.sh s).ali = (t.sh s).ali) (same : ∀ b, F b → b ≠ mb → w'.heap[b]? = w.heap[b]?) (hz : w.heap.size ≤ w'.heap.size)
    (hm : w'.ownsMap Tryz.prog 77 (plainElem Tryz.prog 3) mb 65536 D') (hc : Cont D' t') : CodeAt w' p t' F vL vR mb D' hd := by
  obtain ⟨xs, h1, h2⟩ := h.rows
  refine ⟨fun b hb => Nat.lt_of_lt_of_le (h.lt b hb) hz, ?_, h.fp, ⟨xs, ?_, fun s hs' i u hu => ?_⟩, h.fL, ?_, h.fR, fun s hs' => ?_, fun s hs' => h.nils s (by omega), hm, hc, h.fM⟩
  · unfold Bk; rw [same p h.fp (map_ne_bk h.hp h.map)]; exact h.hp
  · rw [hl]; exact own_keep h1 fun b hb => same b (h.fL b hb) (fun e => map_ne_own h1 h.map (by rw [← e]; exact hb))
  · obtain ⟨a1, a2, a3⟩ := hs s
    rw [rowC_same _ a1 a2 a3] at hu
    exact h2 s (by omega) i u hu
  · rw [hr]; exact own_keep h.roots fun b hb => same b (h.fR b hb) (fun e => map_ne_own h.roots h.map (by rw [← e]; exact hb))
  · rw [(hs s).2.1]
    refine (h.names s (by omega)).keep fun b hb => ?_
    have e3 := same b hb.1 (fun e => by
      obtain ⟨cs, hc⟩ := hb.2
      obtain ⟨es, clock, hb', _⟩ := h.map
      rw [← e, hc] at hb'; cases hb')
    obtain ⟨cs, hc⟩ := hb.2
    exact ⟨⟨hb.1, cs, by rw [e3]; exact hc⟩, e3⟩
theorem look_ins' {nm x : ByteArray} {n : Nat} {l : List (ByteArray × Nat)} (hx : x ≠ nm) : lookL x (insL nm n l) = lookL x l := by
  unfold insL
  induction l with
  | nil => simp [lookL, Ne.symm hx]
  | cons q l ih =>
    rw [List.takeWhile_cons, List.dropWhile_cons]
    split
    · rw [List.cons_append]; unfold lookL; rw [ih]
    · rw [List.nil_append]; unfold lookL; rw [if_neg (Ne.symm hx)]; rfl
theorem lk_grow {t : Tre} {c : Nat} {nm : ByteArray} (hc : c < t.L.length) (ha : (t.sh c).ali = none) (hl : lookL nm (t.sh c).links = none) (f : Int) (x : ByteArray) :
    lkC (t.grow c nm) f x = if f = c ∧ x = nm then some t.L.length else lkC t f x := by
  unfold lkC
  by_cases hf : 0 ≤ f
  · obtain ⟨f, rfl⟩ := Int.eq_ofNat_of_zero_le hf
    rw [show ((f : Int).toNat) = f from rfl, grow_sh hc]
    by_cases e : f = c
    · subst e
      rw [if_neg (show ¬ f = t.L.length by omega), if_pos rfl]
      by_cases hx : x = nm
      · subst hx; rw [if_pos ⟨hf, ha⟩, if_pos ⟨rfl, rfl⟩]; exact look_ins hl
      · rw [if_neg (show ¬ ((f : Int) = f ∧ x = nm) from fun h => hx h.2), if_pos ⟨hf, ha⟩, if_pos ⟨hf, ha⟩]; exact look_ins' hx
    · have e' : ¬ ((f : Int) = c ∧ x = nm) := fun h => e (by omega)
      rw [if_neg e']
      by_cases e2 : f = t.L.length
      · subst e2; rw [if_pos rfl, sh_ge (Nat.le_refl _)]; rfl
      · rw [if_neg e2, if_neg e]
  · rw [if_neg (fun h => hf h.1), if_neg (show ¬ (f = c ∧ x = nm) from fun h => by omega), if_neg (fun h => hf h.1)]
theorem put_cont {t t' : Tre} {D : DataW Unit} {c : Nat} {nm : ByteArray} {n : Nat} (h : Cont D t) (hD : Maps.IsMap D) (hc : I64 c) (hn : nm.size ≤ maxLen)
    (hl : ∀ f x, I64 f → x.size ≤ maxLen → lkC t' f x = if f = c ∧ x = nm then some n else lkC t f x) : Cont (D.put (keyL c nm) (.lit (.int .i64 (n : Int)))) t' := fun f x hf hx => by
  rw [hl f x hf hx]
  have hk := keyed.key (keyOf_mk hc hn)
  by_cases e : f = c ∧ x = nm
  · rw [if_pos e]
    obtain ⟨rfl, rfl⟩ := e
    refine ⟨Maps.has_put_same hD hk _, fun a ha zd => ?_⟩
    injection ha with ha
    subst ha
    exact Maps.atKey_put_same hD hk _ _
  · rw [if_neg e]
    have hne : keyL f x ≠ keyL c nm := fun e2 => e (keyL_inj hf hx hc hn e2)
    rw [Maps.has_put_other hne]
    exact ⟨(h f x hf hx).1, fun a ha zd => by rw [Maps.atKey_put_other hne]; exact (h f x hf hx).2 a ha zd⟩
theorem run_zero_int (w : World) : (zeroValue 3).run Tryz.prog w = .ok (.int .i64 0) w := by kernel_rfl
/-- A look into the map. -/
theorem look_any {w : World} {mb n : Nat} {D : DataW Unit} {t : Tre} (h : w.ownsMap Tryz.prog 77 (plainElem Tryz.prog 3) mb n D) (hc : Cont D t) {f : Int} {nm : ByteArray} (hf : I64 f) (hn : nm.size ≤ maxLen) :
    ∃ a : Int, (Instr.lookup 68 (.map (some mb)) (keyV f nm) true).run Tryz.prog w = .ok (.tuple #[.int .i64 a, .bool (lkC t f nm).isSome]) w ∧ ∀ b : Nat, lkC t f nm = some b → a = b := by
  obtain ⟨v, ps, hr, hv⟩ := h.look_ok keyed Tryz.underlying68 (run_zero_int w) (plainElem_int Tryz.underlying3 (by decide)) (keyOf_mk hf hn)
  obtain ⟨a, rfl, e, _⟩ := plainElem_int_inv Tryz.underlying3 hv
  rw [(hc f nm hf hn).1] at hr
  refine ⟨a, hr, fun b hb => ?_⟩
  rw [(hc f nm hf hn).2 b hb] at e
  have := (Prod.mk.inj e).1
  simpa using this.symm
end Go.Proofs.YtjodmjadpooipaaGreatDoor.Sh
namespace Go.Proofs.YtjodmjadpooipaaGreatDoor.Sh
open Go Go.RowKit

theorem addC_hit {t : Tre} {s c : Nat} {nm : ByteArray} {a : Nat} (hs : s < t.L.length) (h0 : nm.size ≠ 0) (hn : nm ∉ (t.sh s).names) (hc : t.canon s = c) (hl : lookL nm (t.sh c).links = some a) : t.add s nm = (((t.canon a : Int), 0), t) := by
  unfold Tre.add
  rw [if_neg (by rw [there_nat hs]; decide), if_neg (by rw [namesI_nat hs]; rintro (e | e); exact h0 e; exact hn e), show (s : Int).toNat = s from rfl, hc, hl]
theorem addC_miss {t : Tre} {s c : Nat} {nm : ByteArray} (hs : s < t.L.length) (h0 : nm.size ≠ 0) (hn : nm ∉ (t.sh s).names) (hc : t.canon s = c) (hl : lookL nm (t.sh c).links = none) :
    t.add s nm = if 64 ≤ (t.sh s).names.length ∨ 200 ≤ t.L.length then ((0, 2), t) else (((t.L.length : Int), 0), t.grow c nm) := by
  unfold Tre.add
  rw [if_neg (by rw [there_nat hs]; decide), if_neg (by rw [namesI_nat hs]; rintro (e | e); exact h0 e; exact hn e), show (s : Int).toNat = s from rfl, hc, hl, namesI_nat hs]
theorem CodeTo.any {w w' : World} {p : Nat} {t : Tre} {F : Nat → Prop} {v : Value} {e : Ending} (h : CodeTo w p F t v e w') (he : e = .returned v) : CodeTo w p F t v (.returned v) w' := by rw [← he]; exact h
theorem lk_root {t : Tre} {n : Nat} (h : (t.sh n).ali = none) (nm : ByteArray) : lkC t (n : Int) nm = lookL nm (t.sh n).links := by
  unfold lkC; rw [if_pos ⟨by omega, h⟩]; rfl
set_option maxRecDepth 100000 in
set_option maxHeartbeats 8000000 in
theorem code_add (w : World) (p : Nat) (t : Tre) (F : Nat → Prop) (m : Nat) (s : Int) (nm : ByteArray) (h : CodeH w p t F) (hw : t.WF m) (h64 : ∀ s, (t.sh s).names.length ≤ 200) (hs : I64 s) (hnm : nm.size ≤ maxLen) :
    Calls Tryz.prog 25 #[.pointer (some ⟨p, 0, none⟩), .int .i64 s, .string nm] w (CodeTo w p F (t.add s nm).2 (mkV (t.add s nm).1)) := by
  have H := Lib.hid h
  have W := Lib.hid hw
  have H64 := Lib.hid h64
  have HS := Lib.hid hs
  have HN := Lib.hid hnm
  obtain ⟨R, hR⟩ : ∃ R, t.add s nm = R := ⟨_, rfl⟩
  rw [hR]
  have few := hw.few
  cases hb : t.there s
  · have E := Lib.hid (show t.canonI s = -1 by unfold Tre.canonI; rw [hb]; rfl)
    have RE := Lib.hid (show R = ((0, 1), t) by rw [← hR]; unfold Tre.add; rw [if_pos hb])
    have G := Lib.hid (CodeTo.low (v := mkV (0, 1)) H.out (Below.refl w.heap.size w))
    clear h hw h64 hs hnm hR hb
    go_enter Tryz.func25, Tryz.ntmps25
    go_wp2_with fail
    refine (code_canon _ p t F m s H.out W.out HS.out).mono ?_
    rintro e w' ⟨rfl, rfl⟩
    rw [E.out]
    go_wp2_with fail
    go_ret2
    rw [RE.out]; exact G.out
  · obtain ⟨s, rfl⟩ := Int.eq_ofNat_of_zero_le (there_iff.1 hb).1
    have sl : s < t.L.length := (there_iff.1 hb).2
    obtain ⟨n, hn⟩ : ∃ n, t.canon s = n := ⟨_, rfl⟩
    have nl : n < t.L.length := by rw [← hn]; exact canon_lt hw sl
    have na : (t.sh n).ali = none := by rw [← hn]; exact canon_root hw s
    obtain ⟨ns, hns⟩ : ∃ ns, (t.sh s).names = ns := ⟨_, rfl⟩
    have nn : (t.sh n).names = ns := by rw [← hn, canon_names hw, hns]
    have E := Lib.hid (show t.canonI (s : Int) = (n : Int) by rw [canonI_nat sl, hn])
    have ne : ((n : Int) == -1) = false := by rw [beq_eq_false_iff_ne]; omega
    have ni : (n : Int) < t.L.length := by omega
    have n64 := h64 s
    rw [hns] at n64
    have NI := Lib.hid (nat64 nl few)
    have NA := Lib.hid na
    have NN := Lib.hid nn
    obtain ⟨hsrt, vL, vR, mb, D, hd, h⟩ := h
    have SRT := Lib.hid hsrt
    have HA := Lib.hid h
    have c0 := h.c0
    obtain ⟨g, cL, hvL, hcap, _, gl, _, hrow⟩ := h.row nl
    have HVL := Lib.hid hvL
    rw [hvL] at c0
    obtain ⟨r0, r1, r2⟩ := hrow n nl
    rw [ali_none na] at r2
    rw [nn] at r1
    have SN := Lib.hid (show SlS w F (hd n).at ns by have := h.names n nl; rw [nn] at this; exact this.imp fun b hb => hb.1)
    have LT := Lib.hid h.lt
    obtain ⟨kc, hkc⟩ : ∃ k, (t.sh n).cls = k := ⟨_, rfl⟩
    rw [hkc] at r0
    have KC := Lib.hid hkc
    obtain ⟨l, hl⟩ : ∃ l, hd n = l := ⟨_, rfl⟩
    rw [hl] at r1 SN
    have LN := Lib.hid (show l.nA = none → l.nc = 0 by rw [← hl]; exact h.nils n nl)
    -- the copy of the shape
    obtain ⟨W1, hW1⟩ : ∃ W1, w.alloc (.cells #[.int .i64 kc, .slice l.at ns.length l.nc, .int .i64 (-1)] 65) = W1 := ⟨_, rfl⟩
    have B1 := Lib.hid (show Below w.heap.size w W1 by rw [← hW1]; exact (Below.refl _ w).alloc (Nat.le_refl _) _)
    have X1 := Lib.hid (show Bk W1 w.heap.size #[.int .i64 kc, .slice l.at ns.length l.nc, .int .i64 (-1)] 65 by rw [← hW1]; exact Bk.new w _ _)
    have S1 := Lib.hid (show SlS W1 F l.at ns from SN.out.keep fun b hF => ⟨hF, B1.out.block b (LT.out b hF)⟩)
    have H1 := Lib.hid (H.out.below B1.out)
    have NAME := Lib.hid (fun (h : nm.size = 0 ∨ nm ∈ (t.sh s).names) => hR.symm.trans (add_name sl h))
    have HIT := Lib.hid (fun h0 h1 a hl => hR.symm.trans (addC_hit (a := a) sl h0 h1 hn hl))
    have MISS := Lib.hid (fun h0 h1 hl => hR.symm.trans (addC_miss sl h0 h1 hn hl))
    rw [hns] at NAME HIT MISS
    clear h hw h64 hs hnm hR hb hn na nn hns hrow hkc hsrt hvL hl
    by_cases he : nm.size = 0
    · have ht : nm.toList = [] := by rw [ByteArray.toList_eq]; exact List.eq_nil_of_length_eq_zero (by simpa using he)
      have RE := Lib.hid (NAME.out (.inl he))
      have G := Lib.hid (CodeTo.low (v := mkV (0, 13)) H1.out B1.out)
      clear he
      go_enter Tryz.func25, Tryz.ntmps25
      go_wp2_with fail
      refine (code_canon _ p t F m _ H.out W.out HS.out).mono ?_
      rintro e w' ⟨rfl, rfl⟩
      rw [E.out]
      go_wp2_with fail
      go_ret2
      rw [RE.out]; exact G.out
    · have hte : nm.toList.isEmpty = false := by
        rw [ByteArray.toList_eq]; cases h : nm.data.toList with
        | nil => exact absurd (show nm.size = 0 by show nm.data.size = 0; rw [← Array.length_toList, h]; rfl) he
        | cons => rfl
      have x0 := X1.out.cell 0 (.int .i64 kc) rfl
      have x1 := X1.out.cell 1 (.slice l.at ns.length l.nc) rfl
      by_cases hm : nm ∈ ns
      · have RE := Lib.hid (NAME.out (.inr hm))
        have G := Lib.hid (CodeTo.low (v := mkV (0, 13)) H1.out B1.out)
        have HM := Lib.hid (show decide (nm ∈ ns) = true by simp [hm])
        clear he hm
        go_enter Tryz.func25, Tryz.ntmps25
        go_wp2_with fail
        refine (code_canon _ p t F m _ H.out W.out HS.out).mono ?_
        rintro e w' ⟨rfl, rfl⟩
        rw [E.out]
        go_wp2_with fail
        refine (contains_any F _ ns _ nm _ S1.out (by omega) true HM.out).mono ?_
        rintro e w' ⟨rfl, rfl⟩
        go_wp2_with fail
        go_ret2
        rw [RE.out]; exact G.out
      · have HIT := Lib.hid (HIT.out he hm)
        have MISS := Lib.hid (MISS.out he hm)
        have HM := Lib.hid (show decide (nm ∈ ns) = false by simp [hm])
        -- the key
        obtain ⟨Y, hY⟩ : ∃ Y, W1.heap.size = Y := ⟨_, rfl⟩
        obtain ⟨W2, hW2⟩ : ∃ W2, W1.alloc (.cells #[.int .i64 n, .string nm] 77) = W2 := ⟨_, rfl⟩
        have z1 := B1.out.size
        have B2 := Lib.hid (show Below w.heap.size w W2 by rw [← hW2]; exact B1.out.alloc z1 _)
        have X2 := Lib.hid (show Bk W2 w.heap.size #[.int .i64 kc, .slice l.at ns.length l.nc, .int .i64 (-1)] 65 by rw [← hW2]; exact X1.out.alloc _)
        have Y2 := Lib.hid (show Bk W2 Y #[.int .i64 n, .string nm] 77 by rw [← hW2, ← hY]; exact Bk.new W1 _ _)
        have H2 := Lib.hid (HA.out.keep fun b hF => B2.out.block b (LT.out b hF))
        have d2 := H2.out.c2
        have y0 := Y2.out.cell 0 (.int .i64 n) rfl
        have y1 := Y2.out.cell 1 (.string nm) rfl
        have v0 := X2.out.cell 0 (.int .i64 kc) rfl
        have v1 := X2.out.cell 1 (.slice l.at ns.length l.nc) rfl
        obtain ⟨a, lk, la⟩ := look_any (w := W2.drew) (f := (n : Int)) (nm := nm) H2.out.map H2.out.cont NI.out HN.out
        rw [lk_root NA.out] at lk la
        unfold keyV at lk
        clear he hm
        cases hlk : lookL nm (t.sh n).links with
        | some b =>
          obtain rfl : a = b := la b hlk
          have RE := Lib.hid (HIT.out b hlk)
          have bl : b < t.L.length := (W.out.li n (nm, b) (look_mem hlk)).1
          have CB := Lib.hid (canonI_nat bl)
          have BI := Lib.hid (nat64 bl few)
          have H2' := Lib.hid (show CodeH W2.drew p t F from (H2.out.codeH SRT.out).keep fun _ _ => rfl)
          have G := Lib.hid (CodeTo.low (v := mkV ((t.canon b : Int), 0)) H2'.out B2.out.drew)
          rw [hlk] at lk
          simp only [Option.isSome_some] at lk
          clear la hlk
          go_enter Tryz.func25, Tryz.ntmps25
          go_wp2_with fail
          refine (code_canon _ p t F m _ H.out W.out HS.out).mono ?_
          rintro e w' ⟨rfl, rfl⟩
          rw [E.out]
          go_wp2_with fail
          refine (contains_any F _ ns _ nm _ S1.out (by omega) false HM.out).mono ?_
          rintro e w' ⟨rfl, rfl⟩
          go_wp2_with fail
          go_region
          all_goals
            go_wp2_with fail
            refine (code_canon _ p t F m _ H2'.out W.out BI.out).mono ?_
            rintro e w' ⟨rfl, rfl⟩
            rw [CB.out]
            go_wp2_with fail
            go_ret2
            rw [RE.out]; exact G.out
        | none =>
          have MISS := Lib.hid (MISS.out hlk)
          have LK0 := Lib.hid hlk
          rw [hlk] at lk
          simp only [Option.isSome_none] at lk
          clear la hlk
          have B3 := Lib.hid B2.out.drew
          have H3 := Lib.hid (show CodeH W2.drew p t F from (H2.out.codeH SRT.out).keep fun _ _ => rfl)
          by_cases h64 : 64 ≤ ns.length
          · have RE := Lib.hid (MISS.out.trans (if_pos (.inl h64)))
            have G := Lib.hid (CodeTo.low (v := mkV (0, 2)) H3.out B3.out)
            go_enter Tryz.func25, Tryz.ntmps25
            go_wp2_with fail
            refine (code_canon _ p t F m _ H.out W.out HS.out).mono ?_
            rintro e w' ⟨rfl, rfl⟩
            rw [E.out]
            go_wp2_with fail
            refine (contains_any F _ ns _ nm _ S1.out (by omega) false HM.out).mono ?_
            rintro e w' ⟨rfl, rfl⟩
            go_wp2_with fail
            go_region
            all_goals
              go_wp2_with fail
              go_ret2
              rw [RE.out]; exact G.out
          · -- a new shape
            obtain ⟨Z, hZ⟩ : ∃ Z, W2.heap.size = Z := ⟨_, rfl⟩
            obtain ⟨W3, hW3⟩ : ∃ W3, W2.drew.alloc (.cells #[.string nm] 9) = W3 := ⟨_, rfl⟩
            have zz := B2.out.size
            have B4 := Lib.hid (show Below w.heap.size w W3 by rw [← hW3]; exact B3.out.alloc zz _)
            have H4 := Lib.hid (H.out.below B4.out)
            have Z3 := Lib.hid (show Bk W3 Z #[.string nm] 9 by rw [← hW3, ← hZ]; exact Bk.new W2.drew _ _)
            have Y3 := Lib.hid (show Bk W3 Y #[.int .i64 n, .string nm] 77 by rw [← hW3]; exact (show Bk W2.drew Y #[.int .i64 n, .string nm] 77 from Y2.out).alloc _)
            have YF := Lib.hid (show ¬ F Y from fun e => by have := LT.out Y e; omega)
            have z4 := B4.out.size
            have T1 := Lib.hid (show SlS W3 (· < W3.heap.size) l.at ns from (SN.out.keep fun b hF => ⟨hF, B4.out.block b (LT.out b hF)⟩).imp fun b hF => by have := LT.out b hF; omega)
            have T2 := Lib.hid (show SlS W3 (· < W3.heap.size) (some ⟨Z, 0, none⟩) [nm] from fun j x hx => by
              rcases j with _ | j
              · injection hx with hx; subst hx
                exact ⟨_, rfl, Z3.out.lt, Z3.out.cell 0 _ rfl⟩
              · simp at hx)
            by_cases h200 : 200 ≤ t.L.length
            · have RE := Lib.hid (MISS.out.trans (if_pos (.inr h200)))
              have G := Lib.hid (CodeTo.low (v := mkV (0, 2)) H4.out B4.out)
              go_enter Tryz.func25, Tryz.ntmps25
              go_wp2_with fail
              refine (code_canon _ p t F m _ H.out W.out HS.out).mono ?_
              rintro e w' ⟨rfl, rfl⟩
              rw [E.out]
              go_wp2_with fail
              refine (contains_any F _ ns _ nm _ S1.out (by omega) false HM.out).mono ?_
              rintro e w' ⟨rfl, rfl⟩
              go_wp2_with fail
              go_region
              all_goals
                go_wp2_with fail
                refine (grow_full _ p t F H4.out h200 few _ _ _).mono ?_
                rintro e w' ⟨rfl, rfl⟩
                dsimp only [mkV]
                go_wp2_with fail
                go_ret2
                rw [RE.out]; exact G.out
            · have RE := Lib.hid (MISS.out.trans (if_neg (fun h => h.elim h64 h200)))
              go_enter Tryz.func25, Tryz.ntmps25
              go_wp2_with fail
              refine (code_canon _ p t F m _ H.out W.out HS.out).mono ?_
              rintro e w' ⟨rfl, rfl⟩
              rw [E.out]
              go_wp2_with fail
              refine (contains_any F _ ns _ nm _ S1.out (by omega) false HM.out).mono ?_
              rintro e w' ⟨rfl, rfl⟩
              go_wp2_with fail
              go_region
              go_wp2_with fail
              refine (grow_ok _ p t F H4.out h200 kc l.at (some ⟨Z, 0, none⟩) ns [nm] (ns ++ [nm]) l.nc 1 T1.out T2.out (by omega) (by simp) (fun e => LN.out (by cases h : l.nA with | none => rfl | some g => simp [Ld.at, h] at e)) (fun e => by cases e) rfl).mono ?_
              rintro e w5 ⟨F5, rfl, h5, c5, s5⟩
              obtain ⟨hs5, vL5, vR5, mb5, D5, hd5, h5⟩ := h5
              have d5 := h5.c2
              have Y5 : Bk w5 Y #[.int .i64 n, .string nm] 77 := by
                have h := Y3.out
                unfold Bk at h ⊢
                rw [c5.block Y Y3.out.lt YF.out]; exact h
              have q0 := Y5.cell 0 (.int .i64 n) rfl
              have q1 := Y5.cell 1 (.string nm) rfl
              obtain ⟨w6, hrun, hm6, hg6⟩ := (show w5.drew.ownsMap Tryz.prog 77 (plainElem Tryz.prog 3) mb5 65536 D5 from h5.map).update keyed Tryz.underlying68 (by unfold maxLen; omega) (keyOf_mk NI.out HN.out) (plainElem_int Tryz.underlying3 (wf_int (n := (t.L.length : Int)) ⟨by omega, by omega⟩))
              unfold keyV at hrun
              have nlk : lookL nm (t.sh n).links = none := LK0.out
              have GL : (t.grow n nm).L.length = t.L.length + 1 := by simp [Tre.grow]
              have SG : Srt (t.grow n nm) := srt_grow SRT.out nl nlk
              have CO : Cont (D5.put (keyL n nm) (.lit (.int .i64 (t.L.length : Int)))) (t.grow n nm) :=
                put_cont h5.cont h5.map.isMap NI.out HN.out (fun f x _ _ => by rw [lk_grow nl NA.out nlk, lk_push])
              have FIN : CodeAt w6 p (t.grow n nm) F5 vL5 vR5 mb5 (D5.put (keyL n nm) (.lit (.int .i64 (t.L.length : Int)))) hd5 :=
                relink_at h5 (by rw [GL]; simp [Tre.push]) rfl (fun s => by
                  rw [grow_sh nl, show (t.push kc (ns ++ [nm])).sh s = if s = t.L.length then ⟨kc, none, ns ++ [nm], []⟩ else t.sh s from sh_push t _ _ s]
                  by_cases e1 : s = t.L.length
                  · rw [if_pos e1, if_pos e1, KC.out, NN.out]; exact ⟨rfl, rfl, rfl⟩
                  · rw [if_neg e1, if_neg e1]
                    by_cases e2 : s = n
                    · subst e2; rw [if_pos rfl]; exact ⟨rfl, rfl, rfl⟩
                    · rw [if_neg e2]; exact ⟨rfl, rfl, rfl⟩)
                  (fun b hF hne => hg6.block b (h5.lt b hF) (fun e => hne (by injection e))) hg6.size (D_size hm6 CO SG (by omega)) CO
              have G := Lib.hid (show CodeTo w p F (t.grow n nm) (mkV ((t.L.length : Int), 0)) (.returned (mkV ((t.L.length : Int), 0))) w6 from by
                have k1 : Chg F w w5 := (Chg.of_below B4.out).trans c5 (fun x hx => .inl hx)
                have k2 : Sub F F5 w := fun b hb => (s5 b hb).imp_right fun h => Nat.le_trans z4 h
                exact ⟨F5, rfl, FIN.codeH SG, k1.trans (G := fun b => b = mb5) ⟨hg6.os, hg6.tape, hg6.output, hg6.size, fun b hb hne => hg6.block b hb (fun e => hne (by injection e))⟩ (fun x hx => by subst hx; exact k2 _ h5.fM), k2⟩)
              clear h5 hs5 c5 s5 Y5 hm6 hg6 nlk GL SG CO FIN
              dsimp only [mkV]
              go_wp2_with fail
              go_region
              all_goals
                go_wp2_with fail
                go_ret2
                rw [RE.out]; exact G.out
end Go.Proofs.YtjodmjadpooipaaGreatDoor.Sh
