/-
  The walk of ShapeMerges.
-/
import Derived.Test.YtnapfhnmccpffaaDoorSy
import Derived.Maps.AppendAt
namespace Go.Proofs.YtnapfhnmccpffaaDoor.Sh
open Go Go.RowKit

theorem infoSS : (Tryd.prog.info? 42).map (fun i => (i.zero, i.size, i.bytes)) = some (some (.slice none 0 0), 1, 24) := by kernel_rfl
/-- Values that are slices of the names of t's first shapes, each in blocks of P. -/
def NamesL (w : World) (P : Nat → Prop) (t : Tre) (vs : List Value) : Prop :=
  ∀ j u, vs[j]? = some u → ∃ A c, u = .slice A (t.sh j).names.length c ∧ SlS w P A (t.sh j).names
theorem NamesL.keep {w w' : World} {P Q : Nat → Prop} {t : Tre} {vs : List Value} (h : NamesL w P t vs) (hk : ∀ b, P b → Q b ∧ w'.heap[b]? = w.heap[b]?) : NamesL w' Q t vs := fun j u hu => by
  obtain ⟨A, c, e, hs⟩ := h j u hu
  exact ⟨A, c, e, hs.keep hk⟩
def Out (w : World) (F : Nat → Prop) (b : Nat) : Prop := b < w.heap.size ∧ ¬ F b
def OutB (w : World) (F : Nat → Prop) (v : Value) (b : Nat) : Prop := b < w.heap.size ∧ ¬ F b ∧ v.ownBlock ≠ some b
theorem NamesL.low {w w' : World} {F : Nat → Prop} {t : Tre} {vs : List Value} (h : NamesL w (Out w F) t vs) (hb : Below w.heap.size w w') : NamesL w' (Out w' F) t vs := h.keep fun b h => ⟨⟨Nat.lt_of_lt_of_le h.1 hb.size, h.2⟩, hb.block b h.1⟩
theorem NamesL.chg {w w' : World} {F F' : Nat → Prop} {t : Tre} {vs : List Value} (h : NamesL w (Out w F) t vs) (hc : Chg F w w') (s : Sub F F' w) : NamesL w' (Out w' F') t vs :=
  h.keep fun b h => ⟨⟨Nat.lt_of_lt_of_le h.1 hc.size, fun e => (s b e).elim h.2 (by have := h.1; omega)⟩, hc.block b h.1 h.2⟩
theorem NamesL.snoc {w : World} {P : Nat → Prop} {t : Tre} {vs : List Value} {A : Option Addr} {c k : Nat} (h : NamesL w P t vs) (hk : vs.length = k) (hs : SlS w P A (t.sh k).names) : NamesL w P t (vs ++ [.slice A (t.sh k).names.length c]) := fun j u hu => by
  rcases Nat.lt_trichotomy j vs.length with g | g | g
  · rw [List.getElem?_append_left g] at hu; exact h j u hu
  · subst g; subst hk
    rw [List.getElem?_append_right (Nat.le_refl _), Nat.sub_self] at hu
    injection hu with hu; subst hu
    exact ⟨A, c, rfl, hs⟩
  · rw [List.getElem?_eq_none (by simp; omega)] at hu; cases hu
/-- A row of values in a block outside of the tree. -/
def RowV (w : World) (F : Nat → Prop) (g : Nat) (vs : List Value) : Prop := g < w.heap.size ∧ ¬ F g ∧ ∀ j u, vs[j]? = some u → w.cell? ⟨g, j, none⟩ = some u
theorem RowV.low {w w' : World} {F : Nat → Prop} {g : Nat} {vs : List Value} (h : RowV w F g vs) (hb : Below w.heap.size w w') : RowV w' F g vs :=
  ⟨Nat.lt_of_lt_of_le h.1 hb.size, h.2.1, fun j u hu => (hb.cell (p := ⟨g, j, none⟩) h.1).trans (h.2.2 j u hu)⟩
theorem RowV.chg {w w' : World} {F F' : Nat → Prop} {g : Nat} {vs : List Value} (h : RowV w F g vs) (hc : Chg F w w') (s : Sub F F' w) : RowV w' F' g vs :=
  ⟨Nat.lt_of_lt_of_le h.1 hc.size, fun e => (s g e).elim h.2.1 (by have := h.1; omega), fun j u hu => (hc.cell (p := ⟨g, j, none⟩) h.1 h.2.1).trans (h.2.2 j u hu)⟩
/-- What outlives a loop over the names: the tree, the row, the names. -/
structure Mg (K : Kit) (w0 w : World) (p : Nat) (t0 t : Tre) (F : Nat → Prop) (g : Nat) (vs : List Value) : Prop where
  tr : Tr K w0 w p t F
  row : RowV w F g vs
  nl : NamesL w (Out w F) t0 vs
section
variable {K : Kit} {w0 w w' : World} {p g : Nat} {t0 t t' : Tre} {F F' : Nat → Prop} {vs : List Value}
theorem Mg.low (h : Mg K w0 w p t0 t F g vs) (hb : Below w.heap.size w w') : Mg K w0 w' p t0 t F g vs := ⟨h.tr.below hb, h.row.low hb, h.nl.low hb⟩
theorem Mg.drewN (h : Mg K w0 w p t0 t F g vs) (n : Nat) : Mg K w0 (w.drewN n) p t0 t F g vs := ⟨h.tr.drewN n, h.row, h.nl⟩
theorem Mg.drew (h : Mg K w0 w p t0 t F g vs) : Mg K w0 w.drew p t0 t F g vs := h.drewN 1
theorem Mg.chg (h : Mg K w0 w p t0 t F g vs) (h' : Tr K w0 w' p t' F') (hc : Chg F w w') (s : Sub F F' w) : Mg K w0 w' p t0 t' F' g vs := ⟨h', h.row.chg hc s, h.nl.chg hc s⟩
end
theorem oneNewV (w : World) (y : Value) (T : TypeId) : ∀ j u, [y][j]? = some u → (w.alloc (.cells #[y] T)).cell? ((⟨w.heap.size, 0, none⟩ : Addr).add j) = some u := by
  intro j u h
  rcases j with _ | j
  · injection h with h; subst h
    show (w.alloc _).cell? ⟨w.heap.size, 0, none⟩ = _
    rw [World.cell?_alloc_new]; rfl
  · simp at h
def bNew : ByteArray := ⟨#[110, 101, 119]⟩
set_option maxRecDepth 100000 in
set_option maxHeartbeats 8000000 in
theorem merges_walk (K : Kit) (n q0 q1 : Int) (hn : I64 n) (_h0 : I64 q0) (_h1 : I64 q1) (acts : List Act) (A : Option Addr) (c B : Nat) (w : World) (ha : ActS w B A acts) (hB : B ≤ w.heap.size) (hl : acts.length ≤ 4398046511104) (hok : ∀ x ∈ acts, x.OK) (hv : K.V w) :
    Calls Tryd.prog 6 #[.int .i64 n, .slice A acts.length c, .agg #[.int .i64 q0, .int .i64 q1]] w fun e w' => e = .returned (.bool true) ∧ Below w.heap.size w w' := by
  have HA := Lib.hid ha
  have HOK := Lib.hid hok
  have HN := Lib.hid hn
  have HV := Lib.hid hv
  clear hv ha hok hn _h0 _h1
  go_enter Tryd.func6, Tryd.ntmps6
  go_wp2_with fail
  refine (sanity_any K _ (K.vkeep HV.out ((Below.refl _ w).alloc (Nat.le_refl _) _))).mono ?_
  rintro e w1 ⟨rfl, hb⟩
  have BX := Lib.hid ((Bk.new w #[.int .i64 q0, .int .i64 q1] 39).below hb (by simp))
  have B1 := Lib.hid (((Below.refl _ w).alloc (Nat.le_refl _) (.cells #[.int .i64 q0, .int .i64 q1] 39)).trans (hb.mono (by simp)))
  clear hb
  go_wp2_with fail
  refine (played_any K n HN.out acts A c B _ (HA.out.below B1.out hB) (by have := B1.out.size; omega) hl HOK.out (K.vkeep HV.out B1.out)).mono ?_
  rintro e w2 ⟨p, F, rfl, hs⟩
  have IN := Lib.hid (playT_inv (acts.take 60) (cls_inv n))
  replace BX := Lib.hid (BX.out.below hs.b BX.out.lt)
  have hs := Lib.hid hs
  have FL := (clsOf_len n).1
  generalize playT (newT (clsOf n)) (acts.take 60) = t at *
  obtain ⟨N, hN⟩ : ∃ N, t.L.length = N := ⟨_, rfl⟩
  have N1 : 0 < N := by rw [← hN]; exact IN.out.pos (by omega)
  have N2 : N ≤ 200 := by rw [← hN]; exact IN.out.ok.wf.few
  have LN := Lib.hid hN
  clear hN
  have nz : ((N : Int) == 0) = false := by simp; omega
  have W := Lib.hid IN.out.ok.wf
  go_wp2_with fail
  refine (count_at hs.out W.out LN.out).mono ?_
  rintro e w3 ⟨rfl, h, hb⟩
  replace hs := Lib.hid h
  replace BX := Lib.hid (Bk.low hb BX.out)
  clear h hb
  go_wp2_with fail
  refine (count_at hs.out W.out LN.out).mono ?_
  rintro e w4 ⟨rfl, h, hb⟩
  replace hs := Lib.hid h
  replace BX := Lib.hid (Bk.low hb BX.out)
  clear h hb
  obtain ⟨t1, e1, l1, g1, s1, r1, _⟩ := rem_facts q0 (N : Int) (by omega) (by omega)
  have hs0 := Int.emod_nonneg q0 (show (N : Int) ≠ 0 by omega)
  have hs1 := Int.emod_lt_of_pos q0 (show 0 < (N : Int) by omega)
  obtain ⟨a, hse⟩ := Int.eq_ofNat_of_zero_le hs0
  rw [hse] at r1 hs1
  have aN : a < N := by omega
  clear hse hs0 hs1
  obtain ⟨t2, e2, l2, g2, s2, r2, _⟩ := rem_facts q1 (N : Int) (by omega) (by omega)
  have hs0 := Int.emod_nonneg q1 (show (N : Int) ≠ 0 by omega)
  have hs1 := Int.emod_lt_of_pos q1 (show 0 < (N : Int) by omega)
  obtain ⟨b, hse⟩ := Int.eq_ofNat_of_zero_le hs0
  rw [hse] at r2 hs1
  have bN : b < N := by omega
  clear hse hs0 hs1
  have n0 : ¬ N = 0 := by omega
  have c0 := BX.out.cell 0 (.int .i64 q0) rfl
  have c1 := BX.out.cell 1 (.int .i64 q1) rfl
  go_wp2_with fail
  go_quiet (fail)
  replace hs := Lib.hid (hs.out.drewN nq)
  clear e1 l1 g1 s1 r1 e2 l2 g2 s2 r2 n0 c0 c1 BX
  generalize w4.drewN nq = w5 at *
  have BS := Lib.hid (show ∀ b, F b → b < w5.heap.size from K.lt hs.out.h)
  have W5 := Lib.hid (Below.refl w5.heap.size w5)
  have BL := Lib.hid hs.out.b.size
  go_wp2_with fail
  go_loopw [12, 13] (fun v i wr => ∃ (k : Nat) (vs : List Value) (v0 : Value), k ≤ N ∧ i = .int .i64 k ∧ v = v0 ∧ vs.length = k ∧ Hid (Tr K w1 wr p t F) ∧ Hid (NamesL wr (OutB wr F v) t vs) ∧ Hid (wr.ownsRow w5.heap.size 42 1 v k vs) ∧ Hid (Below w5.heap.size w5 wr)) (fun _ i _ => N - (intOf i).toNat)
  case atStart => exact ⟨0, [], _, by omega, rfl, rfl, rfl, hs, Lib.hid (fun j u h => by cases h), Lib.hid (World.ownsRow_nil _ _ _ _), W5⟩
  case round =>
    clear hs W5
    obtain ⟨k, vs, v, hk, rfl, hv0, hvl, hs, hnl, ho, hw⟩ := hrel
    have hv1 := hv0.symm
    subst hv1
    obtain ⟨i0, hi0, hz0, hz1, hz2⟩ := info_parts infoSS
    by_cases hlt : k < N
    · have kl : k < t.L.length := by rw [LN.out]; exact hlt
      have KI := Lib.hid (nat64 hlt N2)
      have RN := Lib.hid (namesI_nat kl)
      clear kl
      go_wp2_with fail
      refine (names_lo_at hs.out W.out KI.out RN.out).mono ?_
      rintro e w6 ⟨A1, k1, rfl, _, hsl, h, hb⟩
      have HV := Lib.hid hvl
      have NL := Lib.hid (NamesL.snoc (w := w6) (P := OutB w6 F v) (c := k1) (hnl.out.keep fun b h => ⟨⟨Nat.lt_of_lt_of_le h.1 hb.size, h.2⟩, hb.block b h.1⟩) hvl
        (hsl.imp fun b h => ⟨h.2, fun e => by have := K.lt hs.out.h b e; omega, fun e => by have := (ho.out.lt b e).2; omega⟩))
      have HO := Lib.hid ((World.ownsRow.kept ho.out (row := none) ⟨hb.os, hb.tape, hb.output, hb.size, fun i hi _ => hb.block i hi⟩ (by cases hv : Value.ownBlock _ <;> simp)).alloc (.cells #[.slice A1 (t.sh k).names.length k1] 42))
      have HB := Lib.hid (hw.out.trans (hb.mono hw.out.size))
      replace hs := Lib.hid h
      clear h hb hsl hnl ho hw hvl
      go_wp2_with (at_builtin; refine wpList_append_own_at _ rfl _ _ 54 rfl w5.heap.size 42 i0 (.slice none 0 0) 1 24 Tryd.underlying54 hi0 hz0 hz1 hz2 rfl (by decide) _ _ _ rfl HO.out ⟨_, 0, none⟩ 1 1 [.slice A1 (t.sh k).names.length k1] rfl ?qc1 ?qc2 ?qc3 ?qc4 ?qc5 ?qc6 ?_)
      case qc1 => rfl
      case qc2 => exact oneNewV _ _ _
      case qc3 => intro u hu; rw [List.mem_singleton] at hu; subst hu; rfl
      case qc4 => unfold maxLen; omega
      case qc5 => omega
      case qc6 => rw [World.size_alloc]; have := HB.out.size; omega
      intro v2 w7 hown hgrow _ hat
      have BG : ∀ b, v.ownBlock = some b → w5.heap.size ≤ b := fun b hb => (HO.out.lt b hb).1
      have HB2 := Lib.hid (show Below w5.heap.size w5 w7 from (HB.out.alloc HB.out.size _).grown hgrow (by rw [World.size_alloc]; have := HB.out.size; omega) BG)
      have R1 := Lib.hid (show Tr K w1 w7 p t F from (hs.out.alloc _).turned2 hgrow (fun b hb => ⟨fun e => by have := BS.out b e; have := BG b hb; omega, Nat.le_trans BL.out (BG b hb)⟩))
      have R2 := Lib.hid (show NamesL w7 (OutB w7 F v2) t (vs ++ [.slice A1 (t.sh k).names.length k1]) from NL.out.keep fun b h => by
        have hlt : b < (w6.alloc (.cells #[.slice A1 (t.sh k).names.length k1] 42)).heap.size := by rw [World.size_alloc]; have := h.1; omega
        refine ⟨⟨Nat.lt_of_lt_of_le hlt hgrow.size, h.2.1, fun e => ?_⟩, ?_⟩
        · rcases hat with hat | hat
          · exact h.2.2 (hat.symm.trans e)
          · rw [hat] at e; injection e with e; have := h.1; (try rw [World.size_alloc] at e); omega
        · rw [hgrow.block b hlt (fun e => h.2.2 e.symm)]; exact Below.heap_alloc _ _ _ h.1)
      clear hgrow hat NL HO HB BG
      have R3 := Lib.hid hown
      clear hown
      go_wp2_with fail
      go_roundw
      case rel => exact ⟨k + 1, _, _, by omega, by go_num, rfl, by rw [List.length_append, HV.out]; rfl, R1, R2, R3, HB2⟩
      case measure => simp [intOf]; omega
    · have hkN : k = N := by omega
      subst hkN
      obtain ⟨g, cap, rfl, hgb, hgl⟩ := World.ownsRow.form ho.out N1
      have mg := Lib.hid (show Mg K w1 wr p t t F g vs from ⟨hs.out, ⟨hgl, fun e => by have := BS.out g e; omega, fun j u hu => by
          have hj : j < vs.length := (List.getElem?_eq_some_iff.1 hu).1
          rw [World.ownsRow.cellAt ho.out j (by omega)]; exact hu⟩, hnl.out.keep fun b h => ⟨⟨h.1, h.2.1⟩, rfl⟩⟩)
      have VL : vs.length ≤ k := by omega
      have VL2 : k ≤ vs.length := by omega
      clear hs hnl ho hw hgb hgl hvl
      generalize k = N at *
      have al : a < t.L.length := by rw [LN.out]; exact aN
      have bl : b < t.L.length := by rw [LN.out]; exact bN
      have AI := Lib.hid (nat64 aN N2)
      have BI := Lib.hid (nat64 bN N2)
      obtain ⟨ka, hka⟩ : ∃ ka, (t.sh a).cls = ka := ⟨_, rfl⟩
      obtain ⟨kb, hkb⟩ : ∃ kb, (t.sh b).cls = kb := ⟨_, rfl⟩
      obtain ⟨na, hna⟩ : ∃ na, (t.sh a).names = na := ⟨_, rfl⟩
      obtain ⟨nb, hnb⟩ : ∃ nb, (t.sh b).names = nb := ⟨_, rfl⟩
      have na6 : na.length ≤ 6 := by rw [← hna]; exact names_len IN.out a
      have nb6 : nb.length ≤ 6 := by rw [← hnb]; exact names_len IN.out b
      have CA := Lib.hid (show t.clsI (a : Int) = (ka : Int) by rw [clsI_nat al, hka])
      have CB := Lib.hid (show t.clsI (b : Int) = (kb : Int) by rw [clsI_nat bl, hkb])
      have NA := Lib.hid (show t.namesI (a : Int) = na by rw [namesI_nat al, hna])
      have NB := Lib.hid (show t.namesI (b : Int) = nb by rw [namesI_nat bl, hnb])
      obtain ⟨ca, hca⟩ : ∃ ca, t.canon a = ca := ⟨_, rfl⟩
      have RC := Lib.hid (show t.canonI (a : Int) = (ca : Int) by rw [canonI_nat al, hca])
      have AL := Lib.hid (show t.alike (a : Int) (b : Int) = true ↔ ka = kb ∧ na = nb by
        rw [alike_iff, ← hka, ← hkb, ← hna, ← hnb]
        exact ⟨fun h => h.2.2, fun h => ⟨there_nat al, there_nat bl, h⟩⟩)
      have TWO := Lib.hid (fun h => merge_two (nm := bNew) IN.out.ok (by decide) al bl h (by decide) (by decide))
      rw [hca] at TWO
      clear al bl hka hkb hna hnb hca
      by_cases hk1 : ka = kb
      · subst hk1
        by_cases hn1 : na = nb
        · obtain ⟨tm, m1, m2, m3, m4, m5, m6, m7, m8, m9, m10, m11⟩ := TWO.out (AL.out.2 ⟨rfl, hn1⟩)
          have HNN := Lib.hid hn1
          have M1 := Lib.hid m1
          have WM := Lib.hid m2.wf
          have LM := Lib.hid (show tm.L.length = N by rw [m3, LN.out])
          have NM := Lib.hid m4
          obtain ⟨x1, x2, hx1⟩ : ∃ x1 x2, (tm.add (a : Int) bNew).1 = (x1, x2) := ⟨_, _, rfl⟩
          obtain ⟨ta, hta⟩ : ∃ ta, (tm.add (a : Int) bNew).2 = ta := ⟨_, rfl⟩
          have A1 := Lib.hid (show tm.add (a : Int) bNew = ((x1, x2), ta) by rw [← hx1, ← hta])
          rw [hta] at m7 m8 m9 m10 m11
          have A2 := Lib.hid (show ta.add (b : Int) bNew = ((x1, x2), ta) by rw [← hx1, m7]; exact Prod.ext rfl m11)
          have WA := Lib.hid (wf_add WM.out A1.out)
          have lal : a < ta.L.length := by have := m10; rw [LN.out] at this; omega
          have lbl : b < ta.L.length := by have := m10; rw [LN.out] at this; omega
          have KA := Lib.hid (show ta.canonI (a : Int) = (ca : Int) by rw [canonI_nat lal, m8])
          have KB := Lib.hid (show ta.canonI (b : Int) = (ca : Int) by rw [canonI_nat lbl, m9])
          clear m1 m2 m3 m4 m5 m6 m7 m8 m9 m10 m11 hx1 hta lal lbl hn1 TWO AL
          go_wp2_with fail
          refine (cls_at mg.out.tr W.out AI.out CA.out).mono ?_
          rintro e w8 ⟨rfl, _, hb⟩
          replace mg := Lib.hid (mg.out.low hb)
          clear hb
          go_wp2_with fail
          refine (cls_at mg.out.tr W.out BI.out CB.out).mono ?_
          rintro e w9 ⟨rfl, _, hb⟩
          replace mg := Lib.hid (mg.out.low hb)
          clear hb
          go_wp2_with fail
          refine (names_at mg.out.tr W.out AI.out NA.out).mono ?_
          rintro e w10 ⟨A3, k3, rfl, _, hsl, _, hb⟩
          have X1 := Lib.hid hsl
          replace mg := Lib.hid (mg.out.low hb)
          clear hb hsl
          go_wp2_with fail
          refine (names_at mg.out.tr W.out BI.out NB.out).mono ?_
          rintro e w11 ⟨A4, k4, rfl, _, hsl, _, hb⟩
          have X2 := Lib.hid hsl
          replace X1 := Lib.hid (X1.out.low hb)
          replace mg := Lib.hid (mg.out.low hb)
          clear hb hsl
          go_wp2_with fail
          refine (strings_eq _ _ A3 A4 na nb k3 k4 _ X1.out X2.out (by omega) (by omega) HNN.out).mono ?_
          rintro e w12 ⟨rfl, nq, hw⟩
          replace mg := Lib.hid (show Mg K w1 w12 p t t F g vs by rw [hw]; exact mg.out.drewN nq)
          clear hw X1 X2
          go_wp2_with fail
          refine (canon_at mg.out.tr W.out AI.out RC.out).mono ?_
          rintro e w13 ⟨rfl, _, hb⟩
          replace mg := Lib.hid (mg.out.low hb)
          clear hb
          go_wp2_with fail
          refine (merge_at mg.out.tr W.out AI.out BI.out M1.out).mono ?_
          rintro e w14 ⟨F1, rfl, h, hc, hsb⟩
          replace mg := Lib.hid (mg.out.chg h hc hsb)
          clear h hc hsb
          clear W LN CA CB NA NB RC
          go_wp2_with fail
          go_loopw [17] (fun i wr => ∃ k : Nat, k ≤ N ∧ i = .int .i64 k ∧ Hid (Mg K w1 wr p t tm F1 g vs)) (fun i _ => N - (intOf i).toNat)
          case atStart => exact ⟨0, by omega, rfl, mg⟩
          case round =>
            clear mg
            obtain ⟨k, hk, rfl, mg⟩ := hrel
            by_cases hlt : k < N
            · have kl : k < tm.L.length := by rw [LM.out]; exact hlt
              have KI := Lib.hid (nat64 hlt N2)
              have RN := Lib.hid (show tm.namesI (k : Int) = (t.sh k).names by rw [namesI_nat kl]; exact NM.out k)
              obtain ⟨A1, k1, hu, hsl⟩ := mg.out.nl k _ (List.getElem?_eq_getElem (show k < vs.length by omega))
              have c0 := mg.out.row.2.2 k _ (List.getElem?_eq_getElem (show k < vs.length by omega))
              rw [hu] at c0
              have SO := Lib.hid hsl
              have G0 := Lib.hid mg.out.row.1
              have nl6 : (t.sh k).names.length ≤ 6 := names_len IN.out k
              have hk2 : (k : Int) < N := by omega
              obtain ⟨ns, hns⟩ : ∃ ns, (t.sh k).names = ns := ⟨_, rfl⟩
              rw [hns] at RN c0 SO nl6
              clear kl hu hsl hns
              go_wp2_with fail
              go_region_held3 (fun w' => w'.cell? ⟨g, k, none⟩ = some (.slice A1 ns.length k1)) (first | exact c0) ((first
                | (go_at_call 21
                   (refine (names_at (by first | exact mg.out.tr | exact mg.out.drew.tr | exact mg.out.drew.drew.tr | exact mg.out.drew.drew.drew.tr) WM.out KI.out RN.out).mono ?_)
                   rintro e w' ⟨A2, k2, rfl, _, hsl, h, hb⟩
                   have NEW := Lib.hid (show SlS w' (fun _ => True) A2 ns from hsl.imp fun _ _ => trivial)
                   have SO2 := Lib.hid (show SlS w' (fun _ => True) A1 ns from SO.out.keep fun b h => ⟨trivial, hb.block b h.1⟩)
                   replace c0 := (hb.cell (p := ⟨g, k, none⟩) G0.out).trans c0
                   (first | replace mg := Lib.hid (mg.out.low hb) | replace mg := Lib.hid (mg.out.drew.low hb) | replace mg := Lib.hid (mg.out.drew.drew.low hb) | replace mg := Lib.hid (mg.out.drew.drew.drew.low hb))
                   clear hb h hsl)
                | (go_at_call 24
                   (refine (strings_eq (fun _ => True) (fun _ => True) A2 A1 ns ns k2 k1 _ NEW.out SO2.out (by omega) (by omega) rfl).mono ?_)
                   rintro e w' ⟨rfl, nq, hw⟩
                   (first | replace mg := Lib.hid (show Mg K w1 w' p t tm F1 g vs by rw [hw]; exact mg.out.drewN nq) | replace mg := Lib.hid (show Mg K w1 w' p t tm F1 g vs by rw [hw]; exact mg.out.drew.drewN nq) | replace mg := Lib.hid (show Mg K w1 w' p t tm F1 g vs by rw [hw]; exact mg.out.drew.drew.drewN nq))
                   replace c0 : w'.cell? ⟨g, k, none⟩ = some (.slice A1 ns.length k1) := by rw [hw]; exact c0
                   clear hw)))
              go_wp2_with fail
              go_roundw
              case rel => exact ⟨k + 1, by omega, by go_num, mg⟩
              case measure => simp [intOf]; omega
            · have hkN : k = N := by omega
              subst hkN
              go_wp2_with fail
              refine (add_at (nm := bNew) mg.out.tr WM.out AI.out (by unfold maxLen; decide) A1.out).mono ?_
              rintro e w15 ⟨F2, rfl, h, hc, hsb⟩
              replace mg := Lib.hid (mg.out.chg h hc hsb)
              clear h hc hsb
              go_wp2_with fail
              refine (add_at (nm := bNew) mg.out.tr WA.out BI.out (by unfold maxLen; decide) A2.out).mono ?_
              rintro e w16 ⟨F3, rfl, h, hc, hsb⟩
              replace mg := Lib.hid (mg.out.chg h hc hsb)
              clear h hc hsb
              go_wp2_with fail
              refine (canon_at mg.out.tr WA.out AI.out KA.out).mono ?_
              rintro e w17 ⟨rfl, _, hb⟩
              replace mg := Lib.hid (mg.out.low hb)
              clear hb
              go_wp2_with fail
              refine (canon_at mg.out.tr WA.out BI.out KB.out).mono ?_
              rintro e w18 ⟨rfl, _, hb⟩
              replace mg := Lib.hid (mg.out.low hb)
              clear hb
              go_wp2_with fail
              go_ret
              exact ⟨by simp, B1.out.trans (mg.out.tr.b.mono B1.out.size)⟩
        · have ME := Lib.hid (merge_err (t := t) (a := (a : Int)) (b := (b : Int)) (by rw [Bool.eq_false_iff]; exact fun h => hn1 (AL.out.1 h).2))
          have HNN := Lib.hid hn1
          clear hn1 TWO AL
          go_wp2_with fail
          refine (cls_at mg.out.tr W.out AI.out CA.out).mono ?_
          rintro e w8 ⟨rfl, _, hb⟩
          replace mg := Lib.hid (mg.out.low hb)
          clear hb
          go_wp2_with fail
          refine (cls_at mg.out.tr W.out BI.out CB.out).mono ?_
          rintro e w9 ⟨rfl, _, hb⟩
          replace mg := Lib.hid (mg.out.low hb)
          clear hb
          go_wp2_with fail
          refine (names_at mg.out.tr W.out AI.out NA.out).mono ?_
          rintro e w10 ⟨A3, k3, rfl, _, hsl, _, hb⟩
          have X1 := Lib.hid hsl
          replace mg := Lib.hid (mg.out.low hb)
          clear hb hsl
          go_wp2_with fail
          refine (names_at mg.out.tr W.out BI.out NB.out).mono ?_
          rintro e w11 ⟨A4, k4, rfl, _, hsl, _, hb⟩
          have X2 := Lib.hid hsl
          replace X1 := Lib.hid (X1.out.low hb)
          replace mg := Lib.hid (mg.out.low hb)
          clear hb hsl
          go_wp2_with fail
          refine (strings_ne _ _ A3 A4 na nb k3 k4 _ X1.out X2.out (by omega) (by omega) HNN.out).mono ?_
          rintro e w12 ⟨rfl, nq, hw⟩
          replace mg := Lib.hid (show Mg K w1 w12 p t t F g vs by rw [hw]; exact mg.out.drewN nq)
          clear hw X1 X2
          go_wp2_with fail
          refine (canon_at mg.out.tr W.out AI.out RC.out).mono ?_
          rintro e w13 ⟨rfl, _, hb⟩
          replace mg := Lib.hid (mg.out.low hb)
          clear hb
          go_wp2_with fail
          refine (merge_at mg.out.tr W.out AI.out BI.out ME.out).mono ?_
          rintro e w14 ⟨F1, rfl, h, hc, hsb⟩
          replace mg := Lib.hid (mg.out.chg h hc hsb)
          clear h hc hsb
          go_wp2_with fail
          go_loopw [17] (fun i wr => ∃ k : Nat, k ≤ N ∧ i = .int .i64 k ∧ Hid (Mg K w1 wr p t t F1 g vs)) (fun i _ => N - (intOf i).toNat)
          case atStart => exact ⟨0, by omega, rfl, mg⟩
          case round =>
            clear mg
            obtain ⟨k, hk, rfl, mg⟩ := hrel
            by_cases hlt : k < N
            · have kl : k < t.L.length := by rw [LN.out]; exact hlt
              have KI := Lib.hid (nat64 hlt N2)
              have RN := Lib.hid (show t.namesI (k : Int) = (t.sh k).names by rw [namesI_nat kl])
              obtain ⟨A1, k1, hu, hsl⟩ := mg.out.nl k _ (List.getElem?_eq_getElem (show k < vs.length by omega))
              have c0 := mg.out.row.2.2 k _ (List.getElem?_eq_getElem (show k < vs.length by omega))
              rw [hu] at c0
              have SO := Lib.hid hsl
              have G0 := Lib.hid mg.out.row.1
              have nl6 : (t.sh k).names.length ≤ 6 := names_len IN.out k
              have hk2 : (k : Int) < N := by omega
              obtain ⟨ns, hns⟩ : ∃ ns, (t.sh k).names = ns := ⟨_, rfl⟩
              rw [hns] at RN c0 SO nl6
              clear kl hu hsl hns
              go_wp2_with fail
              go_region_held3 (fun w' => w'.cell? ⟨g, k, none⟩ = some (.slice A1 ns.length k1)) (first | exact c0) ((first
                | (go_at_call 21
                   (refine (names_at (by first | exact mg.out.tr | exact mg.out.drew.tr | exact mg.out.drew.drew.tr | exact mg.out.drew.drew.drew.tr) W.out KI.out RN.out).mono ?_)
                   rintro e w' ⟨A2, k2, rfl, _, hsl, h, hb⟩
                   have NEW := Lib.hid (show SlS w' (fun _ => True) A2 ns from hsl.imp fun _ _ => trivial)
                   have SO2 := Lib.hid (show SlS w' (fun _ => True) A1 ns from SO.out.keep fun b h => ⟨trivial, hb.block b h.1⟩)
                   replace c0 := (hb.cell (p := ⟨g, k, none⟩) G0.out).trans c0
                   (first | replace mg := Lib.hid (mg.out.low hb) | replace mg := Lib.hid (mg.out.drew.low hb) | replace mg := Lib.hid (mg.out.drew.drew.low hb) | replace mg := Lib.hid (mg.out.drew.drew.drew.low hb))
                   clear hb h hsl)
                | (go_at_call 24
                   (refine (strings_eq (fun _ => True) (fun _ => True) A2 A1 ns ns k2 k1 _ NEW.out SO2.out (by omega) (by omega) rfl).mono ?_)
                   rintro e w' ⟨rfl, nq, hw⟩
                   (first | replace mg := Lib.hid (show Mg K w1 w' p t t F1 g vs by rw [hw]; exact mg.out.drewN nq) | replace mg := Lib.hid (show Mg K w1 w' p t t F1 g vs by rw [hw]; exact mg.out.drew.drewN nq) | replace mg := Lib.hid (show Mg K w1 w' p t t F1 g vs by rw [hw]; exact mg.out.drew.drew.drewN nq))
                   replace c0 : w'.cell? ⟨g, k, none⟩ = some (.slice A1 ns.length k1) := by rw [hw]; exact c0
                   clear hw)))
              go_wp2_with fail
              go_roundw
              case rel => exact ⟨k + 1, by omega, by go_num, mg⟩
              case measure => simp [intOf]; omega
            · have hkN : k = N := by omega
              subst hkN
              go_wp2_with fail
              go_ret
              exact ⟨rfl, B1.out.trans (mg.out.tr.b.mono B1.out.size)⟩
      · have ME := Lib.hid (merge_err (t := t) (a := (a : Int)) (b := (b : Int)) (by rw [Bool.eq_false_iff]; exact fun h => hk1 (AL.out.1 h).1))
        have kf : ((ka : Int) == (kb : Int)) = false := by simp; omega
        clear hk1 TWO AL
        go_wp2_with fail
        refine (cls_at mg.out.tr W.out AI.out CA.out).mono ?_
        rintro e w8 ⟨rfl, _, hb⟩
        replace mg := Lib.hid (mg.out.low hb)
        clear hb
        go_wp2_with fail
        refine (cls_at mg.out.tr W.out BI.out CB.out).mono ?_
        rintro e w9 ⟨rfl, _, hb⟩
        replace mg := Lib.hid (mg.out.low hb)
        clear hb
        go_wp2_with fail
        refine (canon_at mg.out.tr W.out AI.out RC.out).mono ?_
        rintro e w13 ⟨rfl, _, hb⟩
        replace mg := Lib.hid (mg.out.low hb)
        clear hb
        go_wp2_with fail
        refine (merge_at mg.out.tr W.out AI.out BI.out ME.out).mono ?_
        rintro e w14 ⟨F1, rfl, h, hc, hsb⟩
        replace mg := Lib.hid (mg.out.chg h hc hsb)
        clear h hc hsb
        go_wp2_with fail
        go_loopw [17] (fun i wr => ∃ k : Nat, k ≤ N ∧ i = .int .i64 k ∧ Hid (Mg K w1 wr p t t F1 g vs)) (fun i _ => N - (intOf i).toNat)
        case atStart => exact ⟨0, by omega, rfl, mg⟩
        case round =>
          clear mg
          obtain ⟨k, hk, rfl, mg⟩ := hrel
          by_cases hlt : k < N
          · have kl : k < t.L.length := by rw [LN.out]; exact hlt
            have KI := Lib.hid (nat64 hlt N2)
            have RN := Lib.hid (show t.namesI (k : Int) = (t.sh k).names by rw [namesI_nat kl])
            obtain ⟨A1, k1, hu, hsl⟩ := mg.out.nl k _ (List.getElem?_eq_getElem (show k < vs.length by omega))
            have c0 := mg.out.row.2.2 k _ (List.getElem?_eq_getElem (show k < vs.length by omega))
            rw [hu] at c0
            have SO := Lib.hid hsl
            have G0 := Lib.hid mg.out.row.1
            have nl6 : (t.sh k).names.length ≤ 6 := names_len IN.out k
            have hk2 : (k : Int) < N := by omega
            obtain ⟨ns, hns⟩ : ∃ ns, (t.sh k).names = ns := ⟨_, rfl⟩
            rw [hns] at RN c0 SO nl6
            clear kl hu hsl hns
            go_wp2_with fail
            go_region_held3 (fun w' => w'.cell? ⟨g, k, none⟩ = some (.slice A1 ns.length k1)) (first | exact c0) ((first
              | (go_at_call 21
                 (refine (names_at (by first | exact mg.out.tr | exact mg.out.drew.tr | exact mg.out.drew.drew.tr | exact mg.out.drew.drew.drew.tr) W.out KI.out RN.out).mono ?_)
                 rintro e w' ⟨A2, k2, rfl, _, hsl, h, hb⟩
                 have NEW := Lib.hid (show SlS w' (fun _ => True) A2 ns from hsl.imp fun _ _ => trivial)
                 have SO2 := Lib.hid (show SlS w' (fun _ => True) A1 ns from SO.out.keep fun b h => ⟨trivial, hb.block b h.1⟩)
                 replace c0 := (hb.cell (p := ⟨g, k, none⟩) G0.out).trans c0
                 (first | replace mg := Lib.hid (mg.out.low hb) | replace mg := Lib.hid (mg.out.drew.low hb) | replace mg := Lib.hid (mg.out.drew.drew.low hb) | replace mg := Lib.hid (mg.out.drew.drew.drew.low hb))
                 clear hb h hsl)
              | (go_at_call 24
                 (refine (strings_eq (fun _ => True) (fun _ => True) A2 A1 ns ns k2 k1 _ NEW.out SO2.out (by omega) (by omega) rfl).mono ?_)
                 rintro e w' ⟨rfl, nq, hw⟩
                 (first | replace mg := Lib.hid (show Mg K w1 w' p t t F1 g vs by rw [hw]; exact mg.out.drewN nq) | replace mg := Lib.hid (show Mg K w1 w' p t t F1 g vs by rw [hw]; exact mg.out.drew.drewN nq) | replace mg := Lib.hid (show Mg K w1 w' p t t F1 g vs by rw [hw]; exact mg.out.drew.drew.drewN nq))
                 replace c0 : w'.cell? ⟨g, k, none⟩ = some (.slice A1 ns.length k1) := by rw [hw]; exact c0
                 clear hw)))
            go_wp2_with fail
            go_roundw
            case rel => exact ⟨k + 1, by omega, by go_num, mg⟩
            case measure => simp [intOf]; omega
          · have hkN : k = N := by omega
            subst hkN
            go_wp2_with fail
            go_ret
            exact ⟨rfl, B1.out.trans (mg.out.tr.b.mono B1.out.size)⟩
end Go.Proofs.YtnapfhnmccpffaaDoor.Sh
