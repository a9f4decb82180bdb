/-
  The walk of ShapeAdds.
-/
import Derived.Test.YtnapfhnmccpffaaDoorSu
import Derived.Deep.RegionLaw
import Derived.Deep.RegionHeld3
namespace Go.Proofs.YtnapfhnmccpffaaDoor.Sh
open Go Go.RowKit

section
variable {P : Program} {ops : Array Oper} {Q : Exit → Go.Act → World → Prop} {a : Go.Act} {w : World} {rest : List Oper} {o : Oper}
theorem wpList_when (hw : Region.wanted o (yielded ops a.tmps) = true) (h : ∀ K : Go.Act → World → Prop, (∀ a w, wpList P ops Q rest a w → K a w) → o.wp P a w K Q) : wpList P ops Q (o :: rest) a w :=
  wpList_step fun K hK => by simp only [hw, if_true]; exact h K hK
theorem wpList_append_if (hw : Region.wanted o (yielded ops a.tmps) = true) (s x : Operand) (t : TypeId)
    (ho : o.op = .call { callee := .builtin .append, args := #[s, x], argTypes := #[t, t] })
    (base : Nat) (e : TypeId) (i : TypeInfo) (z : Value) (size bytes : Nat) (ht : P.underlying t = some (.slice e)) (hi : P.info? e = some i) (hz : i.zero = some z)
    (hsize : i.size = size) (hby : i.bytes = bytes) (hzs : z.cells.size = size) (hsz : 0 < size)
    (v : Value) (n : Nat) (xs : List Value) (hs : a.eval s = v) (hown : w.ownsRow base e size v n xs)
    (ad : Addr) (m c : Nat) (news : List Value) (hx : a.eval x = .slice (some ad) m c) (hl : news.length = m * size) (hnews : ∀ j u, news[j]? = some u → w.cell? (ad.add j) = some u) (h1 : ∀ u ∈ news, u.oneCell' = true)
    (h63 : n + m ≤ maxLen) (hbytes : (n + m) * bytes ≤ 140737488355328) (hbase : base ≤ w.heap.size)
    (h : ∀ v' w', w'.ownsRow base e size v' (n + m) (xs ++ news) → w.grownBy w' v.ownBlock → (v' = .slice none 0 0 ↔ v = .slice none 0 0 ∧ m = 0) → wpList P ops Q rest (a.put o.dst v') w') : wpList P ops Q (o :: rest) a w :=
  wpList_when hw fun _ hK => wp_append_own w s x t ho base e i z size bytes ht hi hz hsize hby hzs hsz v n xs hs hown ad m c news hx hl hnews h1 h63 hbytes hbase fun v' w' h2 h3 h4 => hK _ _ (h v' w' h2 h3 h4)
end
theorem add_name {t : Tre} {s : Nat} {nm : ByteArray} (hs : s < t.L.length) (h : nm.size = 0 ∨ nm ∈ (t.sh s).names) : t.add s nm = ((0, 13), t) := by
  unfold Tre.add
  rw [if_neg (by rw [there_nat hs]; decide), if_pos (by rw [namesI_nat hs]; exact h)]
theorem slot_in {t : Tre} {s : Nat} {nm : ByteArray} (hs : s < t.L.length) (h : nm ∈ (t.sh s).names) : slotL (t.namesI s) nm = ((posL nm (t.sh s).names : Int), true) := by
  unfold slotL; rw [namesI_nat hs, if_pos h]
theorem slot_out {t : Tre} {s : Nat} {nm : ByteArray} (hs : s < t.L.length) (h : nm ∉ (t.sh s).names) : slotL (t.namesI s) nm = (0, false) := by
  unfold slotL; rw [namesI_nat hs, if_neg h]
theorem nat64 {s N : Nat} (h : s < N) (hN : N ≤ 200) : I64 (s : Int) := ⟨by omega, by omega⟩
theorem names_len {fl : List (List ByteArray)} {t : Tre} (h : Inv fl t) (s : Nat) : (t.sh s).names.length ≤ 6 := nodup_len (h.ok.wf.na s) (h.ok.q s)
theorem names_short {fl : List (List ByteArray)} {t : Tre} (h : Inv fl t) (s : Nat) : ∀ x ∈ (t.sh s).names, x.size ≤ maxLen := fun x hx => by
  have := nameL_size x (h.ok.q s x hx); unfold maxLen; omega
set_option maxRecDepth 100000 in
set_option maxHeartbeats 8000000 in
theorem adds_walk (K : Kit) (n q0 q1 : Int) (hn : I64 n) (_h0 : I64 q0) (h1 : I64 q1) (acts : List Act) (A : Option Addr) (c B : Nat) (w : World) (ha : ActS w B A acts) (hB : B ≤ w.heap.size) (hl : acts.length ≤ 4398046511104) (hok : ∀ x ∈ acts, x.OK) (hv : K.V w) :
    Calls Tryd.prog 4 #[.int .i64 n, .slice A acts.length c, .agg #[.int .i64 q0, .int .i64 q1]] w fun e w' => e = .returned (.bool true) ∧ Below w.heap.size w w' := by
  have HA := Lib.hid ha
  have HOK := Lib.hid hok
  have HN := Lib.hid hn
  have HQ1 := Lib.hid h1
  have HV := Lib.hid hv
  clear hv ha hok hn h1
  go_enter Tryd.func4, Tryd.ntmps4
  go_wp2_with fail
  refine (sanity_any K _ (K.vkeep HV.out ((Below.refl _ w).alloc (Nat.le_refl _) _))).mono ?_
  rintro e w1 ⟨rfl, hb⟩
  have BX := Lib.hid ((Bk.new w #[.int .i64 q0, .int .i64 q1] 39).below hb (by simp))
  have B1 := Lib.hid (((Below.refl _ w).alloc (Nat.le_refl _) (.cells #[.int .i64 q0, .int .i64 q1] 39)).trans (hb.mono (by simp)))
  clear hb
  go_wp2_with fail
  refine (played_any K n HN.out acts A c B _ (HA.out.below B1.out hB) (by have := B1.out.size; omega) hl HOK.out (K.vkeep HV.out B1.out)).mono ?_
  rintro e w2 ⟨p, F, rfl, hs⟩
  have IN := Lib.hid (playT_inv (acts.take 60) (cls_inv n))
  have BX2 := Lib.hid (BX.out.below hs.b BX.out.lt)
  have hs := Lib.hid hs
  have FL := (clsOf_len n).1
  generalize playT (newT (clsOf n)) (acts.take 60) = t at *
  obtain ⟨N, hN⟩ : ∃ N, t.L.length = N := ⟨_, rfl⟩
  have N1 : 0 < N := by rw [← hN]; exact IN.out.pos (by omega)
  have N2 : N ≤ 200 := by rw [← hN]; exact IN.out.ok.wf.few
  have LN := Lib.hid hN
  clear hN BX
  have nz : ((N : Int) == 0) = false := by simp; omega
  go_wp2_with fail
  refine (count_at hs.out IN.out.ok.wf LN.out).mono ?_
  rintro e w3 ⟨rfl, h, hb⟩
  replace hs := Lib.hid h
  have BX := Lib.hid (BX2.out.below hb BX2.out.lt)
  clear h hb BX2
  go_wp2_with fail
  obtain ⟨t1, e1, l1, g1, s1, r1, _⟩ := rem_facts q0 (N : Int) (by omega) (by omega)
  have hs0 := Int.emod_nonneg q0 (show (N : Int) ≠ 0 by omega)
  have hs1 := Int.emod_lt_of_pos q0 (show 0 < (N : Int) by omega)
  obtain ⟨s, hse⟩ := Int.eq_ofNat_of_zero_le hs0
  rw [hse] at r1 hs1
  have sN : s < N := by omega
  clear hse hs0 hs1
  have n0 : ¬ N = 0 := by omega
  have W := Lib.hid IN.out.ok.wf
  have c0 := BX.out.cell 0 (.int .i64 q0) rfl
  have LT := Lib.hid BX.out.lt
  go_region_held3 (fun w' => w'.cell? ⟨w.heap.size, 0, none⟩ = some (.int .i64 q0)) (first | exact c0) (
    (go_at_call 18
     (refine (count_at (by first | exact hs.out | exact hs.out.drew | exact hs.out.drew.drew) W.out LN.out).mono ?_)
     rintro e w' ⟨rfl, h, hb⟩
     replace hs := Lib.hid h
     replace BX := Lib.hid (Bk.low hb BX.out)
     replace c0 := (hb.cell (p := ⟨w.heap.size, 0, none⟩) LT.out).trans c0
     replace LT := Lib.hid (Nat.lt_of_lt_of_le LT.out hb.size)
     clear h hb))
  have c1 := BX.out.cell 1 (.int .i64 q1) rfl
  go_wp2_with fail
  refine (name_any q1 HQ1.out _).mono ?_
  rintro e w4 ⟨rfl, hb⟩
  replace hs := Lib.hid (hs.out.below hb)
  clear hb BX c0 c1 LT e1 s1 r1 l1 g1
  have sl : s < t.L.length := by rw [LN.out]; exact sN
  obtain ⟨ns, hns⟩ : ∃ ns, (t.sh s).names = ns := ⟨_, rfl⟩
  have NS := Lib.hid hns
  have RN := Lib.hid (show t.namesI (s : Int) = ns by rw [namesI_nat sl, hns])
  have SI := Lib.hid (nat64 sN N2)
  have nl : ns.length ≤ 6 := by rw [← hns]; exact names_len IN.out s
  obtain ⟨nm, hnm⟩ : ∃ nm, nameOf q1 = nm := ⟨_, rfl⟩
  have NM := Lib.hid (show nm ∈ nameL by rw [← hnm]; exact name_mem q1)
  have NZ := Lib.hid (show nm.size ≤ maxLen by have := nameL_size _ NM.out; unfold maxLen; omega)
  rw [hnm]
  have SL := Lib.hid sl
  clear hns hnm sl
  go_wp2_with fail
  refine (names_at hs.out W.out SI.out RN.out).mono ?_
  rintro e w5 ⟨A0, k0, rfl, hz, hsl, h, hb⟩
  have OLD := Lib.hid hsl
  have HZ := Lib.hid hz
  replace hs := Lib.hid h
  clear h hb hsl hz
  by_cases hm : nm ∈ ns
  · have RS := Lib.hid (slot_in (nm := nm) SL.out (by rw [NS.out]; exact hm))
    have RA := Lib.hid (add_name (nm := nm) SL.out (.inr (by rw [NS.out]; exact hm)))
    clear hm
    go_wp2_with fail
    refine (slot_at hs.out W.out SI.out NZ.out RS.out).mono ?_
    rintro e w6 ⟨rfl, h, hb⟩
    replace hs := Lib.hid h
    clear h hb
    go_wp2_with fail
    refine (count_at hs.out W.out LN.out).mono ?_
    rintro e w7 ⟨rfl, h, hb⟩
    replace hs := Lib.hid h
    clear h hb
    go_wp2_with fail
    refine (add_at hs.out W.out SI.out NZ.out RA.out).mono ?_
    rintro e w8 ⟨F1, rfl, h, _, _⟩
    replace hs := Lib.hid h
    clear h
    go_wp2_with fail
    refine (count_at hs.out W.out LN.out).mono ?_
    rintro e w9 ⟨rfl, h, hb⟩
    replace hs := Lib.hid h
    clear h hb
    go_wp2_with fail
    go_ret
    exact ⟨by simp, B1.out.trans (hs.out.b.mono B1.out.size)⟩
  · have RS := Lib.hid (slot_out (nm := nm) SL.out (by rw [NS.out]; exact hm))
    by_cases he : nm.size = 0
    · have RA := Lib.hid (add_name (nm := nm) SL.out (.inl he))
      have ht : nm.toList = [] := by rw [ByteArray.toList_eq]; exact List.eq_nil_of_length_eq_zero (by simpa using he)
      clear hm he
      go_wp2_with fail
      refine (slot_at hs.out W.out SI.out NZ.out RS.out).mono ?_
      rintro e w6 ⟨rfl, h, hb⟩
      replace hs := Lib.hid h
      clear h hb
      go_wp2_with fail
      refine (count_at hs.out W.out LN.out).mono ?_
      rintro e w7 ⟨rfl, h, hb⟩
      replace hs := Lib.hid h
      clear h hb
      go_wp2_with fail
      refine (add_at hs.out W.out SI.out NZ.out RA.out).mono ?_
      rintro e w8 ⟨F1, rfl, h, _, _⟩
      replace hs := Lib.hid h
      clear h
      go_wp2_with fail
      refine (count_at hs.out W.out LN.out).mono ?_
      rintro e w9 ⟨rfl, h, hb⟩
      replace hs := Lib.hid h
      clear h hb
      go_wp2_with fail
      go_ret
      exact ⟨by simp, B1.out.trans (hs.out.b.mono B1.out.size)⟩
    · have ht : nm.toList.isEmpty = false := by
        rw [ByteArray.toList_eq]; cases h : nm.data.toList with
        | nil => exact absurd (show nm.size = 0 by show nm.data.size = 0; rw [← Array.length_toList, h]; rfl) he
        | cons => rfl
      rcases add_new IN.out.ok (by decide) SL.out he (by rw [NS.out]; exact hm) with ⟨ra, h200⟩ | ⟨a, t1, ra, al, wf1, rb, na, ca, cs, cn, ll, lu⟩
      · have RA := Lib.hid ra
        obtain rfl : N = 200 := by rw [← LN.out]; exact h200
        clear hm he ra h200
        go_wp2_with fail
        refine (slot_at hs.out W.out SI.out NZ.out RS.out).mono ?_
        rintro e w6 ⟨rfl, h, hb⟩
        replace hs := Lib.hid h
        clear h hb
        go_wp2_with fail
        refine (count_at hs.out W.out LN.out).mono ?_
        rintro e w7 ⟨rfl, h, hb⟩
        replace hs := Lib.hid h
        clear h hb
        go_wp2_with fail
        refine (add_at hs.out W.out SI.out NZ.out RA.out).mono ?_
        rintro e w8 ⟨F1, rfl, h, _, _⟩
        replace hs := Lib.hid h
        clear h
        go_wp2_with fail
        go_ret
        exact ⟨by simp, B1.out.trans (hs.out.b.mono B1.out.size)⟩
      · have RA := Lib.hid ra
        have RB := Lib.hid rb
        have W1 := Lib.hid wf1
        have R2 := Lib.hid (show slotL (t1.namesI (a : Int)) nm = ((ns.length : Int), true) by
          unfold slotL; rw [namesI_nat al, na, NS.out, if_pos (by simp), pos_last hm])
        obtain ⟨l, hle⟩ : ∃ l, ns ++ [nm] = l := ⟨_, rfl⟩
        have RNa := Lib.hid (show t1.namesI (a : Int) = l by rw [namesI_nat al, na, NS.out, hle])
        have L7 : l.length ≤ 7 := by rw [← hle, List.length_append]; show _ + 1 ≤ 7; omega
        have LE := Lib.hid hle
        clear hle
        obtain ⟨kc, hkc⟩ : ∃ kc, (t.sh s).cls = kc := ⟨_, rfl⟩
        have RCa := Lib.hid (show t1.clsI (a : Int) = (kc : Int) by rw [clsI_nat al, ca, hkc])
        have RCs := Lib.hid (show t1.clsI (s : Int) = (kc : Int) by rw [clsI_nat (Nat.lt_of_lt_of_le SL.out ll), cs, hkc])
        have RK := Lib.hid (show t1.canonI (a : Int) = (a : Int) by rw [canonI_nat al, cn])
        obtain ⟨M, hM⟩ : ∃ M, t1.L.length = M := ⟨_, rfl⟩
        have LM := Lib.hid hM
        have M1 : M ≤ N + 1 := by rw [← hM, ← LN.out]; exact lu
        have M2 : M ≤ 200 := by rw [← hM]; exact wf1.few
        have AI := Lib.hid (nat64 (show a < M by rw [← hM]; exact al) M2)
        obtain ⟨i0, hi0, hz0, hz1, hz2⟩ := info_parts infoS
        clear ra rb wf1 al na ca cs cn ll lu hkc hM hm he
        go_wp2_with fail
        refine (slot_at hs.out W.out SI.out NZ.out RS.out).mono ?_
        rintro e w6 ⟨rfl, h, hb⟩
        replace hs := Lib.hid h
        replace OLD := Lib.hid (OLD.out.low hb)
        clear h hb
        go_wp2_with fail
        refine (count_at hs.out W.out LN.out).mono ?_
        rintro e w7 ⟨rfl, h, hb⟩
        replace hs := Lib.hid h
        replace OLD := Lib.hid (OLD.out.low hb)
        clear h hb
        go_wp2_with fail
        refine (add_at hs.out W.out SI.out NZ.out RA.out).mono ?_
        rintro e w8 ⟨F1, rfl, h, hc, hsb⟩
        replace hs := Lib.hid h
        replace OLD := Lib.hid (OLD.out.chg hc hsb)
        clear h hc hsb
        go_wp2_with fail
        refine (add_at hs.out W1.out SI.out NZ.out RB.out).mono ?_
        rintro e w9 ⟨F2, rfl, h, hc, hsb⟩
        replace hs := Lib.hid h
        replace OLD := Lib.hid (OLD.out.chg hc hsb)
        clear h hc hsb
        go_wp2_with fail
        refine (slot_at hs.out W1.out AI.out NZ.out R2.out).mono ?_
        rintro e w10 ⟨rfl, h, hb⟩
        replace hs := Lib.hid h
        replace OLD := Lib.hid (OLD.out.low hb)
        clear h hb
        go_wp2_with fail
        refine (names_at hs.out W1.out AI.out RNa.out).mono ?_
        rintro e w11 ⟨A1, k1, rfl, _, hsl, h, hb⟩
        replace hs := Lib.hid h
        replace OLD := Lib.hid (OLD.out.low hb)
        have NEW := Lib.hid hsl
        clear h hb hsl
        rcases A0 with _ | ad
        case' none =>
          have en : ns = [] := by
            cases hn : ns with
            | nil => rfl
            | cons x r =>
              obtain ⟨ad, e, _⟩ := OLD.out 0 x (by rw [hn]; rfl)
              cases e
          obtain rfl : k0 = 0 := HZ.out rfl
          have e0 : ns.length = 0 := by rw [en]; rfl
          simp only [e0]
          have EN := Lib.hid en
          clear en e0
          have LN1 := Lib.hid (show l = [nm] by rw [← LE.out, EN.out]; rfl)
          go_wp2_with fail
          have HB := Lib.hid (show Below w11.heap.size w11 _ from ((((Below.refl _ w11).alloc (Nat.le_refl _) (.cells #[] 9)).alloc (by simp) (.cells #[.string nm] 9)).alloc (by simp; omega) (.cells (#[Value.string nm] ++ Builtin.zeroCells #[Value.string ⟨#[]⟩] ((Question.appendCap 1 0 9).cut (w11.tape w11.drawn (Question.appendCap 1 0 9)) - 1)) 9)).drew)
          refine (strings_eq _ (fun _ => True) A1 (some ⟨w11.heap.size + 1 + 1, 0, none⟩) l [nm] k1 _ _ (NEW.out.low HB.out) ?_ (by omega) (by show 1 ≤ _; omega) LN1.out).mono ?_
          · intro j x hx
            rcases j with _ | j
            · injection hx with hx; subst hx
              refine ⟨_, rfl, trivial, ?_⟩
              have := (Bk.new ((w11.alloc (.cells #[] 9)).alloc (.cells #[.string nm] 9)) (#[Value.string nm] ++ Builtin.zeroCells #[Value.string ⟨#[]⟩] ((Question.appendCap 1 0 9).cut (w11.tape w11.drawn (Question.appendCap 1 0 9)) - 1)) 9).cell 0 (.string nm) (by rw [Array.getElem?_append_left (by show 0 < 1; omega)]; rfl)
              simp only [World.size_alloc] at this
              exact this
            · simp at hx
          rintro e w14 ⟨rfl, nq, hw⟩
          replace hs := Lib.hid (show Tr K w1 w14 p t1 F2 by rw [hw]; exact (hs.out.below HB.out).drewN nq)
          clear hw
          clear NEW HB
        case' some =>
          go_wp2_with (at_builtin; refine wpList_append_if ?hw _ _ 42 rfl w11.heap.size 9 i0 (.string ⟨#[]⟩) 1 16 Tryd.underlying42 hi0 hz0 hz1 hz2 rfl (by decide) _ _ _ rfl (World.ownsRow_made w11 #[] 0 (Nat.le_refl _) (Nat.zero_le _) (by simp)) ad ns.length k0 (ns.map Value.string) rfl ?qc1 ?qc2 ?qc3 ?qc4 ?qc5 ?qc6 ?_)
          case qc1 => rw [List.length_map, Nat.mul_one]
          case qc2 =>
            intro j u hj
            rw [List.getElem?_map, Option.map_eq_some_iff] at hj
            obtain ⟨z, hz, rfl⟩ := hj
            obtain ⟨ad', e, hb, hc⟩ := OLD.out j z hz
            injection e with e
            subst e
            rw [World.cell?_alloc_lt _ _ _ (by rw [blk_add]; exact hb.1)]; exact hc
          case qc3 => exact onesS ns
          case qc4 => unfold maxLen; omega
          case qc5 => omega
          case qc6 => simp
          intro v' w12 hown hgrow _
          have OW := Lib.hid (show OwnS w12 w11.heap.size v' ns by simpa [OwnS] using hown)
          have HB := Lib.hid (show Below w11.heap.size w11 w12 from ((Below.refl _ w11).alloc (Nat.le_refl _) _).grown hgrow (by simp) (by intro k hk; simp [Value.ownBlock] at hk; omega))
          clear hown hgrow
          go_wp2_with (at_builtin; refine wpList_append_if ?hw3 _ _ 42 rfl w11.heap.size 9 i0 (.string ⟨#[]⟩) 1 16 Tryd.underlying42 hi0 hz0 hz1 hz2 rfl (by decide) _ _ _ rfl (OW.out.alloc _) ⟨_, 0, none⟩ 1 1 [.string nm] rfl ?qd1 ?qd2 ?qd3 ?qd4 ?qd5 ?qd6 ?_)
          case qd1 => rfl
          case qd2 => exact oneNewS _ _
          case qd3 => exact onesS [nm]
          case qd4 => unfold maxLen; omega
          case qd5 => omega
          case qd6 => rw [World.size_alloc]; have := HB.out.size; omega
          intro v2 w13 hown hgrow _
          have HB2 := Lib.hid (show Below w11.heap.size w11 w13 from (HB.out.alloc HB.out.size (.cells #[.string nm] 9)).grown hgrow (by rw [World.size_alloc]; have := HB.out.size; omega) (OwnS.ge OW.out))
          have hown := ownS_snoc hown
          rw [LE.out] at hown
          obtain ⟨A2, k2, rfl, _, hsl⟩ := hown.form
          have S2 := Lib.hid hsl
          replace NEW := Lib.hid (NEW.out.low HB2.out)
          replace hs := Lib.hid (hs.out.below HB2.out)
          clear hown hgrow hsl HB OW
          go_wp2_with fail
          refine (strings_eq _ _ A1 A2 l l k1 k2 _ NEW.out S2.out (by omega) (by omega) rfl).mono ?_
          rintro e w14 ⟨rfl, nq, hw⟩
          replace hs := Lib.hid (show Tr K w1 w14 p t1 F2 by rw [hw]; exact hs.out.drewN nq)
          clear NEW S2 hw
        all_goals
          go_wp2_with fail
          refine (cls_at hs.out W1.out AI.out RCa.out).mono ?_
          rintro e w15 ⟨rfl, h, hb⟩
          replace hs := Lib.hid h
          clear h hb
          go_wp2_with fail
          refine (cls_at hs.out W1.out SI.out RCs.out).mono ?_
          rintro e w16 ⟨rfl, h, hb⟩
          replace hs := Lib.hid h
          clear h hb
          go_wp2_with fail
          refine (canon_at hs.out W1.out AI.out RK.out).mono ?_
          rintro e w17 ⟨rfl, h, hb⟩
          replace hs := Lib.hid h
          clear h hb
          go_wp2_with fail
          refine (count_at hs.out W1.out LM.out).mono ?_
          rintro e w18 ⟨rfl, h, hb⟩
          replace hs := Lib.hid h
          clear h hb
          have M3 : (M : Int) ≤ N + 1 := by omega
          go_wp2_with fail
          go_ret
          exact ⟨by simp, B1.out.trans (hs.out.b.mono B1.out.size)⟩
end Go.Proofs.YtnapfhnmccpffaaDoor.Sh
