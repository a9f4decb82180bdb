/-
  Split of package shape.
-/
import Derived.Test.YtjodmjadpooipaaGreatDoorKx
namespace Go.Proofs.YtjodmjadpooipaaGreatDoor.Sh
open Go Go.RowKit Go.Shelf

attribute [local go_sem] Oper.semAt_some

theorem trs_len {t : Tre} (h : ∀ s, (t.sh s).links.length ≤ 200) (n : Nat) : (trs t n).length ≤ n * 200 := by
  induction n with
  | zero => exact Nat.le_refl _
  | succ n ih =>
    unfold trs at ih ⊢
    rw [List.range_succ, List.flatMap_append, List.length_append]
    have := h n
    have e : (List.flatMap (fun s => if (t.sh s).ali = none then (t.sh s).links.map fun q => (((s : Int), q.1), q.2) else []) [n]).length ≤ 200 := by
      rw [List.flatMap_singleton]
      split
      · rw [List.length_map]; exact this
      · exact Nat.zero_le _
    omega
theorem trs_wf {t : Tre} {n : Nat} (hn : n ≤ 65536) (hlk : ∀ s q, q ∈ (t.sh s).links → q.1.size ≤ maxLen) : ∀ q ∈ (trs t n).map (·.1), wfK q := fun q hq => by
  obtain ⟨x, hx, rfl⟩ := List.mem_map.1 hq
  obtain ⟨s, hs, e, _, hm⟩ := trs_mem.1 (show (x.1, x.2) ∈ trs t n from hx)
  exact ⟨⟨by omega, by omega⟩, hlk s _ hm⟩
theorem D_sizeH {w : World} {mb n : Nat} {D : DataW Unit} {t : Tre} (h : w.ownsMap Tryz.prog 77 (plainElem Tryz.prog 3) mb n D) (hc : ∀ f nm, I64 f → nm.size ≤ maxLen → Maps.has D (keyL f nm) = (lkC t f nm).isSome) (hs : Srt t) (few : t.L.length ≤ 200) :
    w.ownsMap Tryz.prog 77 (plainElem Tryz.prog 3) mb 65536 D := by
  obtain ⟨es, rfl, hp, hk⟩ := h.entries keyed
  obtain ⟨es', e, hv⟩ := h.keysOf
  obtain rfl : es = es' := by simpa using e
  have hl : es.length ≤ 40000 := by
    have h1 : (es.map (·.1)).Nodup := List.pairwise_map.2 hp
    have h2 : ∀ x ∈ es.map (·.1), x ∈ allK t t.L.length := by
      intro x hx
      obtain ⟨p, hpm, rfl⟩ := List.mem_map.1 hx
      obtain ⟨v, hv⟩ := hv p hpm
      obtain ⟨f, nm, rfl, hf, hn, e⟩ := keyOf_inv hv
      have hh := hc f nm hf hn
      have : Maps.has (.map es) (keyL f nm) = true := by
        rw [Maps.has_eq, List.any_eq_true]
        exact ⟨p, hpm, by rw [e]; exact WideAt.sameKey_self (keyed.key (keyOf_mk hf hn))⟩
      rw [this] at hh
      obtain ⟨a, ha⟩ := Option.isSome_iff_exists.1 hh.symm
      obtain ⟨s, rfl, sl, _, hm⟩ := lk_mem ha
      rw [e]
      exact List.mem_flatMap.2 ⟨s, List.mem_range.2 sl, List.mem_map.2 ⟨_, hm, rfl⟩⟩
    have h3 := @nodup_len' Lit (fun a b => Classical.propDecidable (a = b)) _ _ h1 h2
    have h4 := allK_len t (fun s => Nat.le_trans (hs.lim s) few) t.L.length
    rw [List.length_map] at h3
    omega
  obtain ⟨es', clock, hb, hf, hs', e⟩ := h
  have h5 : es.length = es'.size := by
    have e2 := DataW.map.inj e
    rw [e2, length_sorted]; simp
  exact ⟨es', clock, hb, hf, by omega, e⟩
theorem push_canon {t : Tre} {m k : Nat} {ns : List ByteArray} (h : (t.push k ns).WF m) (h' : t.WF m) (s : Nat) : (t.push k ns).canon s = t.canon s := by
  have A : ∀ s, ((t.push k ns).sh s).ali = (t.sh s).ali := fun s => by
    rw [show (t.push k ns).sh s = if s = t.L.length then ⟨k, none, ns, []⟩ else t.sh s from sh_push t _ _ s]
    by_cases e : s = t.L.length
    · subst e; rw [if_pos rfl, sh_ge (Nat.le_refl _)]; rfl
    · rw [if_neg e]
  exact canon_of h s t.L.length _ (by rw [hop_same A]; rfl) (by rw [A]; exact canon_root h' s)
theorem m_few {t : Tre} {m : Nat} (h : t.WF m) : m ≤ t.L.length := by
  have h1 : ((List.range m).map fun k => t.roots.getD k 0).Nodup := List.pairwise_map.2 (List.nodup_range.imp_of_mem fun {a b} ha hb hne e => hne (by
    rw [← (h.ro a (List.mem_range.1 ha)).2, ← (h.ro b (List.mem_range.1 hb)).2, e]))
  have h2 := nodup_len' (q := List.range t.L.length) h1 (fun x hx => by
    obtain ⟨k, hk, rfl⟩ := List.mem_map.1 hx
    exact List.mem_range.2 (h.ro k (List.mem_range.1 hk)).1)
  simpa using h2
theorem mid_push (t : Tre) (c s : Nat) : ((t.mid c).sh s).cls = ((t.push (t.sh c).cls (t.sh c).names).sh s).cls ∧ ((t.mid c).sh s).names = ((t.push (t.sh c).cls (t.sh c).names).sh s).names ∧ ((t.mid c).sh s).ali = ((t.push (t.sh c).cls (t.sh c).names).sh s).ali := by
  rw [mid_sh, cut_sh, show (t.push (t.sh c).cls (t.sh c).names).sh s = if s = t.L.length then ⟨(t.sh c).cls, none, (t.sh c).names, []⟩ else t.sh s from sh_push t _ _ s]
  by_cases e : s = t.L.length
  · rw [if_pos e, if_pos e]; exact ⟨rfl, rfl, rfl⟩
  · rw [if_neg e, if_neg e]; exact ⟨rfl, rfl, rfl⟩
theorem KTr.mapped {W Y : World} {mb n : Nat} {D : DataW Unit} (o : W.ownsMap Tryz.prog 77 (plainElem Tryz.prog 3) mb n D) (hg : W.grownBy Y (some mb)) : KTr W Y :=
  KTr.grown hg fun r e cs fr hb => by
    injection e with e
    subst e
    obtain ⟨es, clock, hb', _⟩ := o
    rw [hb'] at hb; cases hb
/-- Between two rounds of the range. -/
def SplitI (t1 : Tre) (cv : Nat → Nat) (mb : Nat) (W6 : World) (pre : List (Ky × Nat)) (W : World) : Prop := W6.grownBy W (some mb) ∧ ∃ D : DataW Unit, W.ownsMap Tryz.prog 77 (plainElem Tryz.prog 3) mb 65536 D ∧ PartC t1 cv pre D
theorem SplitI.own {t1 : Tre} {cv : Nat → Nat} {mb : Nat} {W6 : World} (hmb : mb < W6.heap.size) : OwnFrom W6.heap.size (SplitI t1 cv mb W6) := fun s X Y row hs hg hr => by
  obtain ⟨g, D, o, pc⟩ := hs
  exact ⟨g.andThen hg (fun j hj => .inl (hr j hj).1), D, map_keep o (hg.block mb o.lt (fun e => by have := (hr _ e.symm).1; omega)), pc⟩
set_option maxRecDepth 100000 in
set_option maxHeartbeats 8000000 in
theorem code_split (w : World) (p : Nat) (t : Tre) (F : Nat → Prop) (m : Nat) (a : Int) (h : CodeH w p t F) (hw : t.WF m) (h64 : ∀ s, (t.sh s).names.length ≤ 200) (hlk : ∀ s q, q ∈ (t.sh s).links → q.1.size ≤ maxLen) (ha : I64 a) :
    Calls Tryz.prog 26 #[.pointer (some ⟨p, 0, none⟩), .int .i64 a] w (CodeTo w p F (t.split a).2 (mkV (t.split a).1)) := by
  have W := Lib.hid hw
  have W_wf := Lib.hid hw
  have H64 := Lib.hid h64
  have HLK := Lib.hid hlk
  have few := hw.few
  obtain ⟨R, hR⟩ : ∃ R, t.split a = R := ⟨_, rfl⟩
  rw [hR]
  have HR := Lib.hid hR
  obtain ⟨T0, hT0⟩ : ∃ X, w.heap.size = X := ⟨_, rfl⟩
  obtain ⟨W1, hW1⟩ : ∃ W1, w.alloc (.cells #[.pointer (some ⟨p, 0, none⟩)] 25) = W1 := ⟨_, rfl⟩
  have B1 := Lib.hid (show Below w.heap.size w W1 by rw [← hW1]; exact (Below.refl _ w).alloc (Nat.le_refl _) _)
  have T1 := Lib.hid (show Bk W1 T0 #[.pointer (some ⟨p, 0, none⟩)] 25 by rw [← hW1, ← hT0]; exact Bk.new w _ _)
  have hs1 : W1.heap.size = T0 + 1 := by rw [← hW1, World.size_alloc, hT0]
  obtain ⟨ca, hca⟩ : ∃ c, t.canonI a = c := ⟨_, rfl⟩
  have CA := Lib.hid (show Calls Tryz.prog 16 #[.pointer (some ⟨p, 0, none⟩), .int .i64 a] W1 fun e w' => e = .returned (.int .i64 ca) ∧ W1 = w' by
    rw [← hca]; exact code_canon _ p t F m a (h.below B1.out) hw ha)
  have HCA := Lib.hid hca
  have t0 := T1.out.cell 0 (.pointer (some ⟨p, 0, none⟩)) rfl
  obtain ⟨W2, hW2⟩ : ∃ W2, W1.alloc (.cells #[.int .i64 ca] 3) = W2 := ⟨_, rfl⟩
  have B2 := Lib.hid (show Below w.heap.size w W2 by rw [← hW2]; exact B1.out.alloc (by omega) _)
  have H2 := Lib.hid (h.below B2.out)
  have X2 := Lib.hid (show Bk W2 (T0 + 1) #[.int .i64 ca] 3 by rw [← hW2, ← hs1]; exact Bk.new W1 _ _)
  have T2 := Lib.hid (show Bk W2 T0 #[.pointer (some ⟨p, 0, none⟩)] 25 by rw [← hW2]; exact T1.out.alloc _)
  have hs2 : W2.heap.size = T0 + 2 := by rw [← hW2, World.size_alloc, hs1]
  have HF := Lib.hid (show ∀ b, F b → b < T0 from fun b hb => by have := h.lt b hb; omega)
  have x2 := X2.out.cell 0 (.int .i64 ca) rfl
  have t2 := T2.out.cell 0 (.pointer (some ⟨p, 0, none⟩)) rfl
  clear h hw h64 hlk hR hca
  refine (callsIn_wide (n := 16)).1 ?_
  refine callsIn_of_wp_marks Tryz.func26 rfl trivial ?_ rfl
  simp only [Tryz.ntmps26, List.size_toArray, List.length_cons, List.length_nil, Nat.reduceAdd, Nat.reduceSub, Array.replicate_succ, Array.replicate_zero, List.push_toArray, List.append_toArray, List.nil_append, List.cons_append]
  refine wpIn_wide.2 ?_
  go_wp2_with fail
  refine CA.out.mono ?_
  rintro e w' ⟨rfl, rfl⟩
  by_cases hbad : ca = -1
  · subst hbad
    have RE := Lib.hid (show R = ((0, 1), t) by
      rw [← HR.out]
      unfold Tre.split
      rw [if_pos]
      cases e : t.there a
      · rfl
      · have := HCA.out
        unfold Tre.canonI at this
        rw [if_pos e] at this
        omega)
    have G := Lib.hid (CodeTo.low (v := mkV (0, 1)) H2.out B2.out)
    go_wp2_with fail
    exact ⟨_, results_tmp2 rfl _ _ _, by rw [RE.out]; exact G.out⟩
  · have e1 : (ca == -1) = false := by rw [beq_eq_false_iff_ne]; exact hbad
    have ta : t.there a = true := by
      cases e : t.there a
      · exact absurd (HCA.out.symm.trans (by unfold Tre.canonI; rw [e]; rfl)) hbad
      · rfl
    obtain ⟨a, rfl⟩ := Int.eq_ofNat_of_zero_le (there_iff.1 ta).1
    have al : a < t.L.length := (there_iff.1 ta).2
    obtain ⟨c, hc⟩ : ∃ n, t.canon a = n := ⟨_, rfl⟩
    have cl : c < t.L.length := by rw [← hc]; exact canon_lt W.out al
    obtain rfl : ca = (c : Int) := by rw [← HCA.out, canonI_nat al, hc]
    have cn : (t.sh c).ali = none := by rw [← hc]; exact canon_root W.out a
    have RR := Lib.hid (show R = if 200 ≤ t.L.length then ((0, 2), t) else (((t.L.length : Int), 0), t.cut c) by
      rw [← HR.out]; unfold Tre.split; rw [if_neg (by rw [ta]; decide), show (a : Int).toNat = a from rfl, hc])
    obtain ⟨hsrt, vL, vR, mb, D, hd, h⟩ := H2.out
    have HA := Lib.hid h
    have SRT := Lib.hid hsrt
    have c0 := h.c0
    obtain ⟨g, cL, rfl, hcap, gF, gl, gfr, hrow⟩ := h.row cl
    obtain ⟨b0, b1, b2⟩ := hrow c cl
    have SC := Lib.hid (show SlS W2 F (hd c).at (t.sh c).names from (h.names c cl).imp fun b hb => hb.1)
    have NL := Lib.hid (h.nils c cl)
    have LT := Lib.hid h.lt
    have cli : (c : Int) < t.L.length := by omega
    have pl : p < T0 := HF.out p h.fp
    have gl0 : g < T0 := HF.out g gF
    have n1 := H64.out c
    obtain ⟨W3, hW3⟩ : ∃ W3, (W2.alloc (.cells #[.int .i64 (t.sh c).cls, .slice (hd c).at (t.sh c).names.length (hd c).nc, .int .i64 (aliV (t.sh c))] 65)).drew = W3 := ⟨_, rfl⟩
    have B23 := Lib.hid (show Below W2.heap.size W2 W3 by rw [← hW3]; exact ((Below.refl _ W2).alloc (Nat.le_refl _) _).drew)
    have B3 := Lib.hid (B2.out.trans (B23.out.mono B2.out.size))
    have H3 := Lib.hid (h.keep (w' := W3) fun b hb => B23.out.block b (LT.out b hb))
    have X3 := Lib.hid (X2.out.below B23.out X2.out.lt)
    have T3 := Lib.hid (T2.out.below B23.out T2.out.lt)
    have L3 := Lib.hid (show Bk W3 (T0 + 2) #[.int .i64 (t.sh c).cls, .slice (hd c).at (t.sh c).names.length (hd c).nc, .int .i64 (aliV (t.sh c))] 65 by rw [← hW3, ← hs2]; exact Bk.new W2 _ _)
    have hs3 : W3.heap.size = T0 + 3 := by rw [← hW3]; show (W2.alloc _).heap.size = _; rw [World.size_alloc, hs2]
    have S3 := Lib.hid (show SlS W3 (· < W3.heap.size) (hd c).at (t.sh c).names from (SC.out.keep fun b hb => ⟨hb, B23.out.block b (LT.out b hb)⟩).imp fun b hb => by have := HF.out b hb; omega)
    have t3 := T3.out.cell 0 (.pointer (some ⟨p, 0, none⟩)) rfl
    have l0 := L3.out.cell 0 (.int .i64 (t.sh c).cls) rfl
    have l1 := L3.out.cell 1 (.slice (hd c).at (t.sh c).names.length (hd c).nc) rfl
    have GF := Lib.hid gF
    have pl2 : p < T0 + 2 := by omega
    have gl2 : g < T0 + 2 := by omega
    have ol2 : T0 + 1 < T0 + 2 := by omega
    have tl2 : T0 < T0 + 2 := by omega
    clear h hrow hsrt gF
    go_wp2_with fail
    go_region
    go_wp2_with fail
    by_cases h200 : 200 ≤ t.L.length
    · have RE := Lib.hid (RR.out.trans (if_pos h200))
      have G := Lib.hid (CodeTo.low (v := mkV (0, 2)) ((H3.out.codeH SRT.out).below ((Below.refl W3.heap.size W3).alloc (Nat.le_refl _) (.cells #[.int .i64 0] 3))) (B3.out.alloc (by omega) (.cells #[.int .i64 0] 3)))
      refine (grow_full _ p t F (H3.out.codeH SRT.out) h200 few _ _ _).mono ?_
      rintro e w' ⟨rfl, rfl⟩
      dsimp only [mkV]
      go_wp2_with fail
      exact ⟨_, results_tmp2 rfl _ _ _, by rw [RE.out]; exact G.out⟩
    · have RE := Lib.hid (RR.out.trans (if_neg h200))
      refine (grow_ok _ p t F (H3.out.codeH SRT.out) h200 (t.sh c).cls (hd c).at none (t.sh c).names [] (t.sh c).names (hd c).nc 0 S3.out (SlS.nil _ _ _) (by omega) (by simp) (fun e => NL.out (by cases h : (hd c).nA with | none => rfl | some g => simp [Ld.at, h] at e)) (fun _ => rfl) (List.append_nil _)).mono ?_
      rintro e w5 ⟨F5, rfl, h5, c5, s5⟩
      have H5 := Lib.hid h5
      have C5 := Lib.hid c5
      have S5 := Lib.hid s5
      obtain ⟨Z, hZ⟩ : ∃ Z, w5.heap.size = Z := ⟨_, rfl⟩
      have z35 := c5.size
      have far5 : ∀ b, b < T0 + 3 → ¬ F b → w5.heap[b]? = W3.heap[b]? := fun b hb hf => c5.block b (by omega) hf
      have nf : ∀ b, T0 ≤ b → ¬ F b := fun b hb hf => by have := HF.out b hf; omega
      have T5 := Lib.hid (show Bk w5 T0 #[.pointer (some ⟨p, 0, none⟩)] 25 from (far5 T0 (by omega) (nf _ (by omega))).trans T3.out)
      have X5 := Lib.hid (show Bk w5 (T0 + 1) #[.int .i64 (c : Int)] 3 from (far5 _ (by omega) (nf _ (by omega))).trans X3.out)
      have L5 := Lib.hid (show Bk w5 (T0 + 2) #[.int .i64 (t.sh c).cls, .slice (hd c).at (t.sh c).names.length (hd c).nc, .int .i64 (aliV (t.sh c))] 65 from (far5 _ (by omega) (nf _ (by omega))).trans L3.out)
      have t5 := (T5.out.alloc (.cells #[.int .i64 (t.L.length : Int)] 3)).cell 0 (.pointer (some ⟨p, 0, none⟩)) rfl
      clear h5 c5 s5 far5 c0 b0 b1 b2 t3 l0 l1
      dsimp only [mkV]
      go_wp2_with fail
      refine (transitions_any _ _).mono ?_
      rintro e w' ⟨rfl, rfl⟩
      go_wp2_with fail
      refine (wpIn_wide (n := 16)).1 ?_
      obtain ⟨hs5, vL5, vR5, mb5, D5, hd5, h5⟩ := H5.out
      have hN : (t.push (t.sh c).cls (t.sh c).names).L.length = t.L.length + 1 := by simp [Tre.push]
      have T6 := Lib.hid ((T5.out.alloc (.cells #[.int .i64 (t.L.length : Int)] 3)).alloc (.cells #[.pointer (some ⟨p, 0, none⟩)] 25))
      have X6 := Lib.hid ((X5.out.alloc (.cells #[.int .i64 (t.L.length : Int)] 3)).alloc (.cells #[.pointer (some ⟨p, 0, none⟩)] 25))
      have L6 := Lib.hid ((L5.out.alloc (.cells #[.int .i64 (t.L.length : Int)] 3)).alloc (.cells #[.pointer (some ⟨p, 0, none⟩)] 25))
      have SB6 := Lib.hid (show Bk _ Z #[.int .i64 (t.L.length : Int)] 3 from hZ ▸ (Bk.new w5 #[.int .i64 (t.L.length : Int)] 3).alloc (.cells #[.pointer (some ⟨p, 0, none⟩)] 25))
      have BT6 := Bk.new (w5.alloc (.cells #[.int .i64 (t.L.length : Int)] 3)) #[.pointer (some ⟨p, 0, none⟩)] 25
      have B56 := Lib.hid (((Below.refl w5.heap.size w5).alloc (Nat.le_refl _) (.cells #[.int .i64 (t.L.length : Int)] 3)).alloc (by simp) (.cells #[.pointer (some ⟨p, 0, none⟩)] 25))
      have hs6 : ((w5.alloc (.cells #[.int .i64 (t.L.length : Int)] 3)).alloc (.cells #[.pointer (some ⟨p, 0, none⟩)] 25)).heap.size = Z + 2 := by rw [World.size_alloc, World.size_alloc, hZ]
      rw [World.size_alloc, hZ] at BT6
      generalize ((w5.alloc (.cells #[.int .i64 (t.L.length : Int)] 3)).alloc (.cells #[.pointer (some ⟨p, 0, none⟩)] 25)) = W6 at *
      have BT6 := Lib.hid BT6
      have H6 := Lib.hid (h5.keep (w' := W6) fun b hb => B56.out.block b (h5.lt b hb))
      have HLT5 := Lib.hid (show ∀ b, F5 b → b < Z from fun b hb => by have := h5.lt b hb; omega)
      have wf1 := Lib.hid (show (t.push (t.sh c).cls (t.sh c).names).WF m from push_wf W.out (W.out.cl c cl) (W.out.na c) (by omega))
      have SRT1 := Lib.hid hs5
      obtain ⟨t1, ht1⟩ : ∃ t1, t.push (t.sh c).cls (t.sh c).names = t1 := ⟨_, rfl⟩
      rw [ht1] at hN H6 wf1 SRT1
      have HT1 := Lib.hid ht1
      have LK1 := Lib.hid (show ∀ s q, q ∈ (t1.sh s).links → q.1.size ≤ maxLen from fun s q hq => by
        rw [← ht1, show (t.push (t.sh c).cls (t.sh c).names).sh s = if s = t.L.length then ⟨(t.sh c).cls, none, (t.sh c).names, []⟩ else t.sh s from sh_push t _ _ s] at hq
        split at hq
        · cases hq
        · exact HLK.out s q hq)
      have WFK := Lib.hid (trs_wf (t := t1) (n := t1.L.length) (by omega) LK1.out)
      obtain ⟨L, hL⟩ : ∃ L, trs t1 t1.L.length = L := ⟨_, rfl⟩
      have HL := Lib.hid hL
      have fewL : L.length ≤ 65536 := by
        rw [← hL]
        have := trs_len (t := t1) (fun s => Nat.le_trans (SRT1.out.lim s) (by omega)) t1.L.length
        omega
      have mbl : mb5 < Z := HLT5.out mb5 H6.out.fM
      have pZ : p < Z := by omega
      clear h5 hs5 hL ht1 t5
      refine wp_rangeRel rfl (by omega) (gf := 56) (lb := #[.pointer (some ⟨Z + 1, 0, none⟩)]) rfl trivial (enters_of Tryz.func56 (by kernel_rfl) rfl)
        (transitions1_seq 15 (by omega) t1 L HL.out SRT1.out WFK.out fewL p mb5 (Z + 1) W6) KTr.trans KTr.put (Below.refl _ _) (fun _ => rfl)
        (SplitI t1 (cutv t c) mb5 W6) (SplitI.own (by omega)) ?rel ?start
        (fun x a' W => ∃ Bx, Z + 2 ≤ Bx ∧ Bk W Bx #[.int .i64 x.1.1, .string x.1.2] 77 ∧ a' = { tmps := #[.pointer (some ⟨p, 0, none⟩), .int .i64 (a : Int), .pointer (some ⟨T0, 0, none⟩), undef, .int .i64 0, .int .i64 0, .pointer (some ⟨T0 + 1, 0, none⟩), .pointer (some ⟨T0 + 2, 0, none⟩), .pointer (some ⟨Z, 0, none⟩), .int .i64 0, .pointer (some ⟨Bx, 0, none⟩), .int .i64 (x.2 : Int), .pointer (some ⟨p, 0, none⟩), .int .i64 (a : Int), .int .i64 (c : Int), .int .i64 (c : Int), .bool false, .pointer (some ⟨p, 0, none⟩), .pointer (some ⟨p, 0, none⟩), .pointer (some ⟨p, 0, none⟩), .slice (some ⟨g, 0, none⟩) t.L.length cL, .int .i64 (c : Int), .pointer (some ⟨g, c * 3, none⟩), .agg #[.int .i64 (t.sh c).cls, .slice (hd c).at (t.sh c).names.length (hd c).nc, .int .i64 (aliV (t.sh c))], .tuple #[.int .i64 (t.L.length : Int), .int .i64 0], .pointer (some ⟨p, 0, none⟩), .pointer (some ⟨T0 + 2, 0, none⟩), .int .i64 (t.sh c).cls, .pointer (some ⟨T0 + 2, 1, none⟩), .slice (hd c).at (t.sh c).names.length (hd c).nc, .tuple #[.int .i64 (t.L.length : Int), .int .i64 0], .int .i64 (t.L.length : Int), .int .i64 0, .int .i64 0, .bool false, undef, .pointer (some ⟨p, 0, none⟩), .func (.func 56) #[] #[.pointer (some ⟨Z + 1, 0, none⟩)], keyV x.1.1 x.1.2, .int .i64 (x.2 : Int), undef, undef, undef, undef, undef, undef, undef, undef, undef, undef, undef, undef, undef, undef, undef, undef, undef, undef, undef, undef, undef, undef, undef, undef, undef, undef], defers := [] })
        (fun x a' => ?ax)
        ?assign ?body ?done
      case rel =>
        intro pre W hi
        obtain ⟨hg, D, o, pc⟩ := hi
        have pm : p ≠ mb5 := map_ne_bk H6.out.hp H6.out.map
        have z := hg.size
        refine ⟨(hg.block (Z + 1) (by omega) (fun e => by injection e; omega)).trans BT6.out, (World.cell?_of_block (hg.block p (by omega) (fun e => pm (by injection e)))).trans H6.out.c2, by omega, D, o, fun e => by subst e; exact pc.first, fun x rest hx => pc.next SRT1.out (HL.out.trans hx) (WFK.out _ ?_)⟩
        rw [HL.out, hx]
        simp
      case start => exact ⟨World.grownBy.refl _ _, D5, H6.out.map, PartC.start H6.out.cont⟩
      case ax =>
        intro s X Y row hs hg hr
        obtain ⟨Bx, h1, h2, h3⟩ := hs
        exact ⟨Bx, h1, bk_ownB W6.heap.size Bx _ (fun (_ : Unit) => _) () X Y row h2 hg hr, h3⟩
      case assign =>
        intro l pre x W K hi hx hK
        have z := hi.1.size
        have hi2 := SplitI.own (t1 := t1) (cv := cutv t c) (show mb5 < W6.heap.size by omega) pre W _ none hi (World.grownBy_alloc W (.cells #[.int .i64 x.1.1, .string x.1.2] 77) none) (by simp)
        have hK2 := Lib.hid (fun a' => hK a' _ ((KeepsOthers.alloc _ _).from _) (KTr.grown (World.grownBy_alloc W (.cells #[.int .i64 x.1.1, .string x.1.2] 77) none) (by simp)) hi2)
        have bx := Bk.new W #[.int .i64 x.1.1, .string x.1.2] 77
        clear hK hi hi2
        dsimp only [encT, keyV]
        gi_wp2
        exact hK2.out _ ⟨W.heap.size, by omega, bx, rfl⟩
      case body =>
        intro l pre x a' W hi hax hx
        obtain ⟨hg, D, o, pc⟩ := hi
        obtain ⟨Bx, hBx, bX, rfl⟩ := hax
        have z := hg.size
        have hmx : Tryz.prog.follows .mixedOrders = true := by kernel_rfl
        have xm : x ∈ L := hx.subset (by simp)
        have xl : lkC t1 x.1.1 x.1.2 = some x.2 := (trs_lk SRT1.out).1 (by rw [HL.out]; exact xm)
        have xw : wfK x.1 := WFK.out _ (by rw [HL.out]; exact List.mem_map.2 ⟨x, xm, rfl⟩)
        have XL := Lib.hid xl
        have XW := Lib.hid xw
        have same : ∀ b, b < Z + 2 → b ≠ mb5 → W.heap[b]? = W6.heap[b]? := fun b hb hne => hg.block b (by omega) (fun e => hne (by injection e))
        have nf5 : ∀ b, T0 ≤ b → b < T0 + 3 → b ≠ mb5 := fun b h1 h2 e => by
          subst e
          rcases S5.out _ H6.out.fM with h3 | h3
          · have := HF.out _ h3; omega
          · omega
        have m0 : W.cell? ⟨T0, 0, none⟩ = some (.pointer (some ⟨p, 0, none⟩)) := (World.cell?_of_block (same T0 (by omega) (nf5 _ (by omega) (by omega)))).trans (T6.out.cell 0 _ rfl)
        have m1 : W.cell? ⟨T0 + 1, 0, none⟩ = some (.int .i64 (c : Int)) := (World.cell?_of_block (same (T0 + 1) (by omega) (nf5 (T0 + 1) (by omega) (by omega)))).trans (X6.out.cell 0 _ rfl)
        have pm : p ≠ mb5 := map_ne_bk H6.out.hp H6.out.map
        have m2 : W.cell? ⟨p, 2, none⟩ = some (.map (some mb5)) := (World.cell?_of_block (same p (by omega) pm)).trans H6.out.c2
        have m8 : W.cell? ⟨Z, 0, none⟩ = some (.int .i64 (t.L.length : Int)) := (World.cell?_of_block (same Z (by omega) (by omega))).trans (SB6.out.cell 0 _ rfl)
        have k0 := bX.cell 0 (.int .i64 x.1.1) rfl
        have k1 := bX.cell 1 (.string x.1.2) rfl
        have x2l : x.2 < t1.L.length := by
          obtain ⟨s, _, _, _, hm⟩ := lk_mem xl
          exact (wf1.out.li s _ hm).1
        obtain ⟨g5, cL5, hv5, _, gF5, gl5, _, hrow5⟩ := H6.out.row x2l
        have CN := Lib.hid (rows_canon W.drew p g5 cL5 t1 m x.2 (by
            have h0 := H6.out.c0
            rw [hv5] at h0
            exact (World.cell?_of_block (same p (by omega) pm)).trans h0) (fun r hr => by
            have hgm : g5 ≠ mb5 := fun e => by
              obtain ⟨xl5, ho5, _⟩ := H6.out.rows
              exact map_ne_own ho5 H6.out.map (by rw [hv5, e]; rfl)
            exact (World.cell?_of_block (same g5 (by have := HLT5.out g5 gF5; omega) hgm)).trans (hrow5 r hr).2.2) wf1.out x2l)
        obtain ⟨cx, hcx⟩ : ∃ n, t1.canon x.2 = n := ⟨_, rfl⟩
        rw [hcx] at CN
        have HCX := Lib.hid hcx
        have HG := Lib.hid hg
        have HO := Lib.hid o
        have PC := Lib.hid pc
        have BX := Lib.hid bX
        have SAME := Lib.hid same
        have tm5 := nf5 T0 (by omega) (by omega)
        clear hg o pc bX same nf5 hrow5 hv5 gF5 gl5 xl xw hx xm hcx
        obtain ⟨⟨f, nm⟩, to⟩ := x
        dsimp only at k0 k1 CN HCX XL XW BX x2l ⊢
        have S1 := Lib.hid (show W.drew.cell? ⟨T0, 0, none⟩ = some (.pointer (some ⟨p, 0, none⟩)) ∧ W.drew.cell? ⟨T0 + 1, 0, none⟩ = some (.int .i64 (c : Int)) from ⟨m0, m1⟩)
        unfold keyV
        gi_wp2
        refine region_round (fun v => v.cell? ⟨T0, 0, none⟩ = some (.pointer (some ⟨p, 0, none⟩)) ∧ v.cell? ⟨T0 + 1, 0, none⟩ = some (.int .i64 (c : Int))) hmx ?hd ?hQ ?_
        case hd =>
          intro i o hi c hc
          have := List.mem_of_getElem? (by simpa using hi)
          simp only [List.mem_cons, List.not_mem_nil, or_false] at this
          rcases this with rfl | rfl | rfl | rfl | rfl <;> cases hc
        case hQ => rintro ⟨_, _, h⟩; exact h
        refine wpAnyH_take (i := 0) (v := ?_) rfl (by kernel_rfl) (by kernel_rfl) (by kernel_rfl) (fun _ _ _ h => h) (.inl ⟨by kernel_rfl, fun v hS => ?_⟩) S1.out ?_
        rotate_left
        · obtain ⟨h0, h1⟩ := hS
          go_simp
          with_reducible rfl
        refine wpAnyH_take (i := 1) (v := ?_) rfl (by kernel_rfl) (by kernel_rfl) (by kernel_rfl) (fun _ _ _ h => h) (.inl ⟨by kernel_rfl, fun v hS => ?_⟩) S1.out ?_
        rotate_left
        · obtain ⟨h0, h1⟩ := hS
          go_simp
          with_reducible rfl
        refine wpAnyH_take (i := 3) (v := ?_) rfl (by kernel_rfl) (by kernel_rfl) (by kernel_rfl) (fun _ _ _ h => h) (.inl ⟨by kernel_rfl, fun v hS => ?_⟩) S1.out ?_
        rotate_left
        · obtain ⟨h0, h1⟩ := hS
          go_simp
          with_reducible rfl
        refine one_ready 2 rfl (by kernel_rfl) (by kernel_rfl) ?_
        go_simp
        refine CN.out.mono ?_
        rintro e w' ⟨rfl, rfl⟩
        refine ⟨S1.out, ?_⟩
        refine one_ready 4 rfl (by kernel_rfl) (by kernel_rfl) ?_
        go_simp
        refine ⟨rfl, ?_⟩
        by_cases he : cx = c
        · subst he
          have e2 : ((cx : Int) == (cx : Int)) = true := beq_self_eq_true _
          gi_wp2
          have S2 := Lib.hid (show W.drew.drew.cell? ⟨T0, 0, none⟩ = some (.pointer (some ⟨p, 0, none⟩)) ∧ W.drew.drew.cell? ⟨p, 2, none⟩ = some (.map (some mb5)) ∧ W.drew.drew.cell? ⟨Bx, 0, none⟩ = some (.int .i64 f) ∧ W.drew.drew.cell? ⟨Bx, 1, none⟩ = some (.string nm) ∧ W.drew.drew.cell? ⟨Z, 0, none⟩ = some (.int .i64 (t.L.length : Int)) from ⟨m0, m2, k0, k1, m8⟩)
          obtain ⟨w9, hrun, hm9, hg9⟩ := (show W.drew.drew.ownsMap Tryz.prog 77 (plainElem Tryz.prog 3) mb5 65536 D from HO.out).update keyed Tryz.underlying68 (by unfold maxLen; omega) (keyOf_mk XW.out.1 XW.out.2) (plainElem_int Tryz.underlying3 (wf_int (n := (t.L.length : Int)) ⟨by omega, by omega⟩))
          unfold keyV at hrun
          have hcv : cutv t cx to = t.L.length := by
            unfold cutv
            rw [if_pos]
            have := HCX.out
            rw [← HT1.out, push_canon (HT1.out ▸ wf1.out) W_wf.out] at this
            exact this
          have PC9 := Lib.hid (PartC.put (x := ((f, nm), to)) PC.out HO.out.isMap XW.out XL.out hcv)
          have FIN := Lib.hid (show KeepsFrom W6.heap.size W w9 ∧ KTr W w9 ∧ SplitI t1 (cutv t cx) mb5 W6 (pre ++ [((f, nm), to)]) w9 from
            ⟨KeepsFrom.of_grownBy (show W.grownBy w9 (some mb5) from ⟨hg9.os, hg9.tape, hg9.output, hg9.size, hg9.block⟩) (fun j e => by injection e; omega), KTr.mapped HO.out ⟨hg9.os, hg9.tape, hg9.output, hg9.size, hg9.block⟩,
              HG.out.andThen (show W.grownBy w9 (some mb5) from ⟨hg9.os, hg9.tape, hg9.output, hg9.size, hg9.block⟩) (fun j e => .inr e), _, D_sizeH hm9 (fun f nm hf hn => (PC9.out f nm hf hn).1) SRT1.out (by omega), PC9.out⟩)
          have far9 : ∀ b, b < W.heap.size → b ≠ mb5 → w9.heap[b]? = W.heap[b]? := fun b hb hne => hg9.block b hb (fun e => hne (by injection e))
          have S9 := Lib.hid (show w9.cell? ⟨T0, 0, none⟩ = some (.pointer (some ⟨p, 0, none⟩)) ∧ w9.cell? ⟨p, 2, none⟩ = some (.map (some mb5)) ∧ w9.cell? ⟨Bx, 0, none⟩ = some (.int .i64 f) ∧ w9.cell? ⟨Bx, 1, none⟩ = some (.string nm) ∧ w9.cell? ⟨Z, 0, none⟩ = some (.int .i64 (t.L.length : Int)) from
            ⟨(World.cell?_of_block (far9 T0 (by omega) tm5)).trans m0, (World.cell?_of_block (far9 p (by omega) pm)).trans m2, (World.cell?_of_block (far9 Bx BX.out.lt (by omega))).trans k0, (World.cell?_of_block (far9 Bx BX.out.lt (by omega))).trans k1, (World.cell?_of_block (far9 Z (by omega) (by omega))).trans m8⟩)
          clear hm9 hg9 hcv far9
          refine region_round (fun v => v.cell? ⟨T0, 0, none⟩ = some (.pointer (some ⟨p, 0, none⟩)) ∧ v.cell? ⟨p, 2, none⟩ = some (.map (some mb5)) ∧ v.cell? ⟨Bx, 0, none⟩ = some (.int .i64 f) ∧ v.cell? ⟨Bx, 1, none⟩ = some (.string nm) ∧ v.cell? ⟨Z, 0, none⟩ = some (.int .i64 (t.L.length : Int))) hmx ?hd2 ?hQ2 ?_
          case hd2 =>
            intro i o hi c hc
            have := List.mem_of_getElem? (by simpa using hi)
            simp only [List.mem_cons, List.not_mem_nil, or_false] at this
            rcases this with rfl | rfl | rfl | rfl | rfl | rfl | rfl <;> cases hc
          case hQ2 => rintro ⟨_, _, h⟩; exact h
          refine wpAnyH_take (i := 0) (v := ?_) rfl (by kernel_rfl) (by kernel_rfl) (by kernel_rfl) (fun _ _ _ h => h) (.inl ⟨by kernel_rfl, fun v hS => ?_⟩) S2.out ?_
          rotate_left
          · obtain ⟨h0, h1, h2, h3, h4⟩ := hS
            go_simp
            with_reducible rfl
          refine wpAnyH_take (i := 1) (v := ?_) rfl (by kernel_rfl) (by kernel_rfl) (by kernel_rfl) (fun _ _ _ h => h) (.inl ⟨by kernel_rfl, fun v hS => ?_⟩) S2.out ?_
          rotate_left
          · obtain ⟨h0, h1, h2, h3, h4⟩ := hS
            go_simp
            with_reducible rfl
          refine wpAnyH_take (i := 2) (v := ?_) rfl (by kernel_rfl) (by kernel_rfl) (by kernel_rfl) (fun _ _ _ h => h) (.inl ⟨by kernel_rfl, fun v hS => ?_⟩) S2.out ?_
          rotate_left
          · obtain ⟨h0, h1, h2, h3, h4⟩ := hS
            go_simp
            with_reducible rfl
          refine wpAnyH_take (i := 3) (v := ?_) rfl (by kernel_rfl) (by kernel_rfl) (by kernel_rfl) (fun _ _ _ h => h) (.inl ⟨by kernel_rfl, fun v hS => ?_⟩) S2.out ?_
          rotate_left
          · obtain ⟨h0, h1, h2, h3, h4⟩ := hS
            go_simp
            with_reducible rfl
          refine wpAnyH_take (i := 4) (v := ?_) rfl (by kernel_rfl) (by kernel_rfl) (by kernel_rfl) (fun _ _ _ h => h) (.inl ⟨by kernel_rfl, fun v hS => ?_⟩) S2.out ?_
          rotate_left
          · obtain ⟨h0, h1, h2, h3, h4⟩ := hS
            go_simp
            with_reducible rfl
          refine wpAnyH_take (i := 5) (v := ?_) rfl (by kernel_rfl) (by kernel_rfl) (by kernel_rfl) (fun _ _ _ h => h) (.inl ⟨by kernel_rfl, fun v hS => ?_⟩) S2.out ?_
          rotate_left
          · obtain ⟨h0, h1, h2, h3, h4⟩ := hS
            go_simp
            with_reducible rfl
          refine one_ready 6 rfl (by kernel_rfl) (by kernel_rfl) ?_
          go_simp
          have FIN := FIN.out
          rw [hs6] at FIN
          exact ⟨S9.out, rfl, FIN⟩
        · have e2 : ((cx : Int) == (c : Int)) = false := by rw [beq_eq_false_iff_ne]; omega
          gi_wp2
          have hcv : cutv t c to = to := by
            unfold cutv
            rw [if_neg]
            have := HCX.out
            rw [← HT1.out, push_canon (HT1.out ▸ wf1.out) W_wf.out] at this
            rw [this]; exact he
          exact ⟨((KeepsOthers.refl W).trans (KeepsOthers.drew _)).from _, KTr.grown (below_grown (Below.refl _ W).drew) (fun r e => by cases e), ⟨HG.out.os, HG.out.tape, HG.out.output, HG.out.size, HG.out.block⟩, D, HO.out, PartC.stay (x := ((f, nm), to)) PC.out hcv⟩
      case done =>
        intro D0 xs W hD hS hi hK
        obtain ⟨hg, D, o, pc⟩ := hi
        have z := hg.size
        have HK := Lib.hid hK
        have CO := Lib.hid (show Cont D (t.mid c) from by
          rw [hS, ← HL.out] at pc
          exact pc.done SRT1.out (fun f nm => by rw [← HT1.out]; exact lk_mid t c _ _ f nm))
        have M := Lib.hid (relink_at (t' := t.mid c) H6.out (by rw [mid_len, hN]) (by rw [← HT1.out]; rfl) (fun s => by rw [← HT1.out]; exact mid_push t c s) (fun b hb hne => hg.block b (by have := HLT5.out b hb; omega) (fun e => hne (by injection e))) hg.size o CO.out)
        have SM := Lib.hid (show Srt (t.mid c) from ⟨(srt_cut SRT.out).so, (srt_cut SRT.out).lim⟩)
        have WM := Lib.hid (mid_wf W_wf.out cl (by omega))
        have kF : ∀ x, F5 x → F x ∨ w.heap.size ≤ x := fun x hx => (S5.out x hx).imp_right (fun h => by omega)
        have KF := Lib.hid kF
        have CH := Lib.hid (show Chg F w W from (((Chg.of_below B3.out).trans C5.out (fun x hx => .inl hx)).trans (Chg.of_below (F := F) B56.out) (fun x hx => .inl hx)).trans (G := fun b => b = mb5) ⟨hg.os, hg.tape, hg.output, hg.size, fun b hb hne => hg.block b hb (fun e => hne (by injection e))⟩ (fun x hx => by subst hx; exact kF _ H6.out.fM))
        have nf5 : ∀ b, T0 ≤ b → b < T0 + 3 → b ≠ mb5 := fun b h1 h2 e => by
          subst e
          rcases S5.out _ H6.out.fM with h3 | h3
          · have := HF.out _ h3; omega
          · omega
        have same : ∀ b, b < Z + 2 → b ≠ mb5 → W.heap[b]? = W6.heap[b]? := fun b hb hne => hg.block b (by omega) (fun e => hne (by injection e))
        have m0 : W.cell? ⟨T0, 0, none⟩ = some (.pointer (some ⟨p, 0, none⟩)) := (World.cell?_of_block (same T0 (by omega) (nf5 _ (by omega) (by omega)))).trans (T6.out.cell 0 _ rfl)
        have m1 : W.cell? ⟨T0 + 1, 0, none⟩ = some (.int .i64 (c : Int)) := (World.cell?_of_block (same (T0 + 1) (by omega) (nf5 (T0 + 1) (by omega) (by omega)))).trans (X6.out.cell 0 _ rfl)
        have m3 : W.cell? ⟨T0 + 2, 0, none⟩ = some (.int .i64 (t.sh c).cls) := (World.cell?_of_block (same (T0 + 2) (by omega) (nf5 (T0 + 2) (by omega) (by omega)))).trans (L6.out.cell 0 _ rfl)
        have m8 : W.cell? ⟨Z, 0, none⟩ = some (.int .i64 (t.L.length : Int)) := (World.cell?_of_block (same Z (by omega) (by omega))).trans (SB6.out.cell 0 _ rfl)
        have clm : (t.sh c).cls < m := W_wf.out.cl c cl
        have rl : (t.mid c).roots.length = m := WM.out.rl
        have m_lt : (t.sh c).cls < t.roots.length := by rw [W_wf.out.rl]; exact clm
        obtain ⟨rt, hrt⟩ : ∃ n, t.root (t.sh c).cls = n := ⟨_, rfl⟩
        have few_cls : (t.sh c).cls < 200 := by have := m_few W_wf.out; omega
        have RT := Lib.hid (show Calls Tryz.prog 20 #[.pointer (some ⟨p, 0, none⟩), .int .i64 (t.sh c).cls] W.drew fun e w' => e = .returned (.int .i64 (rt : Int)) ∧ W.drew = w' from by
          have h := code_root W.drew p (t.mid c) F5 m ((t.sh c).cls : Int) ((M.out.codeH SM.out).keep fun _ _ => rfl) WM.out ⟨by omega, by omega⟩
          rw [show (t.mid c).rootI ((t.sh c).cls : Int) = (rt : Int) by
            unfold Tre.rootI
            rw [if_pos ⟨by omega, by rw [rl]; omega⟩, Int.toNat_natCast, mid_root W_wf.out cl (by omega), hrt]] at h
          exact h)
        have HRT := Lib.hid hrt
        have hDl : D0 < W.heap.size := (Array.getElem?_eq_some_iff.1 hK).1
        have FIN := Lib.hid (fun (Y : World) (tt : Tre) (hY : CodeH Y p tt F5) (hC : Chg F w Y) (hz : Y.heap.size = W.heap.size) => show CodeTo w p F tt (mkV ((t.L.length : Int), 0)) (.returned (mkV ((t.L.length : Int), 0))) (Y.drew.putObj D0 (.deferred none)) from
          ⟨F5, rfl, hY.keep fun b hb => (World.putObj_heap_other (by have := HLT5.out b hb; omega)).trans rfl,
            hC.trans (G := fun b => b = D0) ⟨rfl, rfl, rfl, by simp [World.putObj], fun b hb hne => (World.putObj_heap_other (fun e => hne (by omega))).trans rfl⟩ (fun x hx => by subst hx; right; omega), fun b hb => (S5.out b hb).imp_right fun h => by omega⟩)
        clear hg o pc hK kF nf5 same hrt
        go_wp2_with fail
        go_region_held3 (fun w' => w'.cell? ⟨T0, 0, none⟩ = some (.pointer (some ⟨p, 0, none⟩)) ∧ w'.cell? ⟨T0 + 1, 0, none⟩ = some (.int .i64 (c : Int)) ∧ w'.cell? ⟨T0 + 2, 0, none⟩ = some (.int .i64 (t.sh c).cls)) (exact ⟨m0, m1, m3⟩) (
          (go_at_call 20
           (refine RT.out.mono ?_)
           rintro e w4 ⟨rfl, rfl⟩))
        all_goals go_wp2_with fail
        · have er : rt = c := by
            have h := (by assumption : ((rt : Int) == (c : Int)) = true)
            rw [beq_iff_eq] at h
            omega
          have EC := Lib.hid ((mid_cut t c).trans (if_pos (by rw [HRT.out]; exact er)))
          obtain ⟨A, cR, hvR, hroot⟩ := M.out.rootV
          obtain ⟨gR, hA, hcapR, gRF, rc, rfz⟩ := hroot (t.sh c).cls (by rw [rl]; exact clm)
          have mli : ((t.sh c).cls : Int) < ((t.mid c).roots.length : Int) := by rw [rl]; omega
          subst hA
          have p1 := M.out.c1
          rw [hvR] at p1
          have HV := Lib.hid hvR
          have gZ : gR < Z := HLT5.out gR gRF
          have m9 : (W.setCell ⟨gR, (t.sh c).cls, none⟩ (.int .i64 (t.L.length : Int))).cell? ⟨Z, 0, none⟩ = some (.int .i64 (t.L.length : Int)) := (World.cell?_setCell_far W ⟨gR, (t.sh c).cls, none⟩ ⟨Z, 0, none⟩ _ (by show gR ≠ Z; omega)).trans m8
          have FB := Lib.hid (FIN.out (W.setCell ⟨gR, (t.sh c).cls, none⟩ (.int .i64 (t.L.length : Int))).drew (t.cut c) (by
              rw [EC.out]
              exact CodeH.keep ((rootC_set (HV.out ▸ M.out) (t.sh c).cls t.L.length).codeH ⟨SM.out.so, SM.out.lim⟩) (fun _ _ => rfl)) ((CH.out.trans (Chg.set W ⟨gR, (t.sh c).cls, none⟩ (.int .i64 (t.L.length : Int)) gRF) KF.out).trans (Chg.drewN (F := F) _ 1) (fun x hx => .inl hx)) (by show (W.setCell _ _).heap.size = _; simp [World.setCell]))
          have HK2 := Lib.hid (show (W.setCell ⟨gR, (t.sh c).cls, none⟩ (.int .i64 (t.L.length : Int))).heap[D0]? = some (.deferred (some [])) from (Below.heap_setCell W _ _ _ (fun e => by
            have h1 := HLT5.out gR gRF
            have h2 : D0 = gR := e
            omega)).trans HK.out)
          clear hvR hroot
          go_region
          all_goals
            go_wp2_with fail
          all_goals
            refine ⟨by simp, .inl ⟨_, _, rfl, run_takeDeferred (show (W.setCell ⟨gR, (t.sh c).cls, none⟩ (.int .i64 (t.L.length : Int))).drew.drew.heap[D0]? = some (.deferred (some [])) from HK2.out), ?_⟩⟩
            refine ⟨_, results_tmp2 rfl _ _ _, ?_⟩
            rw [RE.out]
            exact FB.out
        · have er : ¬ rt = c := fun e => by
            have h := (by assumption : ((rt : Int) == (c : Int)) = false)
            rw [e, beq_self_eq_true] at h
            cases h
          have EC := Lib.hid ((mid_cut t c).trans (if_neg (by rw [HRT.out]; exact er)))
          have FB := Lib.hid (FIN.out W (t.cut c) (by rw [EC.out]; exact M.out.codeH SM.out) CH.out rfl)
          refine ⟨by simp, .inl ⟨_, _, rfl, run_takeDeferred (show W.drew.heap[D0]? = some (.deferred (some [])) from HK.out), ?_⟩⟩
          refine ⟨_, results_tmp2 rfl _ _ _, ?_⟩
          rw [RE.out]
          exact FB.out
end Go.Proofs.YtjodmjadpooipaaGreatDoor.Sh
