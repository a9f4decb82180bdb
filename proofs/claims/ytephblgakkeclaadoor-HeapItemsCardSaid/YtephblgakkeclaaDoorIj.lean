/-
  HeapItems: nils; Put and At as one.
-/
import Derived.Test.YtephblgakkeclaaDoorIh
namespace Go.Proofs.YtephblgakkeclaaDoor.Hp
open Go Go.RowKit Go.Maps Go.Sort Go.Shelf Va

theorem flatV_snoc (l : List Val) (v : Val) : flatV (l ++ [v]) = flatV l ++ [.int .i64 v.k, .int .i64 v.n, .string v.s] := by simp [flatV]
set_option maxRecDepth 100000 in
set_option maxHeartbeats 2000000 in
theorem nils_any (n : Nat) (w : World) (hn : n ≤ 1000) : Calls Tryd.prog 7 #[.int .i64 n] w fun e w' => ∃ v, e = .returned v ∧ Hid (w'.ownsRow w.heap.size 36 3 v n (flatV (List.replicate n nilVal)) ∧ Below w.heap.size w w') := by
  obtain ⟨j0, hj0, hy0, hy1, hy2⟩ := info_parts infoV
  have hni : (n : Int) ≤ 1000 := by omega
  go_enter Tryd.func7, Tryd.ntmps7
  go_wp2_with fail
  go_loopw [3, 4] (fun s i wr => ∃ q : Nat, q ≤ n ∧ i = .int .i64 q ∧ Hid (wr.ownsRow w.heap.size 36 3 s q (flatV (List.replicate q nilVal))) ∧ Hid (Below w.heap.size w wr)) (fun _ i _ => n - (intOf i).toNat)
  case atStart => exact ⟨0, by omega, rfl, Lib.hid (World.ownsRow_nil _ _ _ _), Lib.hid (Below.refl _ _)⟩
  case round =>
    obtain ⟨q, hq, rfl, hrow, hfr⟩ := hrel
    by_cases hlt : q < n
    · have ki : (q : Int) < n := by omega
      go_wp2_with (at_builtin; refine wpList_append_lies _ rfl _ _ 29 rfl w.heap.size 36 j0 _ 3 32 Tryd.underlying29 hj0 hy0 hy1 hy2 rfl (by decide) _ _ _ rfl (World.ownsRow.alloc hrow.out _) ⟨wr.heap.size, 0, none⟩ 1 1 [.int .i64 1, .int .i64 0, .string ⟨#[]⟩] rfl rfl (World.news_of_block (cs := #[.int .i64 1, .int .i64 0, .string ⟨#[]⟩]) (t := 36) (fr := (0, 0)) (heap_alloc_new _ _)) ?qa1 (by decide) ?qa2 ?qa3 ?qa4 _ rfl ?_)
      case qa1 => simp [Value.oneCell']
      case qa2 => unfold maxLen; omega
      case qa3 => omega
      case qa4 => have := hfr.out.size; simp; omega
      intro g1 cap1 w3 hown hgrow hat hlt3
      have R3 := Lib.hid (show w3.ownsRow w.heap.size 36 3 (.slice (some ⟨g1, 0, none⟩) (q + 1) cap1) (q + 1) (flatV (List.replicate (q + 1) nilVal)) by
        rw [List.replicate_succ', flatV_snoc]; exact hown)
      have F3 := Lib.hid ((hfr.out.alloc hfr.out.size _).grown hgrow (by have := hfr.out.size; simp; omega) (fun k hk => (row_cells hrow.out hk).1))
      clear hown hgrow hat hlt3
      go_wp2_with fail
      go_roundw
      case rel => exact ⟨q + 1, by omega, by go_num, R3, F3⟩
      case measure => simp [intOf]; omega
    · obtain rfl : q = n := by omega
      go_wp2_with fail
      go_ret
      exact ⟨_, rfl, Lib.hid ⟨hrow.out, hfr.out⟩⟩
/-- The item that an index gives, or a zero value. -/
def inB (n : Nat) (i : Int) : Bool := decide (0 ≤ i ∧ i < n)
def putU (c : Cel) (i : Int) (x : Val) : Cel := if inB c.items.length i then c.put i.toNat x else c
def atU (c : Cel) (i : Int) : Val := if inB c.items.length i then c.items.getD i.toNat ⟨0, 0, ⟨#[]⟩⟩ else ⟨0, 0, ⟨#[]⟩⟩
theorem idxF_int (n : Nat) (i : Int) : idxF n ⟨3, i, ⟨#[]⟩⟩ = if inB n i then ⟨#[]⟩ else sBounds := by
  unfold idxF inB
  rw [if_neg (by simp)]
  by_cases h : 0 ≤ i ∧ i < n
  · rw [if_pos h, if_pos (decide_eq_true h)]
  · rw [if_neg h, if_neg (by simp only [decide_eq_true_eq]; exact h)]
theorem sBounds_ne : sBounds ≠ ⟨#[]⟩ := fun h => by have := sBounds_full; rw [h, eb_empty] at this; cases this
theorem st_put_u (w0 w : World) (p : Nat) (l : List Ent) (next id i : Int) (x : Val) (c0 : Cel) (h : St w0 w p l next) (hs : (ids l).Pairwise (· < ·)) (hid : I64 id) (hm : (id, c0) ∈ l) (hk0 : c0.kind = 2) (hx : x.k ≠ 0) :
    Calls Tryd.prog 8 #[.pointer (some ⟨p, 0, none⟩), valV ⟨5, id, ⟨#[]⟩⟩, valV ⟨3, i, ⟨#[]⟩⟩, valV x] w fun e w' => e = .returned (.string (idxF c0.items.length ⟨3, i, ⟨#[]⟩⟩)) ∧ Hid (St w0 w' p (setC l id (putU c0 i x)) next) := by
  have e := idxF_int c0.items.length i
  by_cases hb : inB c0.items.length i = true
  · have hb' : 0 ≤ i ∧ i < c0.items.length := by simpa [inB] using hb
    rw [if_pos hb] at e
    rw [e, show putU c0 i x = c0.put i.toNat x from if_pos hb]
    exact st_put_item w0 w p l next ⟨5, id, ⟨#[]⟩⟩ ⟨3, i, ⟨#[]⟩⟩ x c0 i.toNat h hid rfl hm hk0 hx rfl (by simp only; omega) (by omega)
  · rw [if_neg hb] at e
    refine (st_put_idx w0 w p l next ⟨5, id, ⟨#[]⟩⟩ ⟨3, i, ⟨#[]⟩⟩ x c0 h hid rfl hm hk0 (by unfold anyU; simp [hx]) (by rw [e]; exact sBounds_ne)).mono ?_
    rintro e' w' ⟨rfl, hb2⟩
    exact ⟨rfl, Lib.hid (by rw [show putU c0 i x = c0 from if_neg hb, setC_same hs hm]; exact h.down hb2)⟩
theorem st_at_u (w0 w : World) (p : Nat) (l : List Ent) (next id i : Int) (c0 : Cel) (h : St w0 w p l next) (hid : I64 id) (hm : (id, c0) ∈ l) (hk0 : c0.kind = 2) :
    Calls Tryd.prog 11 #[.pointer (some ⟨p, 0, none⟩), valV ⟨5, id, ⟨#[]⟩⟩, valV ⟨3, i, ⟨#[]⟩⟩] w fun e w' => e = .returned (.tuple #[valV (atU c0 i), .string (idxF c0.items.length ⟨3, i, ⟨#[]⟩⟩)]) ∧ Below w.heap.size w w' := by
  have e := idxF_int c0.items.length i
  by_cases hb : inB c0.items.length i = true
  · have hb' : 0 ≤ i ∧ i < c0.items.length := by simpa [inB] using hb
    rw [if_pos hb] at e
    have hx : c0.items[i.toNat]? = some (c0.items.getD i.toNat ⟨0, 0, ⟨#[]⟩⟩) := by
      rw [List.getD_eq_getElem?_getD, List.getElem?_eq_getElem (by omega)]; rfl
    rw [e, show atU c0 i = _ from if_pos hb]
    exact st_at_item w0 w p l next ⟨5, id, ⟨#[]⟩⟩ ⟨3, i, ⟨#[]⟩⟩ _ c0 i.toNat h hid rfl hm hk0 rfl (by simp only; omega) hx
  · rw [if_neg hb] at e
    rw [show atU c0 i = ⟨0, 0, ⟨#[]⟩⟩ from if_neg hb]
    exact st_at_idx w0 w p l next ⟨5, id, ⟨#[]⟩⟩ ⟨3, i, ⟨#[]⟩⟩ c0 h hid rfl hm hk0 (by unfold anyU; simp) (by rw [e]; exact sBounds_ne)
theorem nils_right (n : Nat) (hn : n ≤ 64) : (Cel.right ⟨2, 0, 0, 0, [], List.replicate n nilVal⟩) = true := by
  have : storB (List.replicate n nilVal) = true := by
    unfold storB
    rw [Bool.and_eq_true]
    refine ⟨by simp [hn], List.all_eq_true.2 fun v hv => ?_⟩
    obtain rfl := List.eq_of_mem_replicate hv
    decide
  simp [Cel.right, this]
theorem putU_len (c : Cel) (i : Int) (x : Val) : (putU c i x).items.length = c.items.length := by
  unfold putU
  split
  · show (c.items.set _ _).length = _
    rw [List.length_set]
  · rfl
theorem putU_kind (c : Cel) (i : Int) (x : Val) : (putU c i x).kind = c.kind := by unfold putU; split <;> rfl
theorem at_put_same {c : Cel} {k : Int} {x : Val} (h : inB c.items.length k = true) : atU (putU c k x) k = x := by
  have hb : 0 ≤ k ∧ k < c.items.length := by simpa [inB] using h
  unfold atU
  rw [putU_len, if_pos h]
  unfold putU
  rw [if_pos h]
  show (c.items.set k.toNat x).getD k.toNat _ = x
  rw [List.getD_eq_getElem?_getD, List.getElem?_set_self (by omega)]; rfl
theorem at_put_other {c : Cel} {i k : Int} {x : Val} (h : inB c.items.length i = true) (hne : i ≠ k) : atU (putU c k x) i = atU c i := by
  unfold atU
  rw [putU_len, if_pos h, if_pos h]
  unfold putU
  split
  · rename_i hk
    have hb : 0 ≤ i ∧ i < c.items.length := by simpa [inB] using h
    have hb2 : 0 ≤ k ∧ k < c.items.length := by simpa [inB] using hk
    show (c.items.set k.toNat x).getD i.toNat _ = _
    rw [List.getD_eq_getElem?_getD, List.getElem?_set_ne (by omega), List.getD_eq_getElem?_getD]
  · rfl
theorem one_sorted (c : Cel) : (ids [((0 : Int), c)]).Pairwise (· < ·) := by simp [ids]
theorem inB_cases (n : Nat) (i : Int) : (inB n i = false ∧ decide (0 ≤ i) = false) ∨ (inB n i = false ∧ decide (0 ≤ i) = true ∧ decide (i < n) = false) ∨ (inB n i = true ∧ decide (0 ≤ i) = true ∧ decide (i < n) = true) := by
  unfold inB
  by_cases h : 0 ≤ i <;> by_cases h' : i < n <;> simp [h, h']
set_option maxRecDepth 100000 in
set_option maxHeartbeats 4000000 in
theorem items_walk (w : World) (hB : Bnds w) (len i k x y : Int) (h0 : 0 ≤ len) (h1 : len ≤ 255) (hi : I64 i) (hk : I64 k) (hx : I64 x) (hy : I64 y) :
    Calls Tryd.prog 3 #[.int .u8 len, .agg #[.int .i64 i, .int .i64 k], .agg #[.int .i64 x, .int .i64 y]] w fun e w' => e = .returned (.bool true) ∧ Below w.heap.size w w' := by
  have SA := Lib.hid (fun (w' : World) (hb : Below w.heap.size w w') => sanity_any w' (fun i hi => (hb.cell (p := ⟨_, _, none⟩) hB.size).trans (hB i hi)))
  have BN := Lib.hid (fun (w' : World) (hb : Below w.heap.size w w') => show Bnds w' from fun i hi => (hb.cell (p := ⟨_, _, none⟩) hB.size).trans (hB i hi))
  clear hB
  go_enter Tryd.func3, Tryd.ntmps3
  go_wp2_with fail
  refine (SA.out _ (((Below.refl _ w).alloc (Nat.le_refl _) _).alloc (by simp) _)).mono ?_
  rintro e wa ⟨rfl, hb⟩
  have BA := Lib.hid ((((Below.refl _ w).alloc (Nat.le_refl _) (.cells #[.int .i64 i, .int .i64 k] 22)).alloc (by simp) (.cells #[.int .i64 x, .int .i64 y] 22)).trans (hb.mono (by simp; omega)))
  clear hb SA
  go_wp2_with fail
  refine (st_new wa (BN.out _ BA.out)).mono ?_
  rintro e w1 ⟨rfl, hh⟩
  have S1 := Lib.hid hh.out
  clear hh BN
  generalize wa.heap.size = p at S1 ⊢
  go_wp2_with fail
  obtain ⟨n, hn⟩ := Int.eq_ofNat_of_zero_le (Int.emod_nonneg len (show (64 : Int) ≠ 0 by decide))
  have hn64 : n < 64 := by have := Int.emod_lt_of_pos len (show (0 : Int) < 64 by decide); omega
  rw [hn]
  clear hn h0 h1
  refine (nils_any n w1 (by omega)).mono ?_
  rintro e w2 ⟨v, rfl, hh⟩
  obtain ⟨hr, hb⟩ := hh.out
  obtain ⟨A, c, e1, hV⟩ := own_row (own_mono hr (Nat.zero_le _)) List.length_replicate
  have OB := Lib.hid (fun (g : Nat) (h : v.ownBlock = some g) => World.ownsRow.lt hr g h)
  subst e1
  have B2 := Lib.hid hb
  have V2 := Lib.hid hV
  clear hh hr hb hV
  go_wp2_with fail
  refine (st_alloc wa w1 w2 (fun g => (Value.slice A n c).ownBlock = some g) p [] 0 ⟨2, 0, 0, 0, [], List.replicate n nilVal⟩ none A 0 0 n c S1.out B2.out (fun e he => by cases he) (by omega) (by omega) rfl List.length_replicate (no_names _ _) V2.out (fun b hb => OB.out b hb) (by omega) (by omega) (fun s hs => by cases hs) (fun v hv => by
    obtain rfl := List.eq_of_mem_replicate hv
    unfold nilVal Val.Fits I64 maxLen; decide) (nils_right n (by omega)) (by decide)).mono ?_
  rintro e w3 ⟨rfl, hh⟩
  have S3 := Lib.hid (show St wa w3 p [(0, ⟨2, 0, 0, 0, [], List.replicate n nilVal⟩)] 1 from hh.out)
  clear hh S1 B2 V2 OB
  go_wp2_with fail
  generalize x.tmod 1000 = xr
  generalize y.tmod 1000 = yr
  generalize hca : (⟨2, 0, 0, 0, [], List.replicate n nilVal⟩ : Cel) = ca at S3
  have L1 : ca.items.length = n := by rw [← hca]; exact List.length_replicate
  have K1 : ca.kind = 2 := by rw [← hca]
  clear hca
  have Z64 : I64 0 := by unfold I64; decide
  refine (lawRef_any 0 _).mono ?_
  rintro e w4 ⟨rfl, hb⟩
  have S4 : Hid (St wa w4 p [(0, ca)] 1) := Lib.hid (S3.out.down hb)
  clear hb S3
  go_wp2_with fail
  refine (lawNum_any i _).mono ?_
  rintro e w5 ⟨rfl, hb⟩
  have S5 : Hid (St wa w5 p [(0, ca)] 1) := Lib.hid (S4.out.down hb)
  clear hb S4
  go_wp2_with fail
  refine (lawNum_any xr _).mono ?_
  rintro e w6 ⟨rfl, hb⟩
  have S6 : Hid (St wa w6 p [(0, ca)] 1) := Lib.hid (S5.out.down hb)
  clear hb S5
  go_wp2_with fail
  have PT := st_put_u wa w6 p [(0, ca)] 1 0 i ⟨3, xr, ⟨#[]⟩⟩ ca S6.out (one_sorted ca) Z64 (by simp) K1 (by simp)
  rw [L1] at PT
  refine PT.mono ?_
  clear PT
  rintro e w7 ⟨rfl, hh⟩
  have S7 := Lib.hid (show St wa w7 p [(0, putU ca i ⟨3, xr, ⟨#[]⟩⟩)] 1 from hh.out)
  clear hh S6
  generalize hcb : putU ca i ⟨3, xr, ⟨#[]⟩⟩ = cb at S7
  have L2 : cb.items.length = n := by rw [← hcb, putU_len, L1]
  have K2 : cb.kind = 2 := by rw [← hcb, putU_kind, K1]
  have HB := Lib.hid hcb
  clear hcb
  go_wp2_with fail
  refine (lawRef_any 0 _).mono ?_
  rintro e w8 ⟨rfl, hb⟩
  have S8 : Hid (St wa w8 p [(0, cb)] 1) := Lib.hid (S7.out.down hb)
  clear hb S7
  go_wp2_with fail
  refine (lawNum_any k _).mono ?_
  rintro e w9 ⟨rfl, hb⟩
  have S9 : Hid (St wa w9 p [(0, cb)] 1) := Lib.hid (S8.out.down hb)
  clear hb S8
  go_wp2_with fail
  refine (lawNum_any yr _).mono ?_
  rintro e w10 ⟨rfl, hb⟩
  have S10 : Hid (St wa w10 p [(0, cb)] 1) := Lib.hid (S9.out.down hb)
  clear hb S9
  go_wp2_with fail
  have PT := st_put_u wa w10 p [(0, cb)] 1 0 k ⟨3, yr, ⟨#[]⟩⟩ cb S10.out (one_sorted cb) Z64 (by simp) K2 (by simp)
  rw [L2] at PT
  refine PT.mono ?_
  clear PT
  rintro e w11 ⟨rfl, hh⟩
  have S11 := Lib.hid (show St wa w11 p [(0, putU cb k ⟨3, yr, ⟨#[]⟩⟩)] 1 from hh.out)
  clear hh S10
  generalize hcc : putU cb k ⟨3, yr, ⟨#[]⟩⟩ = cc at S11
  have L3 : cc.items.length = n := by rw [← hcc, putU_len, L2]
  have K3 : cc.kind = 2 := by rw [← hcc, putU_kind, K2]
  have AK := Lib.hid (show inB n k = true → (atU cc k).n = yr by intro h; rw [← hcc, at_put_same (by rw [L2]; exact h)])
  have AI := Lib.hid (show inB n i = true → i ≠ k → (atU cc i).n = xr by intro h hne; rw [← hcc, at_put_other (by rw [L2]; exact h) hne, ← HB.out, at_put_same (by rw [L1]; exact h)])
  clear hcc HB L1 L2 K1 K2
  rw [idxF_int, idxF_int]
  rcases inB_cases n i with ⟨ei, di⟩ | ⟨ei, di, dj⟩ | ⟨ei, di, dj⟩
  · rcases inB_cases n k with ⟨ek, dk⟩ | ⟨ek, dk, dl⟩ | ⟨ek, dk, dl⟩
    · rw [ei, ek]
      simp only [Bool.false_eq_true, if_false]
      dsimp only [sBounds]
      go_wp2_with fail
      refine (lawRef_any 0 _).mono ?_
      rintro e w12 ⟨rfl, hb⟩
      have S12 : Hid (St wa w12 p [(0, cc)] 1) := Lib.hid (S11.out.down hb)
      clear hb S11
      go_wp2_with fail
      refine (lawNum_any i _).mono ?_
      rintro e w13 ⟨rfl, hb⟩
      have S13 : Hid (St wa w13 p [(0, cc)] 1) := Lib.hid (S12.out.down hb)
      clear hb S12
      go_wp2_with fail
      have PT := st_at_u wa w13 p [(0, cc)] 1 0 i cc S13.out Z64 (by simp) K3
      rw [L3, idxF_int, ei] at PT
      simp only [Bool.false_eq_true, if_false] at PT
      refine PT.mono ?_
      clear PT
      rintro e w14 ⟨rfl, hb⟩
      have S14 : Hid (St wa w14 p [(0, cc)] 1) := Lib.hid (S13.out.down hb)
      clear hb S13
      generalize atU cc i = vi at AI ⊢
      obtain ⟨vk, vn, vs⟩ := vi
      dsimp only [valV, sBounds]
      simp only at AI
      go_wp2_with fail
      refine (lawRef_any 0 _).mono ?_
      rintro e w15 ⟨rfl, hb⟩
      have S15 : Hid (St wa w15 p [(0, cc)] 1) := Lib.hid (S14.out.down1 _ hb)
      have KV := Lib.hid ((Bk.new w14 #[.int .i64 vk, .int .i64 vn, .string vs] 36).below hb (by simp))
      clear hb S14
      go_wp2_with fail
      refine (lawNum_any k _).mono ?_
      rintro e w16 ⟨rfl, hb⟩
      have S16 : Hid (St wa w16 p [(0, cc)] 1) := Lib.hid (S15.out.down hb)
      have KV2 := Lib.hid (KV.out.below hb KV.out.lt)
      clear hb S15 KV
      go_wp2_with fail
      have PT := st_at_u wa w16 p [(0, cc)] 1 0 k cc S16.out Z64 (by simp) K3
      rw [L3, idxF_int, ek] at PT
      simp only [Bool.false_eq_true, if_false] at PT
      refine PT.mono ?_
      clear PT
      rintro e w17 ⟨rfl, hb⟩
      have S17 : Hid (St wa w17 p [(0, cc)] 1) := Lib.hid (S16.out.down hb)
      have KV := Lib.hid (KV2.out.below hb KV2.out.lt)
      clear hb S16 KV2
      generalize atU cc k = vj at AK ⊢
      obtain ⟨uk, un, us⟩ := vj
      dsimp only [valV, sBounds]
      simp only at AK
      go_wp2_with fail
      refine (lawRef_any 0 _).mono ?_
      rintro e w18 ⟨rfl, hb⟩
      have S18 : Hid (St wa w18 p [(0, cc)] 1) := Lib.hid (S17.out.down1 _ hb)
      have KW := Lib.hid ((Bk.new w17 #[.int .i64 uk, .int .i64 un, .string us] 36).below hb (by simp))
      have KV2 := Lib.hid ((KV.out.alloc _).below hb (KV.out.alloc _).lt)
      clear hb S17 KV
      go_wp2_with fail
      refine (st_len wa w18 p [(0, cc)] 1 ⟨5, 0, ⟨#[]⟩⟩ cc S18.out Z64 rfl (by simp) K3).mono ?_
      rw [L3]
      rintro e w19 ⟨rfl, hb⟩
      have S19 : Hid (St wa w19 p [(0, cc)] 1) := Lib.hid (S18.out.down hb)
      have KW2 := Lib.hid (KW.out.below hb KW.out.lt)
      have KV := Lib.hid (KV2.out.below hb KV2.out.lt)
      clear hb S18 KW KV2
      dsimp only [valV]
      have q1 := KW2.out.cell 1 (.int .i64 un) rfl
      have q2 := KV.out.cell 1 (.int .i64 vn) rfl
      have q3 := KW2.out.lt
      have q4 := KV.out.lt
      have FIN := Lib.hid (BA.out.trans (S19.out.below.mono BA.out.size))
      clear KW2 KV
      clear AI AK
      go_wp2_with fail
      all_goals (first | (go_ret; exact ⟨rfl, FIN.out.alloc FIN.out.size _⟩) | (trace_state; sorry))
    · rw [ei, ek]
      simp only [Bool.false_eq_true, if_false]
      dsimp only [sBounds]
      go_wp2_with fail
      refine (lawRef_any 0 _).mono ?_
      rintro e w12 ⟨rfl, hb⟩
      have S12 : Hid (St wa w12 p [(0, cc)] 1) := Lib.hid (S11.out.down hb)
      clear hb S11
      go_wp2_with fail
      refine (lawNum_any i _).mono ?_
      rintro e w13 ⟨rfl, hb⟩
      have S13 : Hid (St wa w13 p [(0, cc)] 1) := Lib.hid (S12.out.down hb)
      clear hb S12
      go_wp2_with fail
      have PT := st_at_u wa w13 p [(0, cc)] 1 0 i cc S13.out Z64 (by simp) K3
      rw [L3, idxF_int, ei] at PT
      simp only [Bool.false_eq_true, if_false] at PT
      refine PT.mono ?_
      clear PT
      rintro e w14 ⟨rfl, hb⟩
      have S14 : Hid (St wa w14 p [(0, cc)] 1) := Lib.hid (S13.out.down hb)
      clear hb S13
      generalize atU cc i = vi at AI ⊢
      obtain ⟨vk, vn, vs⟩ := vi
      dsimp only [valV, sBounds]
      simp only at AI
      go_wp2_with fail
      refine (lawRef_any 0 _).mono ?_
      rintro e w15 ⟨rfl, hb⟩
      have S15 : Hid (St wa w15 p [(0, cc)] 1) := Lib.hid (S14.out.down1 _ hb)
      have KV := Lib.hid ((Bk.new w14 #[.int .i64 vk, .int .i64 vn, .string vs] 36).below hb (by simp))
      clear hb S14
      go_wp2_with fail
      refine (lawNum_any k _).mono ?_
      rintro e w16 ⟨rfl, hb⟩
      have S16 : Hid (St wa w16 p [(0, cc)] 1) := Lib.hid (S15.out.down hb)
      have KV2 := Lib.hid (KV.out.below hb KV.out.lt)
      clear hb S15 KV
      go_wp2_with fail
      have PT := st_at_u wa w16 p [(0, cc)] 1 0 k cc S16.out Z64 (by simp) K3
      rw [L3, idxF_int, ek] at PT
      simp only [Bool.false_eq_true, if_false] at PT
      refine PT.mono ?_
      clear PT
      rintro e w17 ⟨rfl, hb⟩
      have S17 : Hid (St wa w17 p [(0, cc)] 1) := Lib.hid (S16.out.down hb)
      have KV := Lib.hid (KV2.out.below hb KV2.out.lt)
      clear hb S16 KV2
      generalize atU cc k = vj at AK ⊢
      obtain ⟨uk, un, us⟩ := vj
      dsimp only [valV, sBounds]
      simp only at AK
      go_wp2_with fail
      refine (lawRef_any 0 _).mono ?_
      rintro e w18 ⟨rfl, hb⟩
      have S18 : Hid (St wa w18 p [(0, cc)] 1) := Lib.hid (S17.out.down1 _ hb)
      have KW := Lib.hid ((Bk.new w17 #[.int .i64 uk, .int .i64 un, .string us] 36).below hb (by simp))
      have KV2 := Lib.hid ((KV.out.alloc _).below hb (KV.out.alloc _).lt)
      clear hb S17 KV
      go_wp2_with fail
      refine (st_len wa w18 p [(0, cc)] 1 ⟨5, 0, ⟨#[]⟩⟩ cc S18.out Z64 rfl (by simp) K3).mono ?_
      rw [L3]
      rintro e w19 ⟨rfl, hb⟩
      have S19 : Hid (St wa w19 p [(0, cc)] 1) := Lib.hid (S18.out.down hb)
      have KW2 := Lib.hid (KW.out.below hb KW.out.lt)
      have KV := Lib.hid (KV2.out.below hb KV2.out.lt)
      clear hb S18 KW KV2
      dsimp only [valV]
      have q1 := KW2.out.cell 1 (.int .i64 un) rfl
      have q2 := KV.out.cell 1 (.int .i64 vn) rfl
      have q3 := KW2.out.lt
      have q4 := KV.out.lt
      have FIN := Lib.hid (BA.out.trans (S19.out.below.mono BA.out.size))
      clear KW2 KV
      clear AI AK
      go_wp2_with fail
      all_goals (first | (go_ret; exact ⟨rfl, FIN.out.alloc FIN.out.size _⟩) | (trace_state; sorry))
    · rw [ei, ek]
      simp only [Bool.false_eq_true, if_false, if_true]
      dsimp only [sBounds]
      go_wp2_with fail
      refine (lawRef_any 0 _).mono ?_
      rintro e w12 ⟨rfl, hb⟩
      have S12 : Hid (St wa w12 p [(0, cc)] 1) := Lib.hid (S11.out.down hb)
      clear hb S11
      go_wp2_with fail
      refine (lawNum_any i _).mono ?_
      rintro e w13 ⟨rfl, hb⟩
      have S13 : Hid (St wa w13 p [(0, cc)] 1) := Lib.hid (S12.out.down hb)
      clear hb S12
      go_wp2_with fail
      have PT := st_at_u wa w13 p [(0, cc)] 1 0 i cc S13.out Z64 (by simp) K3
      rw [L3, idxF_int, ei] at PT
      simp only [Bool.false_eq_true, if_false] at PT
      refine PT.mono ?_
      clear PT
      rintro e w14 ⟨rfl, hb⟩
      have S14 : Hid (St wa w14 p [(0, cc)] 1) := Lib.hid (S13.out.down hb)
      clear hb S13
      generalize atU cc i = vi at AI ⊢
      obtain ⟨vk, vn, vs⟩ := vi
      dsimp only [valV, sBounds]
      simp only at AI
      go_wp2_with fail
      refine (lawRef_any 0 _).mono ?_
      rintro e w15 ⟨rfl, hb⟩
      have S15 : Hid (St wa w15 p [(0, cc)] 1) := Lib.hid (S14.out.down1 _ hb)
      have KV := Lib.hid ((Bk.new w14 #[.int .i64 vk, .int .i64 vn, .string vs] 36).below hb (by simp))
      clear hb S14
      go_wp2_with fail
      refine (lawNum_any k _).mono ?_
      rintro e w16 ⟨rfl, hb⟩
      have S16 : Hid (St wa w16 p [(0, cc)] 1) := Lib.hid (S15.out.down hb)
      have KV2 := Lib.hid (KV.out.below hb KV.out.lt)
      clear hb S15 KV
      go_wp2_with fail
      have PT := st_at_u wa w16 p [(0, cc)] 1 0 k cc S16.out Z64 (by simp) K3
      rw [L3, idxF_int, ek] at PT
      simp only [if_true] at PT
      refine PT.mono ?_
      clear PT
      rintro e w17 ⟨rfl, hb⟩
      have S17 : Hid (St wa w17 p [(0, cc)] 1) := Lib.hid (S16.out.down hb)
      have KV := Lib.hid (KV2.out.below hb KV2.out.lt)
      clear hb S16 KV2
      generalize atU cc k = vj at AK ⊢
      obtain ⟨uk, un, us⟩ := vj
      dsimp only [valV]
      simp only at AK
      go_wp2_with fail
      refine (lawRef_any 0 _).mono ?_
      rintro e w18 ⟨rfl, hb⟩
      have S18 : Hid (St wa w18 p [(0, cc)] 1) := Lib.hid (S17.out.down1 _ hb)
      have KW := Lib.hid ((Bk.new w17 #[.int .i64 uk, .int .i64 un, .string us] 36).below hb (by simp))
      have KV2 := Lib.hid ((KV.out.alloc _).below hb (KV.out.alloc _).lt)
      clear hb S17 KV
      go_wp2_with fail
      refine (st_len wa w18 p [(0, cc)] 1 ⟨5, 0, ⟨#[]⟩⟩ cc S18.out Z64 rfl (by simp) K3).mono ?_
      rw [L3]
      rintro e w19 ⟨rfl, hb⟩
      have S19 : Hid (St wa w19 p [(0, cc)] 1) := Lib.hid (S18.out.down hb)
      have KW2 := Lib.hid (KW.out.below hb KW.out.lt)
      have KV := Lib.hid (KV2.out.below hb KV2.out.lt)
      clear hb S18 KW KV2
      dsimp only [valV]
      have q1 := KW2.out.cell 1 (.int .i64 un) rfl
      have q2 := KV.out.cell 1 (.int .i64 vn) rfl
      have q3 := KW2.out.lt
      have q4 := KV.out.lt
      have FIN := Lib.hid (BA.out.trans (S19.out.below.mono BA.out.size))
      clear KW2 KV
      have AK2 := AK.out ek
      subst AK2
      clear AI AK
      go_wp2_with fail
      all_goals (first | (go_ret; exact ⟨rfl, FIN.out.alloc FIN.out.size _⟩) | (trace_state; sorry))
  · rcases inB_cases n k with ⟨ek, dk⟩ | ⟨ek, dk, dl⟩ | ⟨ek, dk, dl⟩
    · rw [ei, ek]
      simp only [Bool.false_eq_true, if_false]
      dsimp only [sBounds]
      go_wp2_with fail
      refine (lawRef_any 0 _).mono ?_
      rintro e w12 ⟨rfl, hb⟩
      have S12 : Hid (St wa w12 p [(0, cc)] 1) := Lib.hid (S11.out.down hb)
      clear hb S11
      go_wp2_with fail
      refine (lawNum_any i _).mono ?_
      rintro e w13 ⟨rfl, hb⟩
      have S13 : Hid (St wa w13 p [(0, cc)] 1) := Lib.hid (S12.out.down hb)
      clear hb S12
      go_wp2_with fail
      have PT := st_at_u wa w13 p [(0, cc)] 1 0 i cc S13.out Z64 (by simp) K3
      rw [L3, idxF_int, ei] at PT
      simp only [Bool.false_eq_true, if_false] at PT
      refine PT.mono ?_
      clear PT
      rintro e w14 ⟨rfl, hb⟩
      have S14 : Hid (St wa w14 p [(0, cc)] 1) := Lib.hid (S13.out.down hb)
      clear hb S13
      generalize atU cc i = vi at AI ⊢
      obtain ⟨vk, vn, vs⟩ := vi
      dsimp only [valV, sBounds]
      simp only at AI
      go_wp2_with fail
      refine (lawRef_any 0 _).mono ?_
      rintro e w15 ⟨rfl, hb⟩
      have S15 : Hid (St wa w15 p [(0, cc)] 1) := Lib.hid (S14.out.down1 _ hb)
      have KV := Lib.hid ((Bk.new w14 #[.int .i64 vk, .int .i64 vn, .string vs] 36).below hb (by simp))
      clear hb S14
      go_wp2_with fail
      refine (lawNum_any k _).mono ?_
      rintro e w16 ⟨rfl, hb⟩
      have S16 : Hid (St wa w16 p [(0, cc)] 1) := Lib.hid (S15.out.down hb)
      have KV2 := Lib.hid (KV.out.below hb KV.out.lt)
      clear hb S15 KV
      go_wp2_with fail
      have PT := st_at_u wa w16 p [(0, cc)] 1 0 k cc S16.out Z64 (by simp) K3
      rw [L3, idxF_int, ek] at PT
      simp only [Bool.false_eq_true, if_false] at PT
      refine PT.mono ?_
      clear PT
      rintro e w17 ⟨rfl, hb⟩
      have S17 : Hid (St wa w17 p [(0, cc)] 1) := Lib.hid (S16.out.down hb)
      have KV := Lib.hid (KV2.out.below hb KV2.out.lt)
      clear hb S16 KV2
      generalize atU cc k = vj at AK ⊢
      obtain ⟨uk, un, us⟩ := vj
      dsimp only [valV, sBounds]
      simp only at AK
      go_wp2_with fail
      refine (lawRef_any 0 _).mono ?_
      rintro e w18 ⟨rfl, hb⟩
      have S18 : Hid (St wa w18 p [(0, cc)] 1) := Lib.hid (S17.out.down1 _ hb)
      have KW := Lib.hid ((Bk.new w17 #[.int .i64 uk, .int .i64 un, .string us] 36).below hb (by simp))
      have KV2 := Lib.hid ((KV.out.alloc _).below hb (KV.out.alloc _).lt)
      clear hb S17 KV
      go_wp2_with fail
      refine (st_len wa w18 p [(0, cc)] 1 ⟨5, 0, ⟨#[]⟩⟩ cc S18.out Z64 rfl (by simp) K3).mono ?_
      rw [L3]
      rintro e w19 ⟨rfl, hb⟩
      have S19 : Hid (St wa w19 p [(0, cc)] 1) := Lib.hid (S18.out.down hb)
      have KW2 := Lib.hid (KW.out.below hb KW.out.lt)
      have KV := Lib.hid (KV2.out.below hb KV2.out.lt)
      clear hb S18 KW KV2
      dsimp only [valV]
      have q1 := KW2.out.cell 1 (.int .i64 un) rfl
      have q2 := KV.out.cell 1 (.int .i64 vn) rfl
      have q3 := KW2.out.lt
      have q4 := KV.out.lt
      have FIN := Lib.hid (BA.out.trans (S19.out.below.mono BA.out.size))
      clear KW2 KV
      clear AI AK
      go_wp2_with fail
      all_goals (first | (go_ret; exact ⟨rfl, FIN.out.alloc FIN.out.size _⟩) | (trace_state; sorry))
    · rw [ei, ek]
      simp only [Bool.false_eq_true, if_false]
      dsimp only [sBounds]
      go_wp2_with fail
      refine (lawRef_any 0 _).mono ?_
      rintro e w12 ⟨rfl, hb⟩
      have S12 : Hid (St wa w12 p [(0, cc)] 1) := Lib.hid (S11.out.down hb)
      clear hb S11
      go_wp2_with fail
      refine (lawNum_any i _).mono ?_
      rintro e w13 ⟨rfl, hb⟩
      have S13 : Hid (St wa w13 p [(0, cc)] 1) := Lib.hid (S12.out.down hb)
      clear hb S12
      go_wp2_with fail
      have PT := st_at_u wa w13 p [(0, cc)] 1 0 i cc S13.out Z64 (by simp) K3
      rw [L3, idxF_int, ei] at PT
      simp only [Bool.false_eq_true, if_false] at PT
      refine PT.mono ?_
      clear PT
      rintro e w14 ⟨rfl, hb⟩
      have S14 : Hid (St wa w14 p [(0, cc)] 1) := Lib.hid (S13.out.down hb)
      clear hb S13
      generalize atU cc i = vi at AI ⊢
      obtain ⟨vk, vn, vs⟩ := vi
      dsimp only [valV, sBounds]
      simp only at AI
      go_wp2_with fail
      refine (lawRef_any 0 _).mono ?_
      rintro e w15 ⟨rfl, hb⟩
      have S15 : Hid (St wa w15 p [(0, cc)] 1) := Lib.hid (S14.out.down1 _ hb)
      have KV := Lib.hid ((Bk.new w14 #[.int .i64 vk, .int .i64 vn, .string vs] 36).below hb (by simp))
      clear hb S14
      go_wp2_with fail
      refine (lawNum_any k _).mono ?_
      rintro e w16 ⟨rfl, hb⟩
      have S16 : Hid (St wa w16 p [(0, cc)] 1) := Lib.hid (S15.out.down hb)
      have KV2 := Lib.hid (KV.out.below hb KV.out.lt)
      clear hb S15 KV
      go_wp2_with fail
      have PT := st_at_u wa w16 p [(0, cc)] 1 0 k cc S16.out Z64 (by simp) K3
      rw [L3, idxF_int, ek] at PT
      simp only [Bool.false_eq_true, if_false] at PT
      refine PT.mono ?_
      clear PT
      rintro e w17 ⟨rfl, hb⟩
      have S17 : Hid (St wa w17 p [(0, cc)] 1) := Lib.hid (S16.out.down hb)
      have KV := Lib.hid (KV2.out.below hb KV2.out.lt)
      clear hb S16 KV2
      generalize atU cc k = vj at AK ⊢
      obtain ⟨uk, un, us⟩ := vj
      dsimp only [valV, sBounds]
      simp only at AK
      go_wp2_with fail
      refine (lawRef_any 0 _).mono ?_
      rintro e w18 ⟨rfl, hb⟩
      have S18 : Hid (St wa w18 p [(0, cc)] 1) := Lib.hid (S17.out.down1 _ hb)
      have KW := Lib.hid ((Bk.new w17 #[.int .i64 uk, .int .i64 un, .string us] 36).below hb (by simp))
      have KV2 := Lib.hid ((KV.out.alloc _).below hb (KV.out.alloc _).lt)
      clear hb S17 KV
      go_wp2_with fail
      refine (st_len wa w18 p [(0, cc)] 1 ⟨5, 0, ⟨#[]⟩⟩ cc S18.out Z64 rfl (by simp) K3).mono ?_
      rw [L3]
      rintro e w19 ⟨rfl, hb⟩
      have S19 : Hid (St wa w19 p [(0, cc)] 1) := Lib.hid (S18.out.down hb)
      have KW2 := Lib.hid (KW.out.below hb KW.out.lt)
      have KV := Lib.hid (KV2.out.below hb KV2.out.lt)
      clear hb S18 KW KV2
      dsimp only [valV]
      have q1 := KW2.out.cell 1 (.int .i64 un) rfl
      have q2 := KV.out.cell 1 (.int .i64 vn) rfl
      have q3 := KW2.out.lt
      have q4 := KV.out.lt
      have FIN := Lib.hid (BA.out.trans (S19.out.below.mono BA.out.size))
      clear KW2 KV
      clear AI AK
      go_wp2_with fail
      all_goals (first | (go_ret; exact ⟨rfl, FIN.out.alloc FIN.out.size _⟩) | (trace_state; sorry))
    · rw [ei, ek]
      simp only [Bool.false_eq_true, if_false, if_true]
      dsimp only [sBounds]
      go_wp2_with fail
      refine (lawRef_any 0 _).mono ?_
      rintro e w12 ⟨rfl, hb⟩
      have S12 : Hid (St wa w12 p [(0, cc)] 1) := Lib.hid (S11.out.down hb)
      clear hb S11
      go_wp2_with fail
      refine (lawNum_any i _).mono ?_
      rintro e w13 ⟨rfl, hb⟩
      have S13 : Hid (St wa w13 p [(0, cc)] 1) := Lib.hid (S12.out.down hb)
      clear hb S12
      go_wp2_with fail
      have PT := st_at_u wa w13 p [(0, cc)] 1 0 i cc S13.out Z64 (by simp) K3
      rw [L3, idxF_int, ei] at PT
      simp only [Bool.false_eq_true, if_false] at PT
      refine PT.mono ?_
      clear PT
      rintro e w14 ⟨rfl, hb⟩
      have S14 : Hid (St wa w14 p [(0, cc)] 1) := Lib.hid (S13.out.down hb)
      clear hb S13
      generalize atU cc i = vi at AI ⊢
      obtain ⟨vk, vn, vs⟩ := vi
      dsimp only [valV, sBounds]
      simp only at AI
      go_wp2_with fail
      refine (lawRef_any 0 _).mono ?_
      rintro e w15 ⟨rfl, hb⟩
      have S15 : Hid (St wa w15 p [(0, cc)] 1) := Lib.hid (S14.out.down1 _ hb)
      have KV := Lib.hid ((Bk.new w14 #[.int .i64 vk, .int .i64 vn, .string vs] 36).below hb (by simp))
      clear hb S14
      go_wp2_with fail
      refine (lawNum_any k _).mono ?_
      rintro e w16 ⟨rfl, hb⟩
      have S16 : Hid (St wa w16 p [(0, cc)] 1) := Lib.hid (S15.out.down hb)
      have KV2 := Lib.hid (KV.out.below hb KV.out.lt)
      clear hb S15 KV
      go_wp2_with fail
      have PT := st_at_u wa w16 p [(0, cc)] 1 0 k cc S16.out Z64 (by simp) K3
      rw [L3, idxF_int, ek] at PT
      simp only [if_true] at PT
      refine PT.mono ?_
      clear PT
      rintro e w17 ⟨rfl, hb⟩
      have S17 : Hid (St wa w17 p [(0, cc)] 1) := Lib.hid (S16.out.down hb)
      have KV := Lib.hid (KV2.out.below hb KV2.out.lt)
      clear hb S16 KV2
      generalize atU cc k = vj at AK ⊢
      obtain ⟨uk, un, us⟩ := vj
      dsimp only [valV]
      simp only at AK
      go_wp2_with fail
      refine (lawRef_any 0 _).mono ?_
      rintro e w18 ⟨rfl, hb⟩
      have S18 : Hid (St wa w18 p [(0, cc)] 1) := Lib.hid (S17.out.down1 _ hb)
      have KW := Lib.hid ((Bk.new w17 #[.int .i64 uk, .int .i64 un, .string us] 36).below hb (by simp))
      have KV2 := Lib.hid ((KV.out.alloc _).below hb (KV.out.alloc _).lt)
      clear hb S17 KV
      go_wp2_with fail
      refine (st_len wa w18 p [(0, cc)] 1 ⟨5, 0, ⟨#[]⟩⟩ cc S18.out Z64 rfl (by simp) K3).mono ?_
      rw [L3]
      rintro e w19 ⟨rfl, hb⟩
      have S19 : Hid (St wa w19 p [(0, cc)] 1) := Lib.hid (S18.out.down hb)
      have KW2 := Lib.hid (KW.out.below hb KW.out.lt)
      have KV := Lib.hid (KV2.out.below hb KV2.out.lt)
      clear hb S18 KW KV2
      dsimp only [valV]
      have q1 := KW2.out.cell 1 (.int .i64 un) rfl
      have q2 := KV.out.cell 1 (.int .i64 vn) rfl
      have q3 := KW2.out.lt
      have q4 := KV.out.lt
      have FIN := Lib.hid (BA.out.trans (S19.out.below.mono BA.out.size))
      clear KW2 KV
      have AK2 := AK.out ek
      subst AK2
      clear AI AK
      go_wp2_with fail
      all_goals (first | (go_ret; exact ⟨rfl, FIN.out.alloc FIN.out.size _⟩) | (trace_state; sorry))
  · rcases inB_cases n k with ⟨ek, dk⟩ | ⟨ek, dk, dl⟩ | ⟨ek, dk, dl⟩
    · rw [ei, ek]
      simp only [Bool.false_eq_true, if_false, if_true]
      dsimp only [sBounds]
      go_wp2_with fail
      refine (lawRef_any 0 _).mono ?_
      rintro e w12 ⟨rfl, hb⟩
      have S12 : Hid (St wa w12 p [(0, cc)] 1) := Lib.hid (S11.out.down hb)
      clear hb S11
      go_wp2_with fail
      refine (lawNum_any i _).mono ?_
      rintro e w13 ⟨rfl, hb⟩
      have S13 : Hid (St wa w13 p [(0, cc)] 1) := Lib.hid (S12.out.down hb)
      clear hb S12
      go_wp2_with fail
      have PT := st_at_u wa w13 p [(0, cc)] 1 0 i cc S13.out Z64 (by simp) K3
      rw [L3, idxF_int, ei] at PT
      simp only [if_true] at PT
      refine PT.mono ?_
      clear PT
      rintro e w14 ⟨rfl, hb⟩
      have S14 : Hid (St wa w14 p [(0, cc)] 1) := Lib.hid (S13.out.down hb)
      clear hb S13
      generalize atU cc i = vi at AI ⊢
      obtain ⟨vk, vn, vs⟩ := vi
      dsimp only [valV]
      simp only at AI
      go_wp2_with fail
      refine (lawRef_any 0 _).mono ?_
      rintro e w15 ⟨rfl, hb⟩
      have S15 : Hid (St wa w15 p [(0, cc)] 1) := Lib.hid (S14.out.down1 _ hb)
      have KV := Lib.hid ((Bk.new w14 #[.int .i64 vk, .int .i64 vn, .string vs] 36).below hb (by simp))
      clear hb S14
      go_wp2_with fail
      refine (lawNum_any k _).mono ?_
      rintro e w16 ⟨rfl, hb⟩
      have S16 : Hid (St wa w16 p [(0, cc)] 1) := Lib.hid (S15.out.down hb)
      have KV2 := Lib.hid (KV.out.below hb KV.out.lt)
      clear hb S15 KV
      go_wp2_with fail
      have PT := st_at_u wa w16 p [(0, cc)] 1 0 k cc S16.out Z64 (by simp) K3
      rw [L3, idxF_int, ek] at PT
      simp only [Bool.false_eq_true, if_false] at PT
      refine PT.mono ?_
      clear PT
      rintro e w17 ⟨rfl, hb⟩
      have S17 : Hid (St wa w17 p [(0, cc)] 1) := Lib.hid (S16.out.down hb)
      have KV := Lib.hid (KV2.out.below hb KV2.out.lt)
      clear hb S16 KV2
      generalize atU cc k = vj at AK ⊢
      obtain ⟨uk, un, us⟩ := vj
      dsimp only [valV, sBounds]
      simp only at AK
      go_wp2_with fail
      refine (lawRef_any 0 _).mono ?_
      rintro e w18 ⟨rfl, hb⟩
      have S18 : Hid (St wa w18 p [(0, cc)] 1) := Lib.hid (S17.out.down1 _ hb)
      have KW := Lib.hid ((Bk.new w17 #[.int .i64 uk, .int .i64 un, .string us] 36).below hb (by simp))
      have KV2 := Lib.hid ((KV.out.alloc _).below hb (KV.out.alloc _).lt)
      clear hb S17 KV
      go_wp2_with fail
      refine (st_len wa w18 p [(0, cc)] 1 ⟨5, 0, ⟨#[]⟩⟩ cc S18.out Z64 rfl (by simp) K3).mono ?_
      rw [L3]
      rintro e w19 ⟨rfl, hb⟩
      have S19 : Hid (St wa w19 p [(0, cc)] 1) := Lib.hid (S18.out.down hb)
      have KW2 := Lib.hid (KW.out.below hb KW.out.lt)
      have KV := Lib.hid (KV2.out.below hb KV2.out.lt)
      clear hb S18 KW KV2
      dsimp only [valV]
      have q1 := KW2.out.cell 1 (.int .i64 un) rfl
      have q2 := KV.out.cell 1 (.int .i64 vn) rfl
      have q3 := KW2.out.lt
      have q4 := KV.out.lt
      have FIN := Lib.hid (BA.out.trans (S19.out.below.mono BA.out.size))
      clear KW2 KV
      by_cases hik : i = k
      · clear AI AK
        subst hik
        go_wp2_with fail
        all_goals (first | (go_ret; exact ⟨rfl, FIN.out.alloc FIN.out.size _⟩) | (trace_state; sorry))
      · have AI2 := AI.out ei hik
        subst AI2
        have hik' : (i == k) = false := by simp [hik]
        clear AI AK hik
        go_wp2_with fail
        all_goals (first | (go_ret; exact ⟨rfl, FIN.out.alloc FIN.out.size _⟩) | (trace_state; sorry))
    · rw [ei, ek]
      simp only [Bool.false_eq_true, if_false, if_true]
      dsimp only [sBounds]
      go_wp2_with fail
      refine (lawRef_any 0 _).mono ?_
      rintro e w12 ⟨rfl, hb⟩
      have S12 : Hid (St wa w12 p [(0, cc)] 1) := Lib.hid (S11.out.down hb)
      clear hb S11
      go_wp2_with fail
      refine (lawNum_any i _).mono ?_
      rintro e w13 ⟨rfl, hb⟩
      have S13 : Hid (St wa w13 p [(0, cc)] 1) := Lib.hid (S12.out.down hb)
      clear hb S12
      go_wp2_with fail
      have PT := st_at_u wa w13 p [(0, cc)] 1 0 i cc S13.out Z64 (by simp) K3
      rw [L3, idxF_int, ei] at PT
      simp only [if_true] at PT
      refine PT.mono ?_
      clear PT
      rintro e w14 ⟨rfl, hb⟩
      have S14 : Hid (St wa w14 p [(0, cc)] 1) := Lib.hid (S13.out.down hb)
      clear hb S13
      generalize atU cc i = vi at AI ⊢
      obtain ⟨vk, vn, vs⟩ := vi
      dsimp only [valV]
      simp only at AI
      go_wp2_with fail
      refine (lawRef_any 0 _).mono ?_
      rintro e w15 ⟨rfl, hb⟩
      have S15 : Hid (St wa w15 p [(0, cc)] 1) := Lib.hid (S14.out.down1 _ hb)
      have KV := Lib.hid ((Bk.new w14 #[.int .i64 vk, .int .i64 vn, .string vs] 36).below hb (by simp))
      clear hb S14
      go_wp2_with fail
      refine (lawNum_any k _).mono ?_
      rintro e w16 ⟨rfl, hb⟩
      have S16 : Hid (St wa w16 p [(0, cc)] 1) := Lib.hid (S15.out.down hb)
      have KV2 := Lib.hid (KV.out.below hb KV.out.lt)
      clear hb S15 KV
      go_wp2_with fail
      have PT := st_at_u wa w16 p [(0, cc)] 1 0 k cc S16.out Z64 (by simp) K3
      rw [L3, idxF_int, ek] at PT
      simp only [Bool.false_eq_true, if_false] at PT
      refine PT.mono ?_
      clear PT
      rintro e w17 ⟨rfl, hb⟩
      have S17 : Hid (St wa w17 p [(0, cc)] 1) := Lib.hid (S16.out.down hb)
      have KV := Lib.hid (KV2.out.below hb KV2.out.lt)
      clear hb S16 KV2
      generalize atU cc k = vj at AK ⊢
      obtain ⟨uk, un, us⟩ := vj
      dsimp only [valV, sBounds]
      simp only at AK
      go_wp2_with fail
      refine (lawRef_any 0 _).mono ?_
      rintro e w18 ⟨rfl, hb⟩
      have S18 : Hid (St wa w18 p [(0, cc)] 1) := Lib.hid (S17.out.down1 _ hb)
      have KW := Lib.hid ((Bk.new w17 #[.int .i64 uk, .int .i64 un, .string us] 36).below hb (by simp))
      have KV2 := Lib.hid ((KV.out.alloc _).below hb (KV.out.alloc _).lt)
      clear hb S17 KV
      go_wp2_with fail
      refine (st_len wa w18 p [(0, cc)] 1 ⟨5, 0, ⟨#[]⟩⟩ cc S18.out Z64 rfl (by simp) K3).mono ?_
      rw [L3]
      rintro e w19 ⟨rfl, hb⟩
      have S19 : Hid (St wa w19 p [(0, cc)] 1) := Lib.hid (S18.out.down hb)
      have KW2 := Lib.hid (KW.out.below hb KW.out.lt)
      have KV := Lib.hid (KV2.out.below hb KV2.out.lt)
      clear hb S18 KW KV2
      dsimp only [valV]
      have q1 := KW2.out.cell 1 (.int .i64 un) rfl
      have q2 := KV.out.cell 1 (.int .i64 vn) rfl
      have q3 := KW2.out.lt
      have q4 := KV.out.lt
      have FIN := Lib.hid (BA.out.trans (S19.out.below.mono BA.out.size))
      clear KW2 KV
      by_cases hik : i = k
      · clear AI AK
        subst hik
        go_wp2_with fail
        all_goals (first | (go_ret; exact ⟨rfl, FIN.out.alloc FIN.out.size _⟩) | (trace_state; sorry))
      · have AI2 := AI.out ei hik
        subst AI2
        have hik' : (i == k) = false := by simp [hik]
        clear AI AK hik
        go_wp2_with fail
        all_goals (first | (go_ret; exact ⟨rfl, FIN.out.alloc FIN.out.size _⟩) | (trace_state; sorry))
    · rw [ei, ek]
      simp only [if_true]
      go_wp2_with fail
      refine (lawRef_any 0 _).mono ?_
      rintro e w12 ⟨rfl, hb⟩
      have S12 : Hid (St wa w12 p [(0, cc)] 1) := Lib.hid (S11.out.down hb)
      clear hb S11
      go_wp2_with fail
      refine (lawNum_any i _).mono ?_
      rintro e w13 ⟨rfl, hb⟩
      have S13 : Hid (St wa w13 p [(0, cc)] 1) := Lib.hid (S12.out.down hb)
      clear hb S12
      go_wp2_with fail
      have PT := st_at_u wa w13 p [(0, cc)] 1 0 i cc S13.out Z64 (by simp) K3
      rw [L3, idxF_int, ei] at PT
      simp only [if_true] at PT
      refine PT.mono ?_
      clear PT
      rintro e w14 ⟨rfl, hb⟩
      have S14 : Hid (St wa w14 p [(0, cc)] 1) := Lib.hid (S13.out.down hb)
      clear hb S13
      generalize atU cc i = vi at AI ⊢
      obtain ⟨vk, vn, vs⟩ := vi
      dsimp only [valV]
      simp only at AI
      go_wp2_with fail
      refine (lawRef_any 0 _).mono ?_
      rintro e w15 ⟨rfl, hb⟩
      have S15 : Hid (St wa w15 p [(0, cc)] 1) := Lib.hid (S14.out.down1 _ hb)
      have KV := Lib.hid ((Bk.new w14 #[.int .i64 vk, .int .i64 vn, .string vs] 36).below hb (by simp))
      clear hb S14
      go_wp2_with fail
      refine (lawNum_any k _).mono ?_
      rintro e w16 ⟨rfl, hb⟩
      have S16 : Hid (St wa w16 p [(0, cc)] 1) := Lib.hid (S15.out.down hb)
      have KV2 := Lib.hid (KV.out.below hb KV.out.lt)
      clear hb S15 KV
      go_wp2_with fail
      have PT := st_at_u wa w16 p [(0, cc)] 1 0 k cc S16.out Z64 (by simp) K3
      rw [L3, idxF_int, ek] at PT
      simp only [if_true] at PT
      refine PT.mono ?_
      clear PT
      rintro e w17 ⟨rfl, hb⟩
      have S17 : Hid (St wa w17 p [(0, cc)] 1) := Lib.hid (S16.out.down hb)
      have KV := Lib.hid (KV2.out.below hb KV2.out.lt)
      clear hb S16 KV2
      generalize atU cc k = vj at AK ⊢
      obtain ⟨uk, un, us⟩ := vj
      dsimp only [valV]
      simp only at AK
      go_wp2_with fail
      refine (lawRef_any 0 _).mono ?_
      rintro e w18 ⟨rfl, hb⟩
      have S18 : Hid (St wa w18 p [(0, cc)] 1) := Lib.hid (S17.out.down1 _ hb)
      have KW := Lib.hid ((Bk.new w17 #[.int .i64 uk, .int .i64 un, .string us] 36).below hb (by simp))
      have KV2 := Lib.hid ((KV.out.alloc _).below hb (KV.out.alloc _).lt)
      clear hb S17 KV
      go_wp2_with fail
      refine (st_len wa w18 p [(0, cc)] 1 ⟨5, 0, ⟨#[]⟩⟩ cc S18.out Z64 rfl (by simp) K3).mono ?_
      rw [L3]
      rintro e w19 ⟨rfl, hb⟩
      have S19 : Hid (St wa w19 p [(0, cc)] 1) := Lib.hid (S18.out.down hb)
      have KW2 := Lib.hid (KW.out.below hb KW.out.lt)
      have KV := Lib.hid (KV2.out.below hb KV2.out.lt)
      clear hb S18 KW KV2
      dsimp only [valV]
      have q1 := KW2.out.cell 1 (.int .i64 un) rfl
      have q2 := KV.out.cell 1 (.int .i64 vn) rfl
      have q3 := KW2.out.lt
      have q4 := KV.out.lt
      have FIN := Lib.hid (BA.out.trans (S19.out.below.mono BA.out.size))
      clear KW2 KV
      have AK2 := AK.out ek
      subst AK2
      by_cases hik : i = k
      · clear AI AK
        subst hik
        go_wp2_with fail
        all_goals (first | (go_ret; exact ⟨rfl, FIN.out.alloc FIN.out.size _⟩) | (trace_state; sorry))
      · have AI2 := AI.out ei hik
        subst AI2
        have hik' : (i == k) = false := by simp [hik]
        clear AI AK hik
        go_wp2_with fail
        all_goals (first | (go_ret; exact ⟨rfl, FIN.out.alloc FIN.out.size _⟩) | (trace_state; sorry))
end Go.Proofs.YtephblgakkeclaaDoor.Hp
