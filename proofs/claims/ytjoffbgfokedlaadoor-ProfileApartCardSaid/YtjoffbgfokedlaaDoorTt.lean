/-
  The landed profile: Text.
-/
import Derived.Test.YtjoffbgfokedlaaDoorTs
import Derived.Test.YtjoffbgfokedlaaDoorTn
import Derived.Shelf.Strings.BuilderK
import Derived.Lib.BufferKept
import Derived.Deep.RegionHeld3
namespace Go.Proofs.YtjoffbgfokedlaaDoor.Pf
open Go Go.RowKit Go.Shelf

def IsB (B b : Nat) (bs : List Value) (w : World) : Prop := Lib.IsBuilderF 78 5 B b bs w
/-- All but the builder and rows of bytes stands. -/
def Oth (b : Nat) (w w' : World) : Prop := Lib.OthersKept 5 (some b) w w'
theorem bws (B b : Nat) (bs : List Value) (s : ByteArray) (w : World) (h : IsB B b bs w) (hl : bs.length + s.size ≤ 140737488355328) (hB : B ≤ w.heap.size) :
    Calls Tryd.prog 37 #[.pointer (some ⟨b, 0, none⟩), .string s] w fun e w' => e = .returned (.tuple #[.int .i64 s.size, .nilIface]) ∧ IsB B b (bs ++ Lib.strCells s) w' ∧ Below B w w' ∧ Oth b w w' :=
  (Any.Builder_WriteString_k { Tryd.lays156 with } Tryd.Builder_Extra_156 B b bs s w h hl hB).mono fun _ _ ⟨h1, h2, h3, h4⟩ => ⟨h1, .inr h2, h3, h4⟩
theorem bst (B b : Nat) (l : List UInt8) (w : World) (h : IsB B b (Lib.byteCells l) w) (hB : B ≤ w.heap.size) :
    Calls Tryd.prog 39 #[.pointer (some ⟨b, 0, none⟩)] w fun e w' => e = .returned (.string ⟨l.toArray⟩) ∧ Below B w w' :=
  (Any.Builder_String_any_k Tryd.lays169 Tryd.Builder_Extra_169 B b l w h hB).mono fun _ _ ⟨h1, _, h3, _⟩ => ⟨h1, h3⟩
theorem isB_below {B b : Nat} {bs : List Value} {w w' : World} (h : IsB B b bs w) (hb : Below w.heap.size w w') : IsB B b bs w' := by
  have key : ∀ p, Lib.BuilderAtF 78 5 B b p bs w → Lib.BuilderAtF 78 5 B b p bs w' := fun p h => by
    obtain ⟨h1, v, h2, h3, h4⟩ := h
    refine ⟨h1, v, (hb.block b (Array.getElem?_eq_some_iff.1 h2).1).trans h2, ⟨h3.1, ?_⟩, h4⟩
    rcases h3.2 with h | ⟨g, cap, cur, fz, hv, hg, hh, rest⟩
    · exact .inl h
    · exact .inr ⟨g, cap, cur, fz, hv, hg, (hb.block g (Array.getElem?_eq_some_iff.1 hh).1).trans hh, rest⟩
  exact h.elim (fun h => .inl (key _ h)) (fun h => .inr (key _ h))
theorem isB_lt {B b : Nat} {bs : List Value} {w : World} (h : IsB B b bs w) : b < w.heap.size := by
  rcases h with ⟨_, v, h2, _⟩ | ⟨_, v, h2, _⟩ <;> exact (Array.getElem?_eq_some_iff.1 h2).1
/-- A block of another type stands. -/
theorem Oth.bk {b : Nat} {w w' : World} (h : Oth b w w') {k : Nat} {c : Array Value} {T : TypeId} (hk : Bk w k c T) (hb : k ≠ b) (hT : T ≠ 5) : Bk w' k c T :=
  h k _ hk (fun e => hb (Option.some.inj e)) (fun cs fz e => by injection e with _ e; exact hT e)
def lineN (p : Plc × Spot) : List Int := [p.1.1, p.1.2, p.2.tier, p.2.calls, p.2.count, p.2.fails]
theorem lineN_text (p : Plc × Spot) : Lib.join ((lineN p).map numT) [32] ++ [10] = lineT p := by
  simp [lineN, lineT, Lib.join_cons, Lib.joinTail]
theorem lineT_len {p : Plc × Spot} {n : Nat} (h : okP p.1) (ho : p.2.Ok n) (hn : n ≤ 1000000) : (lineT p).length ≤ 200 := by
  have h1 := numT_len h.1
  have h2 := numT_len h.2
  have h3 := numT_len (show I64 p.2.tier from ⟨by have := ho.t0; omega, by have := ho.t1; omega⟩)
  have h4 := numT_len (show I64 p.2.calls from ⟨by have := ho.c0; omega, by have := ho.c1; omega⟩)
  have h5 := numT_len (show I64 p.2.count from ⟨by have := ho.k0; omega, by have := ho.k1; omega⟩)
  have h6 := numT_len (show I64 p.2.fails from ⟨by have := ho.f0; omega, by have := ho.f1; omega⟩)
  unfold lineT
  simp only [List.length_append, List.length_cons, List.length_nil]
  omega
theorem text_len {L : List (Plc × Spot)} {n : Nat} (h : ∀ p ∈ L, (lineT p).length ≤ 200) (hn : L.length ≤ n) : ∀ k, ((L.take k).flatMap lineT).length ≤ n * 200 := fun k => by
  have key : ∀ l : List (Plc × Spot), (∀ p ∈ l, (lineT p).length ≤ 200) → (l.flatMap lineT).length ≤ l.length * 200 := fun l hl => by
    induction l with
    | nil => simp
    | cons x l ih =>
      rw [List.flatMap_cons, List.length_append, List.length_cons]
      have := hl x (.head _)
      have := ih fun p hp => hl p (.tail _ hp)
      omega
  have h1 := key (L.take k) fun p hp => h p (List.mem_of_mem_take hp)
  have h2 : (L.take k).length ≤ L.length := by rw [List.length_take]; omega
  omega
theorem keys_all {D : DataW Unit} {L : List (Plc × Spot)} {f : Plc → Ld} (h : MapD D L f) (hk : ∀ q ∈ L, okP q.1) : ∀ q, q ∈ L.map (·.1) ↔ okP q ∧ Maps.has D (keyL q) = true := fun q => by
  constructor
  · intro hq
    obtain ⟨x, hx, rfl⟩ := List.mem_map.1 hq
    refine ⟨hk x hx, ?_⟩
    rw [h.has_ _ (hk x hx)]
    exact decide_eq_true hq
  · rintro ⟨h1, h2⟩
    rw [h.has_ q h1] at h2
    exact of_decide_eq_true h2
theorem byteCells_app (a b : List UInt8) : Lib.byteCells a ++ Lib.strCells (bsL b) = Lib.byteCells (a ++ b) := by
  rw [show Lib.strCells (bsL b) = Lib.byteCells b from rfl]
  unfold Lib.byteCells
  rw [List.map_append]
theorem six_cells {w : World} {g : Nat} {a b c d e o : Int} (h : Bk w g #[.int .i64 a, .int .i64 b, .int .i64 c, .int .i64 d, .int .i64 e, .int .i64 o] 3) : ∀ (j : Nat) x, [a, b, c, d, e, o][j]? = some x → w.cell? ⟨g, j, none⟩ = some (.int .i64 x) := fun j x hx => by
  rcases j with _ | _ | _ | _ | _ | _ | j
  · obtain rfl : a = x := by simpa using hx
    exact h.cell 0 _ rfl
  · obtain rfl : b = x := by simpa using hx
    exact h.cell 1 _ rfl
  · obtain rfl : c = x := by simpa using hx
    exact h.cell 2 _ rfl
  · obtain rfl : d = x := by simpa using hx
    exact h.cell 3 _ rfl
  · obtain rfl : e = x := by simpa using hx
    exact h.cell 4 _ rfl
  · obtain rfl : o = x := by simpa using hx
    exact h.cell 5 _ rfl
  · simp at hx
theorem own_slice {w : World} {base : Nat} {e : TypeId} {size n : Nat} {v : Value} {xs : List Value} (h : w.ownsRow base e size v n xs) : ∃ A c, v = .slice A n c := by
  rcases h.2 with ⟨rfl, h0⟩ | ⟨g, cap, cur, rfl, _⟩
  · exact ⟨none, 0, by rw [h0]⟩
  · exact ⟨_, _, rfl⟩
/-- A key of the row. -/
theorem row_key {w w' : World} {base b : Nat} {A : Option Addr} {c : Nat} {L : List Plc} {N : Nat} (h : w.ownsRow base 43 2 (.slice A N c) N (flatK L)) (hN : N = L.length) (ho : Oth b w w') (hb : b < base) {k : Nat} {q : Plc} (hq : L[k]? = some q) :
    ∃ g, A = some ⟨g, 0, none⟩ ∧ w'.cell? ⟨g, k * 2, none⟩ = some (.int .i64 q.1) ∧ w'.cell? ⟨g, k * 2 + 1, none⟩ = some (.int .i64 q.2) ∧ g < w'.heap.size := by
  have hk := (List.getElem?_eq_some_iff.1 hq).1
  rcases h.2 with ⟨_, h0⟩ | ⟨g, cap, cur, hv, hbase, hg, h1, h2, h3, h4⟩
  · omega
  · injection hv with hv _ _
    subst hv
    have hne : g ≠ b := by omega
    have hk' := ho.bk (k := g) (c := cur) (T := 43) hg hne (by decide)
    have e : w'.heap[g]? = w.heap[g]? := Eq.trans hk' (Eq.symm hg)
    have q0 := h.cells (g := g) rfl (k * 2) (.int .i64 q.1) (by rw [flatK_at L _ (by omega)]; rw [show k * 2 / 2 = k by omega, show k * 2 % 2 = 0 by omega, getElem!_pos L k hk, (List.getElem?_eq_some_iff.1 hq).2]; rfl)
    have q1 := h.cells (g := g) rfl (k * 2 + 1) (.int .i64 q.2) (by rw [flatK_at L _ (by omega)]; rw [show (k * 2 + 1) / 2 = k by omega, show (k * 2 + 1) % 2 = 1 by omega, getElem!_pos L k hk, (List.getElem?_eq_some_iff.1 hq).2]; rfl)
    rw [add0] at q0 q1
    exact ⟨g, rfl, (World.cell?_of_block e).trans q0, (World.cell?_of_block e).trans q1, Bk.lt hk'⟩
set_option maxRecDepth 100000 in
set_option maxHeartbeats 8000000 in
theorem code_text (w : World) (p : Nat) (t : Pst) (F : Nat → Prop) (n : Nat) (h : ProfH w p t F) (hG : Pw w) (hk : t.Ok n) (hn : n ≤ 1000000) :
    Calls Tryd.prog 14 #[.pointer (some ⟨p, 0, none⟩)] w fun e w' => e = .returned (.string (bsL t.text)) ∧ Below w.heap.size w w' := by
  obtain ⟨mb, v, f, h⟩ := h
  have H := Lib.hid h
  have HK := Lib.hid hk
  have HG := Lib.hid hG
  have c4 := h.top.cell 4 (.map (some mb)) rfl
  have pl := h.top.lt
  obtain ⟨D, hm, hD⟩ := h.map
  have HM := Lib.hid hm
  have KA := Lib.hid (keys_all hD hk.key)
  have SR := Lib.hid (show (t.L.map (·.1)).Pairwise ltP from List.pairwise_map.2 h.srt)
  have LN := Lib.hid (show t.L.length ≤ 1000000 by have := hk.len; omega)
  clear h hk hG hm hD
  go_enter Tryd.func14, Tryd.ntmps14
  go_wp2_with fail
  obtain ⟨W1, hW1⟩ : ∃ W1, w.alloc (.cells #[.pointer none, .slice none 0 0] 78) = W1 := ⟨_, rfl⟩
  have K1 := Lib.hid (show Bk W1 w.heap.size #[.pointer none, .slice none 0 0] 78 by rw [← hW1]; exact Bk.new w _ _)
  have B1 := Lib.hid (show Below w.heap.size w W1 by rw [← hW1]; exact (Below.refl _ w).alloc (Nat.le_refl _) _)
  have z1 : W1.heap.size = w.heap.size + 1 := by rw [← hW1, World.size_alloc]
  have Z1 := Lib.hid z1
  rw [hW1]
  clear hW1 z1
  refine (keys_any (some mb) W1).mono ?_
  rintro e W2 ⟨rfl, rfl⟩
  go_wp2_with fail
  have SF := Lib.hid (sortedFunc_any (W1.alloc (.cells #[.map (some mb)] 65)) W1.heap.size mb t.L.length D (t.L.map (·.1)) (by simp) ((Bk.new W1 #[.map (some mb)] 65).cell 0 _ rfl) (map_keep HM.out ((B1.out.alloc B1.out.size _).block mb HM.out.lt)) LN.out SR.out KA.out)
  refine SF.out.mono ?_
  rintro e W3 ⟨v3, rfl, ho, hb⟩
  rw [List.length_map] at ho
  obtain ⟨A3, c3, rfl⟩ := own_slice ho
  have B3 := Lib.hid ((B1.out.alloc B1.out.size _).trans (hb.mono (B1.out.alloc B1.out.size _).size))
  have O3 := Lib.hid ho
  have zz3 := hb.size
  have K3 := Lib.hid (Bk.low hb (K1.out.alloc _))
  clear ho hb SF K1
  have hbase : w.heap.size < (W1.alloc (.cells #[.map (some mb)] 65)).heap.size := by rw [World.size_alloc, Z1.out]; omega
  have n0 : (0 : Int) ≤ t.L.length := by omega
  have TL := Lib.hid (text_len (fun q hq => lineT_len (HK.out.key q hq) (HK.out.spot q hq) hn) HK.out.len)
  go_wp2_with fail
  go_loopw [16] (fun i wr => ∃ k : Nat, k ≤ t.L.length ∧ i = .int .i64 k ∧ Hid (IsB w.heap.size w.heap.size (Lib.byteCells ((t.L.take k).flatMap lineT)) wr) ∧ Hid (Below w.heap.size w wr) ∧ Hid (Oth w.heap.size W3 wr) ∧ Hid (W3.heap.size ≤ wr.heap.size)) (fun i _ => t.L.length - (intOf i).toNat)
  case atStart => exact ⟨0, by omega, rfl, Lib.hid (Lib.IsBuilderF.of (.inl ⟨Nat.le_refl _, .slice none 0 0, K3.out, World.ownsRow_nil _ _ _ _, by simp [Value.ownBlock]⟩)), B3, Lib.hid (Lib.OthersKept.refl _ _ _), Lib.hid (Nat.le_refl _)⟩
  case round =>
    obtain ⟨k, hk, rfl, ib, hb, ot, zz⟩ := hrel
    by_cases hlt : k < t.L.length
    · have hq := List.getElem?_eq_getElem hlt
      obtain ⟨q, hqe⟩ : ∃ q, t.L[k] = q := ⟨_, rfl⟩
      rw [hqe] at hq
      have hqm : q ∈ t.L := List.mem_of_getElem? hq
      obtain ⟨g, rfl, r0, r1, gl⟩ := row_key O3.out (by rw [List.length_map]) ot.out hbase (k := k) (q := q.1) (by rw [List.getElem?_map, hq]; rfl)
      have hki : (k : Int) < t.L.length := by omega
      have K1 := Lib.hid hlt
      have l6 : (t.L.length : Int) ≤ 1000000 := by have := LN.out; omega
      have TN := Lib.hid (show (t.L.take (k + 1)).flatMap lineT = (t.L.take k).flatMap lineT ++ lineT q by rw [take_next _ _ hlt, List.flatMap_append, hqe]; simp)
      obtain ⟨V, hV⟩ : ∃ V, wr.alloc (.cells #[.int .i64 q.1.1, .int .i64 q.1.2] 43) = V := ⟨_, rfl⟩
      have BX := Lib.hid (show Bk V wr.heap.size #[.int .i64 q.1.1, .int .i64 q.1.2] 43 by rw [← hV]; exact Bk.new wr _ _)
      have BV := Lib.hid (show Below wr.heap.size wr V by rw [← hV]; exact (Below.refl _ wr).alloc (Nat.le_refl _) _)
      have HV := Lib.hid (hb.out.trans (BV.out.mono hb.out.size))
      have PV := Lib.hid (H.out.below HV.out)
      have IV := Lib.hid (isB_below ib.out BV.out)
      have OV := Lib.hid (Lib.OthersKept.below ot.out BV.out)
      have LK := Lib.hid (show ptrO t.L f q.1 = some ⟨(f q.1).b, 0, none⟩ from if_pos (List.mem_map.2 ⟨q, hqm, rfl⟩))
      have LV := fun n => ((PV.out.drewN n).look (HK.out.key q hqm))
      rw [LK.out] at LV
      have LQ := Lib.hid (PV.out.loops q hqm)
      have c4 := PV.out.top.cell 4 (.map (some mb)) rfl
      have x0 := BX.out.cell 0 (.int .i64 q.1.1) rfl
      have x1 := BX.out.cell 1 (.int .i64 q.1.2) rfl
      have VW := Lib.hid hV
      have SZ := Lib.hid (show V.heap.size = wr.heap.size + 1 by rw [← hV, World.size_alloc])
      unfold plcV at LV
      clear hq hqe hV ib hb ot
      go_wp2_with fail
      rw [VW.out]
      go_quiet (fail)
      go_wp2_with fail
      have XA := Lib.hid (x0)
      have XB := Lib.hid (x1)
      obtain ⟨V2, hV2⟩ : ∃ V2, V.drewN nq = V2 := ⟨_, rfl⟩
      have BV2 := Lib.hid (show Below V.heap.size V V2 by rw [← hV2]; exact ⟨rfl, rfl, rfl, Nat.le_refl _, fun _ _ => rfl⟩)
      have SZ2 := Lib.hid (show V2.heap.size = V.heap.size by rw [← hV2]; rfl)
      rw [hV2]
      have LQ2 := Lib.hid (LQ.out.keep (w' := V2) fun g hg => BV2.out.block g (LQ.out.lt g hg))
      have BX2 := Lib.hid (Bk.low BV2.out BX.out)
      have HV2 := Lib.hid (HV.out.trans (BV2.out.mono HV.out.size))
      have IV2 := Lib.hid (isB_below IV.out BV2.out)
      have OV2 := Lib.hid (Lib.OthersKept.below OV.out BV2.out)
      obtain ⟨d, hd⟩ : ∃ d, (f q.1).b = d := ⟨_, rfl⟩
      have DL := Lib.hid (show d < w.heap.size by rw [← hd]; exact (H.out.loops q hqm).blk.lt)
      have QI := Lib.hid (show ∀ x ∈ lineN q, I64 x from by
        have k1 := HK.out.key q hqm
        have ho := HK.out.spot q hqm
        intro x hx
        simp only [lineN, List.mem_cons, List.not_mem_nil, or_false] at hx
        rcases hx with rfl | rfl | rfl | rfl | rfl | rfl
        · exact k1.1
        · exact k1.2
        · exact ⟨by have := ho.t0; omega, by have := ho.t1; omega⟩
        · exact ⟨by have := ho.c0; omega, by have := ho.c1; omega⟩
        · exact ⟨by have := ho.k0; omega, by have := ho.k1; omega⟩
        · exact ⟨by have := ho.f0; omega, by have := ho.f1; omega⟩)
      have LT := Lib.hid (lineT_len (HK.out.key q hqm) (HK.out.spot q hqm) hn)
      have LX := Lib.hid (lineN_text q)
      have y0 := LQ2.out.blk.cell 0 (.int .i64 q.2.tier) rfl
      have y1 := LQ2.out.blk.cell 1 (.int .i64 q.2.calls) rfl
      have y2 := LQ2.out.blk.cell 2 (.int .i64 q.2.count) rfl
      have y3 := LQ2.out.blk.cell 3 (.int .i64 q.2.fails) rfl
      have x0 := BX2.out.cell 0 (.int .i64 q.1.1) rfl
      have x1 := BX2.out.cell 1 (.int .i64 q.1.2) rfl
      rw [hd] at y0 y1 y2 y3 ⊢
      obtain ⟨bx, hbx⟩ : ∃ bx, wr.heap.size = bx := ⟨_, rfl⟩
      have BXL := Lib.hid (show w.heap.size < bx by rw [← hbx]; have := zz.out; have := zz3; omega)
      have BX3 := Lib.hid (show Bk V2 bx #[.int .i64 q.1.1, .int .i64 q.1.2] 43 by rw [← hbx]; exact BX2.out)
      rw [hbx] at x0 x1 ⊢
      have ZV := Lib.hid (show W3.heap.size ≤ V2.heap.size by rw [SZ2.out, SZ.out, hbx]; have := zz.out; omega)
      obtain ⟨⟨qx, qy⟩, qt, qc, qk, qf, qe, qn⟩ := q
      simp only at x0 x1 y0 y1 y2 y3 QI LT LX TN BX3
      have BA := Lib.hid (show Below V2.heap.size V2 (V2.alloc (.cells #[.int .i64 qx, .int .i64 qy, .int .i64 qt, .int .i64 qc, .int .i64 qk, .int .i64 qf] 3)).drew from ((Below.refl _ V2).alloc (Nat.le_refl _) _).drew)
      have NB := Lib.hid (numbers_any V2.heap.size 6 6 [qx, qy, qt, qc, qk, qf] (V2.alloc (.cells #[.int .i64 qx, .int .i64 qy, .int .i64 qt, .int .i64 qc, .int .i64 qk, .int .i64 qf] 3)).drew rfl (by omega) (by omega) (six_cells (Bk.new V2 _ _)) (Bk.new V2 _ _).lt QI.out (HG.out.below (HV2.out.trans (BA.out.mono HV2.out.size))))
      obtain ⟨Y, hY⟩ : ∃ Y, bsL (Lib.join (([qx, qy, qt, qc, qk, qf] : List Int).map numT) [32]) = Y := ⟨_, rfl⟩
      rw [hY] at NB
      have YE := Lib.hid (show Y ++ ⟨#[10]⟩ = bsL (lineT ((qx, qy), ⟨qt, qc, qk, qf, qe, qn⟩)) by
        rw [← hY, ← LX.out, ← bsL_app]; rfl)
      have YS := congrArg ByteArray.size YE.out
      rw [bsL_size, ByteArray.size_append] at YS
      have n1 : ¬ 9223372036854775807 < Y.size + 1 := by
        have := LT.out
        have e : (⟨#[10]⟩ : ByteArray).size = 1 := rfl
        omega
      clear hY YS
      have DV := Lib.hid (show d < V2.heap.size by have := DL.out; have := HV2.out.size; omega)
      have SL := Lib.hid (show (Lib.byteCells ((t.L.take k).flatMap lineT)).length + (Y ++ ⟨#[10]⟩).size ≤ 140737488355328 by
        have h1 := TL.out k
        have h2 := LT.out
        rw [YE.out, bsL_size]
        unfold Lib.byteCells
        rw [List.length_map]; omega)
      clear hV2 LQ LQ2 BX BX2 BV BV2 HV IV OV PV VW c4 LK XA XB LV r0 r1 hd hbx hqm gl
      go_region_held3 (fun w' => w'.cell? ⟨bx, 0, none⟩ = some (.int .i64 qx) ∧ w'.cell? ⟨bx, 1, none⟩ = some (.int .i64 qy) ∧ w'.cell? ⟨d, 0, none⟩ = some (.int .i64 qt) ∧ w'.cell? ⟨d, 1, none⟩ = some (.int .i64 qc) ∧ w'.cell? ⟨d, 2, none⟩ = some (.int .i64 qk) ∧ w'.cell? ⟨d, 3, none⟩ = some (.int .i64 qf)) (first | exact ⟨x0, x1, y0, y1, y2, y3⟩ | go_keep) ((first
        | (go_at_call 38
           (refine NB.out.mono ?_)
           rintro e w5 ⟨rfl, hb⟩
           have B5 := Lib.hid (BA.out.trans (hb.mono BA.out.size))
           have IV5 := Lib.hid (isB_below IV2.out B5.out)
           have OV5 := Lib.hid (Lib.OthersKept.below OV2.out B5.out)
           have HV5 := Lib.hid (HV2.out.trans (B5.out.mono HV2.out.size))
           have BX5 := Lib.hid (Bk.low B5.out BX3.out)
           have ZV5 := Lib.hid (Nat.le_trans ZV.out B5.out.size)
           replace x0 := BX5.out.cell 0 (.int .i64 qx) rfl
           replace x1 := BX5.out.cell 1 (.int .i64 qy) rfl
           replace y0 := (B5.out.cell (p := ⟨d, 0, none⟩) DV.out).trans y0
           replace y1 := (B5.out.cell (p := ⟨d, 1, none⟩) DV.out).trans y1
           replace y2 := (B5.out.cell (p := ⟨d, 2, none⟩) DV.out).trans y2
           replace y3 := (B5.out.cell (p := ⟨d, 3, none⟩) DV.out).trans y3
           clear hb)
        | (go_at_call 37
           (with_reducible refine (bws w.heap.size w.heap.size _ (Y ++ ⟨#[10]⟩) w5 IV5.out SL.out HV5.out.size).mono ?_)
           rintro e w6 ⟨rfl, h1, h2, h3⟩
           have G := Lib.hid (And.intro h1 (And.intro h2 h3))
           replace x0 := (h3.bk BX5.out (by have := BXL.out; omega) (by decide)).cell 0 (.int .i64 qx) rfl
           replace x1 := (h3.bk BX5.out (by have := BXL.out; omega) (by decide)).cell 1 (.int .i64 qy) rfl
           replace y0 := (h2.cell (p := ⟨d, 0, none⟩) DL.out).trans y0
           replace y1 := (h2.cell (p := ⟨d, 1, none⟩) DL.out).trans y1
           replace y2 := (h2.cell (p := ⟨d, 2, none⟩) DL.out).trans y2
           replace y3 := (h2.cell (p := ⟨d, 3, none⟩) DL.out).trans y3
           clear h1 h2 h3)))
      have G1 := Lib.hid (show IsB w.heap.size w.heap.size (Lib.byteCells ((t.L.take (k + 1)).flatMap lineT)) w6 from by rw [TN.out, ← byteCells_app, ← YE.out]; exact G.out.1)
      have G2 := Lib.hid (HV5.out.trans G.out.2.1)
      have G3 := Lib.hid (Lib.OthersKept.trans OV5.out G.out.2.2)
      have G4 := Lib.hid (Nat.le_trans ZV5.out G.out.2.1.size)
      clear x0 x1 y0 y1 y2 y3
      go_wp2_with fail
      go_roundw
      case rel => exact ⟨k + 1, K1.out, by go_num, G1, G2, G3, G4⟩
      case measure =>
        have := K1.out
        simp [intOf]; omega
    · obtain rfl : k = t.L.length := by omega
      rw [List.take_length] at ib
      have BS := Lib.hid (bst w.heap.size w.heap.size _ wr ib.out hb.out.size)
      clear ib ot
      go_wp2_with fail
      refine BS.out.mono ?_
      rintro e w5 ⟨rfl, h5⟩
      have G := Lib.hid (hb.out.trans h5)
      clear h5
      go_wp2_with fail
      go_ret
      exact ⟨rfl, G.out⟩
end Go.Proofs.YtjoffbgfokedlaaDoor.Pf
