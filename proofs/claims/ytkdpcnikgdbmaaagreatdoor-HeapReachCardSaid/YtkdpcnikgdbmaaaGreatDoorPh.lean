/-
  The reference's search, carried out: follow, Reach, Visible.
-/
import Derived.Test.YtkdpcnikgdbmaaaGreatDoorPb
import Derived.Deep.OwnRows
import Derived.Deep.QuietTactic
import Derived.BigQuiet
namespace Go.Proofs.YtkdpcnikgdbmaaaGreatDoor.Hp
open Go Go.RowKit Go.Maps Va

/-- The reference's search: what was seen, the list of what is asked, how many of it were looked at. -/
structure Bfs (l : List Ent) (wk : Bool) (L : List Val) (S : List Int) (Q : List Val) (n : Nat) : Prop where
  nodup : S.Nodup
  sub : ∀ i ∈ S, Rea l wk L i
  src : ∀ v ∈ Q, v ∈ L ∨ ∃ i ∈ S, ∃ c, look l i = some c ∧ v ∈ kids wk c
  roots : ∀ v ∈ L, v ∈ Q
  kids : ∀ i ∈ S, ∀ c, look l i = some c → ∀ v ∈ kids wk c, v ∈ Q
  done : ∀ v ∈ Q.take n, ∀ c, denC l v = some c → v.n ∈ S
  len : Q.length ≤ L.length + 3 * S.length
theorem Bfs.start (l : List Ent) (wk : Bool) (L : List Val) : Bfs l wk L [] L 0 :=
  ⟨List.nodup_nil, (fun _ h => by cases h), fun v h => .inl h, fun v h => h, (fun _ h => by cases h), (fun v h => by simp at h), by simp⟩
theorem Bfs.pass {l : List Ent} {wk : Bool} {L : List Val} {S : List Int} {Q : List Val} {n : Nat} (h : Bfs l wk L S Q n) {v : Val} (hv : Q[n]? = some v) (hd : ∀ c, denC l v = some c → v.n ∈ S) : Bfs l wk L S Q (n + 1) := by
  obtain ⟨hn, hx⟩ := List.getElem?_eq_some_iff.1 hv
  refine ⟨h.nodup, h.sub, h.src, h.roots, h.kids, fun u hu c hc => ?_, h.len⟩
  rw [List.take_succ_eq_append_getElem hn, hx] at hu
  rcases List.mem_append.1 hu with hu | hu
  · exact h.done u hu c hc
  · obtain rfl := List.mem_singleton.1 hu
    exact hd c hc
theorem Bfs.reach {l : List Ent} {wk : Bool} {L : List Val} {S : List Int} {Q : List Val} {n : Nat} (h : Bfs l wk L S Q n) {v : Val} {c : Cel} (hv : v ∈ Q) (hd : denC l v = some c) : Rea l wk L v.n := by
  rcases h.src v hv with hv | ⟨i, hi, d, hl, hm⟩
  · exact .root hv hd
  · exact .step (h.sub i hi) hl hm hd
theorem Bfs.enter {l : List Ent} {wk : Bool} {L : List Val} {S : List Int} {Q : List Val} {n : Nat} (h : Bfs l wk L S Q n) {v : Val} {c : Cel} (hv : Q[n]? = some v) (hd : denC l v = some c) (hn : v.n ∉ S) (h3 : c.items.length ≤ 3) : Bfs l wk L (S ++ [v.n]) (Q ++ Hp.kids wk c) (n + 1) := by
  obtain ⟨hk, hx⟩ := List.getElem?_eq_some_iff.1 hv
  have hl : look l v.n = some c := (den_inv hd).2.1
  refine ⟨List.nodup_append.2 ⟨h.nodup, by simp, fun a ha b hb e => ?_⟩, fun i hi => ?_, fun u hu => ?_, fun u hu => List.mem_append.2 (.inl (h.roots u hu)), fun i hi d hd' u hu => ?_, fun u hu d hd' => ?_, ?_⟩
  · obtain rfl := List.mem_singleton.1 hb
    exact hn (e ▸ ha)
  · rcases List.mem_append.1 hi with hi | hi
    · exact h.sub i hi
    · obtain rfl := List.mem_singleton.1 hi
      exact h.reach (List.mem_of_getElem? hv) hd
  · rcases List.mem_append.1 hu with hu | hu
    · rcases h.src u hu with hu | ⟨i, hi, d, h1, h2⟩
      · exact .inl hu
      · exact .inr ⟨i, List.mem_append.2 (.inl hi), d, h1, h2⟩
    · exact .inr ⟨v.n, by simp, c, hl, hu⟩
  · rcases List.mem_append.1 hi with hi | hi
    · exact List.mem_append.2 (.inl (h.kids i hi d hd' u hu))
    · obtain rfl := List.mem_singleton.1 hi
      rw [hl] at hd'
      obtain rfl := Option.some.inj hd'
      exact List.mem_append.2 (.inr hu)
  · rw [List.take_append_of_le_length (by omega), List.take_succ_eq_append_getElem hk, hx] at hu
    rcases List.mem_append.1 hu with hu | hu
    · exact List.mem_append.2 (.inl (h.done u hu d hd'))
    · obtain rfl := List.mem_singleton.1 hu
      simp
  · have := h.len
    have hk : (Hp.kids wk c).length ≤ 3 := by
      unfold Hp.kids; split
      · exact h3
      · simp
    rw [List.length_append, List.length_append, List.length_singleton]
    omega
theorem Bfs.whole {l : List Ent} {wk : Bool} {L : List Val} {S : List Int} {Q : List Val} (h : Bfs l wk L S Q Q.length) (i : Int) : i ∈ S ↔ Rea l wk L i := by
  have hd : ∀ v ∈ Q, ∀ c, denC l v = some c → v.n ∈ S := fun v hv => h.done v (by rw [List.take_length]; exact hv)
  refine ⟨h.sub i, fun hi => ?_⟩
  induction hi with
  | root hv hc => exact hd _ (h.roots _ hv) _ hc
  | step _ hl hv hc ih => exact hd _ (h.kids _ ih _ hl _ hv) _ hc
/-- The marks of what was seen. -/
def marks (I S : List Int) : List Bool := I.map fun i => decide (i ∈ S)
theorem marks_nil (I : List Int) : marks I [] = List.replicate I.length false := by
  unfold marks
  rw [show (fun i : Int => decide (i ∈ ([] : List Int))) = fun _ => false from funext fun i => by simp, List.map_const']
theorem marks_set {I S : List Int} (hs : I.Nodup) {k : Nat} {i : Int} (h : I[k]? = some i) : (marks I S).set k true = marks I (S ++ [i]) := by
  obtain ⟨hk, hx⟩ := List.getElem?_eq_some_iff.1 h
  unfold marks
  refine List.ext_getElem (by simp) fun j h1 h2 => ?_
  rw [List.getElem_set]
  simp only [List.length_set, List.length_map] at h1
  split
  · rename_i e
    subst e
    simp [hx]
  · rename_i hne
    have : I[j] ≠ i := fun e => by
      have hp := List.pairwise_iff_getElem.1 hs
      rcases Nat.lt_trichotomy j k with hj | hj | hj
      · exact hp j k _ hk hj (e.trans hx.symm)
      · exact hne hj.symm
      · exact hp k j hk h1 hj (hx.trans e.symm)
    simp [this]
theorem marks_filter {I S r : List Int} (hs : I.Pairwise (· < ·)) (hr : r.Pairwise (· < ·)) (hI : ∀ i ∈ S, i ∈ I) (h : ∀ i, i ∈ S ↔ i ∈ r) : I.filter (fun i => decide (i ∈ S)) = r := by
  refine sorted_ext (hs.filter _) hr fun i => ?_
  rw [List.mem_filter, decide_eq_true_eq, ← h i]
  exact ⟨fun h => h.2, fun hi => ⟨hI i hi, hi⟩⟩
end Go.Proofs.YtkdpcnikgdbmaaaGreatDoor.Hp
namespace Go.Proofs.YtkdpcnikgdbmaaaGreatDoor.Hp
open Go Go.RowKit Go.Maps Go.Deep Va

/-- append of a row that is read onto a row of the call's own. -/
theorem wpList_app2 {P : Program} {w : World} {ops : Array Oper} {rest : List Oper} {o : Oper} {a : Act} {Q : Exit → Act → World → Prop} (hgd : o.guard = none) (s x : Operand) (t : TypeId)
    (ho : o.op = .call { callee := .builtin .append, args := #[s, x], argTypes := #[t, t] })
    (base : Nat) (e : TypeId) (i : TypeInfo) (z : Value) (size bytes : Nat) (ht : P.underlying t = some (.slice e)) (hi : P.info? e = some i) (hz : i.zero = some z)
    (hsize : i.size = size) (hby : i.bytes = bytes) (hzs : z.cells.size = size) (hsz : 0 < size) (hb32 : bytes ≤ 32)
    (v : Value) (n : Nat) (xs : List Value) (hs : a.eval s = v) (hown : w.ownsRow base e size v n xs)
    (A : Option Addr) (m c : Nat) (news : List Value) (hx : a.eval x = .slice A m c) (hA : A = none → m = 0 ∧ c = 0) (hl : news.length = m * size) (hnews : ∀ ad, A = some ad → ∀ j u, news[j]? = some u → w.cell? (ad.add j) = some u) (h1 : ∀ u ∈ news, u.oneCell' = true)
    (hn : n ≤ 1000) (hm : m ≤ 1000) (hbase : base ≤ w.heap.size)
    (h : ∀ v' w', w'.ownsRow base e size v' (n + m) (xs ++ news) → w.grownBy w' v.ownBlock → wpList P ops Q rest (a.put o.dst v') w') : wpList P ops Q (o :: rest) a w := by
  rcases A with _ | ad
  · obtain ⟨rfl, rfl⟩ := hA rfl
    have hn : news = [] := List.eq_nil_of_length_eq_zero (by omega)
    subst hn
    exact wpList_append_own_none hgd s x t ho base e i size ht hi v n xs hs hown hx (h v w (by simpa using hown) (World.grownBy.refl w _))
  · refine wpList_append_own w hgd s x t ho base e i z size bytes ht hi hz hsize hby hzs hsz v n xs hs hown ad m c news hx hl (hnews ad rfl) h1 (by unfold maxLen; omega) ?_ hbase (fun v' w' h2 h3 _ => h v' w' h2 h3)
    have : (n + m) * bytes ≤ 2000 * 32 := Nat.mul_le_mul (by omega) hb32
    omega
theorem grown_at {w w' : World} {g n c k : Nat} (h : w.grownBy w' (Value.slice (some ⟨g, 0, none⟩) n c).ownBlock) (hk : k < w.heap.size) (hne : k ≠ g) : w'.heap[k]? = w.heap[k]? :=
  h.block k hk fun e => hne (by
    have e' : some k = some g := by first | exact e | exact e.symm
    exact Option.some.inj e')
theorem infoB : (Tryz.prog.info? 4).map (fun i => (i.zero, i.size, i.bytes)) = some (some (.bool false), 1, 1) := by kernel_rfl
def mk (I S : List Int) : Array Value := ((marks I S).map Value.bool).toArray
theorem mk_nil (I : List Int) : madeCells #[.bool false] I.length = mk I [] := by
  unfold mk
  rw [marks_nil]
  refine Array.ext (by simp [size_madeCells]) fun i h1 h2 => ?_
  simp [madeCells, Nat.mod_one]
theorem mk_set {I S : List Int} (hs : I.Nodup) {k : Nat} {i : Int} (h : I[k]? = some i) : (mk I S).setIfInBounds k (.bool true) = mk I (S ++ [i]) := by
  unfold mk
  rw [← marks_set hs h]
  simp [List.map_set]
theorem mk_at {I S : List Int} {k : Nat} {i : Int} (h : I[k]? = some i) : (mk I S)[k]? = some (.bool (decide (i ∈ S))) := by
  unfold mk marks
  simp [h]
theorem place_at {l : List Ent} (hs : (ids l).Pairwise (· < ·)) {i : Int} (h : i ∈ ids l) : ∃ (k : Nat) (c : Cel), l[k]? = some (i, c) ∧ plc (ids l) i = k ∧ (ids l)[k]? = some i := by
  obtain ⟨k, hk⟩ := List.mem_iff_getElem?.1 h
  have hk' := hk
  unfold ids at hk'
  rw [List.getElem?_map, Option.map_eq_some_iff] at hk'
  obtain ⟨⟨j, c⟩, hx, rfl⟩ := hk'
  exact ⟨k, c, hx, plc_at hs hk, hk⟩
set_option maxRecDepth 100000 in
set_option maxHeartbeats 4000000 in
theorem follow_any (P : Nat → Prop) (q : Nat) (v : Value) (es : List Ac.En) (l : List Ent) (next : Int) (wk : Bool) (L : List Val) (A : Option Addr) (n c : Nat) (w : World) (h : RefL w q v es l next) (hf : Fine l next) (hn : L.length = n) (h6 : n ≤ 6) (hA : A = none → n = 0 ∧ c = 0) (hL : ∀ v ∈ L, I64 v.n) (hV : ValsAt w P A L) (hP : ∀ b, P b → b < w.heap.size) :
    Calls Tryz.prog 67 #[.pointer (some ⟨q, 0, none⟩), .slice A n c, .bool wk] w fun e w' => ∃ (v : Value) (r : List Int), e = .returned v ∧ Hid (r.Pairwise (· < ·) ∧ (∀ i, i ∈ r ↔ Rea l wk L i) ∧ IdsAt w' w.heap.size v r ∧ Below w.heap.size w w') := by
  obtain ⟨Ae, ce, rfl, hE⟩ := h.cps.slot
  obtain ⟨iV, hiV, hV0, hV1, hV2⟩ := info_parts Ac.infoV
  obtain ⟨i0, hi0, hz0, hz1, hz2⟩ := info_parts infoI
  have l8 := hf.len
  obtain ⟨ln, hln⟩ : ∃ ln, l.length = ln := ⟨_, rfl⟩
  have ln8 : ln ≤ 8 := by omega
  have hmk := run_make_row' (P := Tryz.prog) 139 4 (.bool false) 1 Tryz.underlying139 infoB rfl .i64 .i64 ln (by omega) (by omega)
  have mk0 := mk_nil (ids l)
  rw [ids_len, hln] at mk0
  rw [mk0] at hmk
  have PL := Lib.hid (fun (w' : World) (hb : Below w.heap.size w w') (i : Int) => ref_place (h.below hb (Nat.le_refl _)) (by omega) hf.sorted i)
  have TOP := Lib.hid h.top
  have NIL := Lib.hid h.cps.nil
  have FI := Lib.hid hf
  have HE := Lib.hid hE
  have HV := Lib.hid hV
  have HP := Lib.hid hP
  have HLn := Lib.hid hn
  have HAN := Lib.hid hA
  have HLI := Lib.hid hL
  have ROOT := Lib.hid (show ∀ v ∈ L, I64 v.n from hL)
  rw [hln] at TOP
  have HLN := Lib.hid hln
  have h0 := TOP.out.cell 0 (.slice Ae ln ce) rfl
  have ql := TOP.out.lt
  clear h hf hE hV hP hn hL mk0 hln hA
  have EB := Lib.hid (fun (w' : World) (hb : Below w.heap.size w w') => HE.out.keep (w' := w') (Q := fun g => q + 1 ≤ g ∧ g < w.heap.size) fun g hg => ⟨hg, hb.block g hg.2⟩)
  have TB := Lib.hid (fun (w' : World) (hb : Below w.heap.size w w') => (hb.cell (p := ⟨q, 0, none⟩) ql).trans h0)
  have ms : ((w.alloc (.cells (mk (ids l) []) 4)).alloc (.cells #[] 64)).heap.size = w.heap.size + 1 + 1 := by simp
  have BW := Lib.hid (show Below w.heap.size w ((w.alloc (.cells (mk (ids l) []) 4)).alloc (.cells #[] 64)) from ((Below.refl _ w).alloc (Nat.le_refl _) _).alloc (by simp) _)
  have MW := Lib.hid (show Bk ((w.alloc (.cells (mk (ids l) []) 4)).alloc (.cells #[] 64)) w.heap.size (mk (ids l) []) 4 from (Bk.new w _ _).alloc _)
  have OW := Lib.hid (show ((w.alloc (.cells (mk (ids l) []) 4)).alloc (.cells #[] 64)).ownsRow (w.heap.size + 1) 64 3 (.slice (some ⟨w.heap.size + 1, 0, none⟩) 0 0) 0 [] by
    have := World.ownsRow_made (base := w.heap.size + 1) (e := 64) (size := 3) (w.alloc (.cells (mk (ids l) []) 4)) #[] 0 (by simp) (Nat.zero_le _) (by simp)
    rwa [World.size_alloc] at this)
  have MSZ := Lib.hid ms
  clear ms
  go_enter Tryz.func67, Tryz.ntmps67
  go_wp2_with (at_builtin; refine wpList_app2 rfl _ _ 44 rfl (w.heap.size + 1) 64 iV _ 3 32 Tryz.underlying44 hiV hV0 hV1 hV2 rfl (by decide) (by decide) _ 0 [] rfl OW.out A n c (flatV L) rfl HAN.out ?o2 ?o3 ?o4 (by omega) (by omega) ?o5 ?_)
  case o2 => rw [flatV_len, HLn.out]
  case o4 => exact onesV L
  case o5 => rw [MSZ.out]; omega
  case o3 =>
    rintro ad rfl j u hu
    exact ((HV.out.low HP.out BW.out).flat j u hu).2
  intro N w2 hN gN
  obtain ⟨QA0, qc0, rfl⟩ := own_slice hN
  have O2 := Lib.hid (show w2.ownsRow (w.heap.size + 1) 64 3 (.slice QA0 n qc0) n (flatV L) by simpa using hN)
  have M2 := Lib.hid (show Bk w2 w.heap.size (mk (ids l) []) 4 from (grown_at gN MW.out.lt (by omega)).trans MW.out)
  have B2 := Lib.hid (show Below w.heap.size w w2 from ⟨gN.os.trans BW.out.os, gN.tape.trans BW.out.tape, gN.output.trans BW.out.output, Nat.le_trans BW.out.size gN.size, fun x hx => (grown_at gN (Nat.lt_of_lt_of_le hx BW.out.size) (by omega)).trans (BW.out.block x hx)⟩)
  have SB := Lib.hid (Bfs.start l wk L)
  clear hN gN MW OW BW MSZ
  go_wp2_with fail
  go_loopw [8, 9] (fun a i wr => ∃ (k : Nat) (QA : Option Addr) (qn qc : Nat) (S : List Int) (Q : List Val), i = .int .i64 k ∧ a = .slice QA qn qc ∧ k ≤ qn ∧ Hid (Q.length = qn) ∧ Hid (Bfs l wk L S Q k) ∧ Hid (Bk wr w.heap.size (mk (ids l) S) 4) ∧ Hid (wr.ownsRow (w.heap.size + 1) 64 3 (.slice QA qn qc) qn (flatV Q)) ∧ Hid (Below w.heap.size w wr)) (fun _ i _ => 40 - (intOf i).toNat)
  case atStart => exact ⟨0, QA0, n, qc0, [], L, rfl, rfl, by omega, HLn, SB, M2, O2, B2⟩
  case round =>
    clear O2 M2 B2 SB
    obtain ⟨k, QA, qn, qc, S, Q, rfl, rfl, hk, hQ, hB, hM, hO, hb⟩ := hrel
    have SUB := Lib.hid (show ∀ i ∈ S, i ∈ ids l from fun i hi => by
      obtain ⟨c, hc⟩ := (hB.out.sub i hi).known
      exact List.mem_map.2 ⟨_, look_some hc, rfl⟩)
    have s8 : S.length ≤ 8 := Nat.le_trans (sub_len hB.out.nodup SUB.out) (by rw [ids_len]; exact FI.out.len)
    have q30 : qn ≤ 30 := by have h := hB.out.len; have h2 := HLn.out; have h3 := hQ.out; omega
    have szr := hb.out.size
    by_cases hlt : k < qn
    · have kq : k < Q.length := by rw [hQ.out]; exact hlt
      have hg := List.getElem?_eq_getElem kq
      obtain ⟨g, cap, eO, hgb, hgl⟩ := World.ownsRow.form hO.out (by omega)
      simp only [Value.slice.injEq] at eO
      obtain ⟨rfl, _, rfl⟩ := eO
      obtain ⟨f0, f1, f2⟩ := flatV_at Q k _ hg
      have z0 := (World.ownsRow.cellAt hO.out (k * 3) (by omega)).trans f0
      have z1 := (World.ownsRow.cellAt hO.out (k * 3 + 1) (by omega)).trans f1
      have PS := Lib.hid (fun hd => hB.out.pass hg hd)
      have ENT := Lib.hid (fun (c : Cel) hd hn h3 => hB.out.enter (c := c) hg hd hn h3)
      have ki : (k : Int) < qn := by omega
      generalize Q[k] = v at *
      obtain ⟨vk, vn, vs⟩ := v
      simp only at z0 z1 PS ENT
      clear hg f0 f1 f2 kq
      by_cases h5 : vk = 5
      · subst h5
        go_wp2_with fail
        refine (PL.out wr hb.out vn).mono ?_
        rintro e wq ⟨rfl, rfl⟩
        by_cases hm : vn ∈ ids l
        · obtain ⟨k0, c0, hx, hp, hi⟩ := place_at FI.out.sorted hm
          rw [hp]
          have k0l : k0 < ln := by rw [← HLN.out]; exact (List.getElem?_eq_some_iff.1 hx).1
          have k0i : (k0 : Int) < ln := by omega
          have mka := hM.out.cell k0 _ (mk_at hi)
          have fr := hM.out.frozen k0
          have hlook : denC l ⟨5, vn, vs⟩ = some c0 := by unfold denC; rw [if_pos rfl]; exact look_mem FI.out.sorted (List.mem_of_getElem? hx)
          have DL := Lib.hid hlook
          clear hlook hp z0 z1
          by_cases hs : vn ∈ S
          · rw [decide_eq_true hs] at mka
            have PX := Lib.hid (PS.out fun _ _ => hs)
            clear hs
            go_wp2_with fail
            go_roundw
            case rel => exact ⟨k + 1, _, qn, _, S, Q, by go_num, rfl, by omega, hQ, PX, hM, hO, hb⟩
            case measure => simp [intOf]; omega
          · rw [decide_eq_false hs] at mka
            have c3 := FI.out.few _ (List.mem_of_getElem? hx)
            simp only at c3
            have EN := Lib.hid (fun (_ : Unit) => Lib.hid (ENT.out c0 DL.out hs c3.2))
            have B3 := Lib.hid (show Below w.heap.size w (wr.setCell ⟨w.heap.size, k0, none⟩ (.bool true)) from hb.out.setCell (p := ⟨w.heap.size, k0, none⟩) (Nat.le_refl _) _)
            have M3 := Lib.hid (show Bk (wr.setCell ⟨w.heap.size, k0, none⟩ (.bool true)) w.heap.size (mk (ids l) (S ++ [vn])) 4 by
              have := hM.out.set k0 (.bool true)
              rwa [mk_set (FI.out.sorted.imp fun h => Int.ne_of_lt h) hi] at this)
            have O3 := Lib.hid (show (wr.setCell ⟨w.heap.size, k0, none⟩ (.bool true)).ownsRow (w.heap.size + 1) 64 3 (.slice (some ⟨g, 0, none⟩) qn qc) qn (flatV Q) from own_keep hO.out fun x hx _ => set_other _ _ _ _ _ (by omega))
            have TP := TB.out _ B3.out
            have hel : k0 < es.length := by rw [HE.out.len, HLN.out]; exact k0l
            have he := List.getElem?_eq_getElem hel
            have hent := (EB.out _ B3.out).ent k0 _ _ he hx
            obtain ⟨ge, rfl, hPg, hcells⟩ := (EB.out _ B3.out).row k0 _ he
            have NL := Lib.hid (NIL.out _ (List.getElem_mem hel)).2
            generalize es[k0] = e at *
            obtain ⟨eid, ek, ec, ef, et, nA, nn, nc, iA, mm, ic⟩ := e
            obtain ⟨a1, a2, a3, a4, a5, a6, a7, a8, a9⟩ := hent
            simp only at a1 a2 a3 a4 a5 a6 a7 a8 a9 NL
            have a1 := a1.symm
            subst a1; subst a2
            have x1 : (wr.setCell ⟨w.heap.size, k0, none⟩ (.bool true)).cell? ⟨ge, k0 * 7 + 1, none⟩ = some (.int .i64 c0.kind) := hcells 1 _ rfl
            have x6 : (wr.setCell ⟨w.heap.size, k0, none⟩ (.bool true)).cell? ⟨ge, k0 * 7 + 6, none⟩ = some (.slice iA mm ic) := hcells 6 _ rfl
            have IT3 := Lib.hid a9
            have MM := Lib.hid a7
            have mm3 : mm ≤ 3 := by omega
            clear hcells a3 a4 a5 a6 a7 a8 a9 he hel hs hx hi ENT PS
            rcases (show wk = true ∨ (wk = false ∧ c0.kind ≠ 4) ∨ (wk = false ∧ c0.kind = 4) by cases wk <;> by_cases h : c0.kind = 4 <;> simp [h]) with rfl | ⟨rfl, h4⟩ | ⟨rfl, h4⟩
            · have KD := Lib.hid (show Hp.kids true c0 = c0.items by unfold Hp.kids; rw [if_pos (by simp)])
              have EN := Lib.hid (EN.out ())
              go_wp2_with (at_builtin; refine wpList_app2 rfl _ _ 44 rfl (w.heap.size + 1) 64 iV _ 3 32 Tryz.underlying44 hiV hV0 hV1 hV2 rfl (by decide) (by decide) _ qn (flatV Q) rfl O3.out iA mm ic (flatV c0.items) rfl NL.out ?p2 ?p3 ?p4 (by omega) (by omega) ?p5 ?_)
              case p2 => rw [flatV_len, MM.out]
              case p4 => exact onesV c0.items
              case p5 => exact M3.out.lt
              case p3 =>
                rintro ad rfl j u hu
                exact (IT3.out.flat j u hu).2
              intro N w4 hN gN
              obtain ⟨QA2, qc2, rfl⟩ := own_slice hN
              have O4 := Lib.hid (show w4.ownsRow (w.heap.size + 1) 64 3 (.slice QA2 (qn + mm) qc2) (qn + mm) (flatV (Q ++ Hp.kids true c0)) by
                rw [KD.out, show flatV (Q ++ c0.items) = flatV Q ++ flatV c0.items by simp [flatV]]; exact hN)
              have M4 := Lib.hid (show Bk w4 w.heap.size (mk (ids l) (S ++ [vn])) 4 from (grown_at gN M3.out.lt (by omega)).trans M3.out)
              have B4 := Lib.hid (show Below w.heap.size w w4 from ⟨gN.os.trans B3.out.os, gN.tape.trans B3.out.tape, gN.output.trans B3.out.output, Nat.le_trans B3.out.size gN.size, fun x hx => (grown_at gN (Nat.lt_of_lt_of_le hx B3.out.size) (by omega)).trans (B3.out.block x hx)⟩)
              have Q4 := Lib.hid (show (Q ++ Hp.kids true c0).length = qn + mm by rw [KD.out, List.length_append, hQ.out, MM.out])
              clear hN gN
              go_wp2_with fail
              go_roundw
              case rel => exact ⟨k + 1, QA2, qn + mm, qc2, S ++ [vn], Q ++ Hp.kids true c0, by go_num, rfl, by omega, Q4, EN.out, M4, O4, B4⟩
              case measure => simp [intOf]; omega
            · have KD := Lib.hid (show Hp.kids false c0 = c0.items by unfold Hp.kids; rw [if_pos (by simp [h4])])
              have EN := Lib.hid (EN.out ())
              have e4 : (c0.kind != 4) = true := by simp [h4]
              clear h4
              go_wp2_with (at_builtin; refine wpList_app2 rfl _ _ 44 rfl (w.heap.size + 1) 64 iV _ 3 32 Tryz.underlying44 hiV hV0 hV1 hV2 rfl (by decide) (by decide) _ qn (flatV Q) rfl O3.out iA mm ic (flatV c0.items) rfl NL.out ?p2 ?p3 ?p4 (by omega) (by omega) ?p5 ?_)
              case p2 => rw [flatV_len, MM.out]
              case p4 => exact onesV c0.items
              case p5 => exact M3.out.lt
              case p3 =>
                rintro ad rfl j u hu
                exact (IT3.out.flat j u hu).2
              intro N w4 hN gN
              obtain ⟨QA2, qc2, rfl⟩ := own_slice hN
              have O4 := Lib.hid (show w4.ownsRow (w.heap.size + 1) 64 3 (.slice QA2 (qn + mm) qc2) (qn + mm) (flatV (Q ++ Hp.kids false c0)) by
                rw [KD.out, show flatV (Q ++ c0.items) = flatV Q ++ flatV c0.items by simp [flatV]]; exact hN)
              have M4 := Lib.hid (show Bk w4 w.heap.size (mk (ids l) (S ++ [vn])) 4 from (grown_at gN M3.out.lt (by omega)).trans M3.out)
              have B4 := Lib.hid (show Below w.heap.size w w4 from ⟨gN.os.trans B3.out.os, gN.tape.trans B3.out.tape, gN.output.trans B3.out.output, Nat.le_trans B3.out.size gN.size, fun x hx => (grown_at gN (Nat.lt_of_lt_of_le hx B3.out.size) (by omega)).trans (B3.out.block x hx)⟩)
              have Q4 := Lib.hid (show (Q ++ Hp.kids false c0).length = qn + mm by rw [KD.out, List.length_append, hQ.out, MM.out])
              clear hN gN
              go_wp2_with fail
              go_roundw
              case rel => exact ⟨k + 1, QA2, qn + mm, qc2, S ++ [vn], Q ++ Hp.kids false c0, by go_num, rfl, by omega, Q4, EN.out, M4, O4, B4⟩
              case measure => simp [intOf]; omega
            · have EN := Lib.hid (show Bfs l false L (S ++ [vn]) Q (k + 1) by
                have := (EN.out ()).out
                rwa [show Hp.kids false c0 = [] by unfold Hp.kids; rw [if_neg (by simp [h4])], List.append_nil] at this)
              have e4 : (c0.kind != 4) = false := by simp [h4]
              clear h4
              go_wp2_with fail
              go_roundw
              case rel => exact ⟨k + 1, _, qn, _, S ++ [vn], Q, by go_num, rfl, by omega, hQ, EN, M3, O3, B3⟩
              case measure => simp [intOf]; omega
        · have hp : plc (ids l) vn = -1 := by unfold plc; rw [if_neg hm]
          rw [hp]
          have PX := Lib.hid (PS.out fun c hc => absurd (den_inv hc).2.2 hm)
          clear hm hp
          go_wp2_with fail
          go_roundw
          case rel => exact ⟨k + 1, _, qn, _, S, Q, by go_num, rfl, by omega, hQ, PX, hM, hO, hb⟩
          case measure => simp [intOf]; omega
      · have e5 : (vk != 5) = true := by simp [h5]
        have PX := Lib.hid (PS.out fun c hc => absurd (den_inv hc).1 h5)
        clear h5
        go_wp2_with fail
        go_roundw
        case rel => exact ⟨k + 1, _, qn, _, S, Q, by go_num, rfl, by omega, hQ, PX, hM, hO, hb⟩
        case measure => simp [intOf]; omega
    · obtain rfl : k = qn := by omega
      have WH := Lib.hid (show ∀ i, i ∈ S ↔ Rea l wk L i by have h := hB.out; rw [← hQ.out] at h; exact h.whole)
      rename World => w5
      have kn : ¬ k < k := by omega
      have FS := Lib.hid (show ((ids l).filter fun i => decide (i ∈ S)).Pairwise (· < ·) ∧ ∀ i, i ∈ (ids l).filter (fun i => decide (i ∈ S)) ↔ Rea l wk L i from ⟨FI.out.sorted.filter _, fun i => by
        rw [List.mem_filter, decide_eq_true_eq, ← WH.out i]
        exact ⟨fun h => h.2, fun h => ⟨SUB.out i h, h⟩⟩⟩)
      have M5 := hM
      have B5 := hb
      clear hM hb hB hO hQ WH hlt hk s8 q30
      go_wp2_with fail
      go_loopw [11, 12] (fun rv i wr => ∃ j : Nat, j ≤ ln ∧ i = .int .i64 j ∧ Hid (IdsAt wr w5.heap.size rv (((ids l).take j).filter fun i => decide (i ∈ S))) ∧ Hid (Below w5.heap.size w5 wr)) (fun _ i _ => ln - (intOf i).toNat)
      case atStart => exact ⟨0, by omega, rfl, Lib.hid (World.ownsRow_nil _ _ _ _), Lib.hid (Below.refl _ _)⟩
      case round =>
        obtain ⟨j, hj, rfl, hrow, hbr⟩ := hrel
        have szj := hbr.out.size
        by_cases hlt : j < ln
        · have jl : j < l.length := by rw [HLN.out]; exact hlt
          have hx := List.getElem?_eq_getElem jl
          have Bj := B5.out.trans (hbr.out.mono szr)
          have hi : (ids l)[j]? = some l[j].1 := by unfold ids; rw [List.getElem?_map, hx]; rfl
          have TK := Lib.hid (show (ids l).take (j + 1) = (ids l).take j ++ [l[j].1] by
            obtain ⟨h1, h2⟩ := List.getElem?_eq_some_iff.1 hi
            rw [List.take_succ_eq_append_getElem h1, h2])
          have mka := (M5.out.low hbr.out).cell j _ (mk_at hi)
          have TP := TB.out _ Bj
          have hel : j < es.length := by rw [HE.out.len, HLN.out]; exact hlt
          have he := List.getElem?_eq_getElem hel
          have hent := (EB.out _ Bj).ent j _ _ he hx
          obtain ⟨ge, rfl, hPg, hcells⟩ := (EB.out _ Bj).row j _ he
          have x0 := hcells 0 _ rfl
          rw [hent.id] at x0
          have x0' : wr.cell? ⟨ge, j * 7, none⟩ = some (.int .i64 l[j].1) := x0
          have ji : (j : Int) < ln := by omega
          have GL : (((ids l).take j).filter fun i => decide (i ∈ S)).length ≤ 8 := Nat.le_trans (List.length_filter_le _ _) (by rw [List.length_take]; omega)
          generalize l[j].1 = id at *
          clear hx hi he hent hcells x0 hel jl Bj
          by_cases hs : id ∈ S
          · rw [decide_eq_true hs] at mka
            have EQ := Lib.hid (show ((ids l).take (j + 1)).filter (fun i => decide (i ∈ S)) = (((ids l).take j).filter fun i => decide (i ∈ S)) ++ [id] by rw [TK.out, List.filter_append]; simp [hs])
            clear hs
            generalize (((ids l).take j).filter fun i => decide (i ∈ S)) = G at *
            go_wp2_with (at_builtin; refine wpList_append_lies _ rfl _ _ 22 rfl w5.heap.size 3 i0 _ 1 8 Tryz.underlying22 hi0 hz0 hz1 hz2 rfl (by decide) _ _ _ rfl (World.ownsRow.alloc hrow.out _) ⟨wr.heap.size, 0, none⟩ 1 1 [.int .i64 id] rfl rfl (cell_one_new _ _ _) ?qa1 (by decide) ?qa2 ?qa3 ?qa4 _ rfl ?_)
            case qa1 => simp [Value.oneCell']
            case qa2 => unfold maxLen; omega
            case qa3 => omega
            case qa4 => simp; omega
            intro g1 cap1 w6 hown hgrow hat hlt3
            have R3 := Lib.hid (show IdsAt w6 w5.heap.size (.slice (some ⟨g1, 0, none⟩) (G.length + 1) cap1) (G ++ [id]) by
              unfold IdsAt
              rw [List.length_append, List.map_append]
              exact hown)
            have F3 := Lib.hid ((hbr.out.alloc hbr.out.size _).grown hgrow (by simp; omega) (fun k hk => (row_cells hrow.out hk).1))
            clear hown hgrow hat hlt3
            go_wp2_with fail
            go_roundw
            case rel => exact ⟨j + 1, by omega, by go_num, by rw [EQ.out]; exact R3, F3⟩
            case measure => simp [intOf]; omega
          · rw [decide_eq_false hs] at mka
            have EQ := Lib.hid (show ((ids l).take (j + 1)).filter (fun i => decide (i ∈ S)) = ((ids l).take j).filter fun i => decide (i ∈ S) by rw [TK.out, List.filter_append]; simp [hs])
            clear hs
            go_wp2_with fail
            go_roundw
            case rel => exact ⟨j + 1, by omega, by go_num, by rw [EQ.out]; exact hrow, hbr⟩
            case measure => simp [intOf]; omega
        · obtain rfl : j = ln := by omega
          have RW := Lib.hid (show IdsAt wr w.heap.size u11 ((ids l).filter fun i => decide (i ∈ S)) by
            have := hrow.out
            rw [List.take_of_length_le (by rw [ids_len, HLN.out]; omega)] at this
            unfold IdsAt at *
            exact own_mono this szr)
          have BX := Lib.hid (B5.out.trans (hbr.out.mono szr))
          clear hrow hbr M5 B5
          go_wp2_with fail
          go_ret
          exact ⟨_, _, rfl, Lib.hid ⟨FS.out.1, FS.out.2, RW.out, BX.out⟩⟩
theorem refReach_any (P : Nat → Prop) (q : Nat) (v : Value) (es : List Ac.En) (l : List Ent) (next : Int) (L : List Val) (A : Option Addr) (n c : Nat) (w : World) (h : RefL w q v es l next) (hf : Fine l next) (hn : L.length = n) (h6 : n ≤ 6) (hA : A = none → n = 0 ∧ c = 0) (hL : ∀ v ∈ L, I64 v.n) (hV : ValsAt w P A L) (hP : ∀ b, P b → b < w.heap.size) :
    Calls Tryz.prog 23 #[.pointer (some ⟨q, 0, none⟩), .slice A n c] w fun e w' => ∃ (v : Value) (r : List Int), e = .returned v ∧ Hid (r.Pairwise (· < ·) ∧ (∀ i, i ∈ r ↔ Rea l false L i) ∧ IdsAt w' w.heap.size v r ∧ Below w.heap.size w w') := by
  have FO := Lib.hid (follow_any P q v es l next false L A n c w h hf hn h6 hA hL hV hP)
  clear h hf hn hA hL hV hP
  go_enter Tryz.func23, Tryz.ntmps23
  go_wp2_with fail
  refine FO.out.mono ?_
  rintro e w2 ⟨v, r, rfl, hh⟩
  go_wp2_with fail
  go_ret
  exact ⟨v, r, rfl, hh⟩
theorem refVisible_any (P : Nat → Prop) (q : Nat) (v : Value) (es : List Ac.En) (l : List Ent) (next : Int) (L : List Val) (A : Option Addr) (n c : Nat) (w : World) (h : RefL w q v es l next) (hf : Fine l next) (hn : L.length = n) (h6 : n ≤ 6) (hA : A = none → n = 0 ∧ c = 0) (hL : ∀ v ∈ L, I64 v.n) (hV : ValsAt w P A L) (hP : ∀ b, P b → b < w.heap.size) :
    Calls Tryz.prog 25 #[.pointer (some ⟨q, 0, none⟩), .slice A n c] w fun e w' => ∃ (v : Value) (r : List Int), e = .returned v ∧ Hid (r.Pairwise (· < ·) ∧ (∀ i, i ∈ r ↔ Rea l true L i) ∧ IdsAt w' w.heap.size v r ∧ Below w.heap.size w w') := by
  have FO := Lib.hid (follow_any P q v es l next true L A n c w h hf hn h6 hA hL hV hP)
  clear h hf hn hA hL hV hP
  go_enter Tryz.func25, Tryz.ntmps25
  go_wp2_with fail
  refine FO.out.mono ?_
  rintro e w2 ⟨v, r, rfl, hh⟩
  go_wp2_with fail
  go_ret
  exact ⟨v, r, rfl, hh⟩
end Go.Proofs.YtkdpcnikgdbmaaaGreatDoor.Hp
