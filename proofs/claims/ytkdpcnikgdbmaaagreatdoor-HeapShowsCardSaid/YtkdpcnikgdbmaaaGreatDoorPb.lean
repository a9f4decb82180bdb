/-
  What keeping makes of a heap, and what is said of what was reached, as mathematics.
  The calls that the laws of what is reached make: Next, Visible, Keep, Cell at whatever id, Act.Values.
-/
import Derived.Test.YtkdpcnikgdbmaaaGreatDoorQd
import Derived.Test.YtkdpcnikgdbmaaaGreatDoorPa
namespace Go.Proofs.YtkdpcnikgdbmaaaGreatDoor.Hp
open Go Go.RowKit Go.Maps Va

/-- The ids that a heap is kept of: closed but for weak cells. -/
structure Kp (l : List Ent) (r : List Int) : Prop where
  srt : r.Pairwise (· < ·)
  sub : ∀ i ∈ r, i ∈ ids l
  shut : ∀ e ∈ l, e.1 ∈ r → e.2.kind ≠ 4 → ∀ v ∈ e.2.items, v.k = 5 → v.n ∈ r
theorem ids_look {l : List Ent} {i : Int} (h : i ∈ ids l) : ∃ c, look l i = some c := by
  cases hl : look l i with
  | none => exact absurd h (look_none hl)
  | some c => exact ⟨c, rfl⟩
theorem Kp.of {l : List Ent} {L : List Val} {r : List Int} (hs : (ids l).Pairwise (· < ·)) (hc : shutB l = true) (hr : r.Pairwise (· < ·)) (h : ∀ i, i ∈ r ↔ Rea l false L i) : Kp l r := by
  refine ⟨hr, fun i hi => ?_, fun e he hi hk v hv h5 => ?_⟩
  · obtain ⟨c, hc⟩ := ((h i).1 hi).known
    exact List.mem_map.2 ⟨_, look_some hc, rfl⟩
  · obtain ⟨c', hc'⟩ := ids_look (shut_mem hc he hv h5)
    refine (h _).2 (.step (i := e.1) (c := e.2) ((h _).1 hi) (look_mem hs he) ?_ (c' := c') ?_)
    · unfold kids; rw [if_pos (by simp [hk])]; exact hv
    · unfold denC; rw [if_pos h5]; exact hc'
def kept (r : List Int) (l : List Ent) : List Ent := cleanL (goneL r l) (dropL (goneL r l) l)
theorem mem_goneL {r : List Int} {l : List Ent} {i : Int} : i ∈ goneL r l ↔ i ∈ ids l ∧ i ∉ r := by
  unfold goneL; rw [List.mem_filter]; simp
theorem dropL_goneL (r : List Int) (l : List Ent) : dropL (goneL r l) l = l.filter fun e => decide (e.1 ∈ r) := by
  unfold dropL
  refine List.filter_congr fun e he => ?_
  have hi : e.1 ∈ ids l := List.mem_map.2 ⟨e, he, rfl⟩
  by_cases hr : e.1 ∈ r
  · simp [hr, mem_goneL]
  · simp [hr, mem_goneL, hi]
theorem kept_ids {l : List Ent} {r : List Int} (hs : (ids l).Pairwise (· < ·)) (h : Kp l r) : ids (kept r l) = r := by
  unfold kept
  rw [ids_cleanL, dropL_goneL]
  have e : ids (l.filter fun e => decide (e.1 ∈ r)) = (ids l).filter fun i => decide (i ∈ r) := by
    unfold ids; rw [List.filter_map]; rfl
  rw [e]
  refine sorted_ext (hs.filter _) h.srt fun i => ?_
  rw [List.mem_filter, decide_eq_true_eq]
  exact ⟨fun h => h.2, fun hi => ⟨h.sub i hi, hi⟩⟩
theorem part_len {α : Type} (p : α → Bool) (l : List α) : (l.filter fun x => !p x).length + (l.filter p).length = l.length := by
  induction l with
  | nil => rfl
  | cons x l ih => cases h : p x <;> simp [h] <;> omega
theorem gone_len {l : List Ent} {r : List Int} (hs : (ids l).Pairwise (· < ·)) (h : Kp l r) : (goneL r l).length + r.length = l.length := by
  have e : (ids l).filter (fun i => decide (i ∈ r)) = r := by
    refine sorted_ext (hs.filter _) h.srt fun i => ?_
    rw [List.mem_filter, decide_eq_true_eq]
    exact ⟨fun h => h.2, fun hi => ⟨h.sub i hi, hi⟩⟩
  have := part_len (fun i => decide (i ∈ r)) (ids l)
  rw [e, ids_len] at this
  exact this
/-- What keeping makes of a cell. -/
structure Stp (r : List Int) (c d : Cel) : Prop where
  len : d.items.length = c.items.length
  nms : d.names = c.names
  ref : ∀ u ∈ d.items, u.k = 5 → u.n ∈ r
  way : (d.kind = 4 ∧ ∃ u v, d.items = [u] ∧ u.k = 1 ∧ c.items = [v] ∧ (v.k = 5 → v.n ∉ r)) ∨ (d = c ∧ (d.kind ≠ 4 ∨ ∃ u, d.items = [u] ∧ u.k = 5))
theorem stp_of {l : List Ent} {r : List Int} (hc : shutB l = true) (h : Kp l r) {e : Ent} (he : e ∈ l) (hi : e.1 ∈ r) (hok : e.2.right = true) : Stp r e.2 (cleanC (goneL r l) e.2) := by
  by_cases h4 : e.2.kind = 4
  · obtain ⟨v, hv⟩ := (right_len hok).2.1 h4
    rw [cleanC_one h4 hv]
    by_cases h5 : v.k = 5
    · have hm : v.n ∈ ids l := shut_mem hc he (by rw [hv]; simp) h5
      by_cases hr : v.n ∈ r
      · rw [if_neg (by rw [mem_goneL]; simp [hr])]
        exact ⟨rfl, rfl, fun u hu h5' => by rw [hv] at hu; simp at hu; subst hu; exact hr, .inr ⟨rfl, .inr ⟨v, hv, h5⟩⟩⟩
      · rw [if_pos ⟨h5, mem_goneL.2 ⟨hm, hr⟩⟩]
        refine ⟨by unfold Cel.put; simp, rfl, fun u hu h5' => ?_, .inl ⟨h4, nilVal, v, by unfold Cel.put; simp [hv], rfl, hv, fun _ => hr⟩⟩
        unfold Cel.put at hu
        simp [hv] at hu
        subst hu
        exact absurd h5' (by decide)
    · rw [if_neg (fun h => h5 h.1)]
      have h1 : v.k = 1 := by
        have ht : targB e.2.items = true := by
          have hr := hok
          unfold Cel.right at hr
          rw [if_neg (by omega), if_neg (by omega), if_neg (by omega), if_pos h4] at hr
          simp only [Bool.and_eq_true] at hr
          exact hr.2.1.2
        rw [hv] at ht
        unfold targB at ht
        simp only [Bool.and_eq_true, Bool.or_eq_true, decide_eq_true_eq] at ht
        rcases ht.1 with h | h
        · exact h
        · exact absurd h h5
      exact ⟨rfl, rfl, fun u hu h5' => by rw [hv] at hu; simp at hu; subst hu; exact absurd h5' h5, .inl ⟨h4, v, v, hv, h1, hv, fun h => absurd h h5⟩⟩
  · rw [cleanC_kind h4]
    exact ⟨rfl, rfl, fun u hu h5 => h.shut e he hi h4 u hu h5, .inr ⟨rfl, .inl h4⟩⟩
theorem mem_kept {l : List Ent} {r : List Int} {y : Ent} (hy : y ∈ kept r l) : ∃ e ∈ l, e.1 ∈ r ∧ y = (e.1, cleanC (goneL r l) e.2) := by
  unfold kept at hy
  rw [dropL_goneL] at hy
  unfold cleanL at hy
  obtain ⟨e, he, rfl⟩ := List.mem_map.1 hy
  rw [List.mem_filter, decide_eq_true_eq] at he
  exact ⟨e, he.1, he.2, rfl⟩
theorem clean_ok {gone : List Int} {c : Cel} (h : Cok c) : Cok (cleanC gone c) := by
  obtain ⟨h1, h2, h3, h4, h5⟩ := h
  by_cases hk : c.kind = 4
  · obtain ⟨v, hv⟩ := (right_len h1).2.1 hk
    rw [cleanC_one hk hv]
    split
    · refine ⟨?_, fun u hu => ?_, h3, h4, by unfold Cel.put; simp; omega⟩
      · unfold Cel.right at h1 ⊢
        unfold Cel.put
        simp only at h1 ⊢
        rw [if_neg (by omega), if_neg (by omega), if_neg (by omega), if_pos hk] at h1 ⊢
        simp only [Bool.and_eq_true] at h1 ⊢
        refine ⟨h1.1, ⟨⟨h1.2.1.1, ?_⟩, h1.2.2⟩⟩
        rw [hv]
        rfl
      · unfold Cel.put at hu
        simp [hv] at hu
        subst hu
        unfold nilVal Val.Fits I64 maxLen
        exact ⟨by simp only; omega, by simp only; omega, by simp only [ByteArray.size]; decide⟩
    · exact ⟨h1, h2, h3, h4, h5⟩
  · rw [cleanC_kind hk]
    exact ⟨h1, h2, h3, h4, h5⟩
theorem kept_fine {l : List Ent} {next : Int} {r : List Int} (hf : Fine l next) (h : Kp l r) : Fine (kept r l) next := by
  have hi := kept_ids hf.sorted h
  have stp := fun (e : Ent) (he : e ∈ l) (hr : e.1 ∈ r) => stp_of hf.shut h he hr (hf.ok e he).1
  refine ⟨?_, by rw [hi]; exact h.srt, fun y hy => ?_, hf.nx, fun y hy => ?_, fun y hy => ?_, ?_⟩
  · have h1 := gone_len hf.sorted h
    have h2 := hf.len
    have h3 := ids_len (kept r l)
    rw [hi] at h3
    omega
  · obtain ⟨e, he, hr, rfl⟩ := mem_kept hy
    exact hf.rng e he
  · obtain ⟨e, he, hr, rfl⟩ := mem_kept hy
    exact clean_ok (hf.ok e he)
  · obtain ⟨e, he, hr, rfl⟩ := mem_kept hy
    have s := stp e he hr
    have := hf.few e he
    exact ⟨by rw [s.nms]; exact this.1, by rw [s.len]; exact this.2⟩
  · unfold shutB okItems
    refine List.all_eq_true.2 fun y hy => List.all_eq_true.2 fun u hu => ?_
    obtain ⟨e, he, hr, rfl⟩ := mem_kept hy
    rw [hi]
    by_cases h5 : u.k = 5
    · simp [h5, (stp e he hr).ref u hu h5]
    · simp [h5]
theorem kept_gone {l : List Ent} {r : List Int} (hs : (ids l).Pairwise (· < ·)) (h : Kp l r) : goneL r (kept r l) = [] := by
  unfold goneL
  rw [kept_ids hs h, List.filter_eq_nil_iff]
  intro i hi
  simp [hi]
theorem kept_again {l : List Ent} {r : List Int} (hs : (ids l).Pairwise (· < ·)) (h : Kp l r) : kept r (kept r l) = kept r l := by
  rw [show kept r (kept r l) = cleanL (goneL r (kept r l)) (dropL (goneL r (kept r l)) (kept r l)) from rfl, kept_gone hs h, dropL_nil, cleanL_nil]
/-- How many of the first k are kept. -/
def cnt (r : List Int) (l : List Ent) (k : Nat) : Nat := ((l.take k).filter fun e => decide (e.1 ∈ r)).length
theorem cnt_zero (r : List Int) (l : List Ent) : cnt r l 0 = 0 := rfl
theorem cnt_all (r : List Int) (l : List Ent) : cnt r l l.length = (kept r l).length := by
  unfold cnt kept cleanL
  rw [List.take_length, List.length_map, dropL_goneL]
theorem cnt_le (r : List Int) (l : List Ent) (k : Nat) : cnt r l k ≤ (kept r l).length := by
  unfold cnt kept cleanL
  rw [List.length_map, dropL_goneL]
  exact ((List.take_sublist k l).filter _).length_le
theorem kept_split (r : List Int) (l : List Ent) (k : Nat) : kept r l = (((l.take k).filter fun e => decide (e.1 ∈ r)).map fun e => (e.1, cleanC (goneL r l) e.2)) ++ (((l.drop k).filter fun e => decide (e.1 ∈ r)).map fun e => (e.1, cleanC (goneL r l) e.2)) := by
  rw [← List.map_append, ← List.filter_append, List.take_append_drop]
  unfold kept cleanL
  rw [dropL_goneL]
theorem cnt_in {r : List Int} {l : List Ent} {k : Nat} {e : Ent} (he : l[k]? = some e) (hr : e.1 ∈ r) : (kept r l)[cnt r l k]? = some (e.1, cleanC (goneL r l) e.2) ∧ cnt r l (k + 1) = cnt r l k + 1 := by
  obtain ⟨hk, hx⟩ := List.getElem?_eq_some_iff.1 he
  constructor
  · rw [kept_split r l k, List.getElem?_append_right (by simp [cnt])]
    rw [List.length_map, show ((l.take k).filter fun e => decide (e.1 ∈ r)).length = cnt r l k from rfl, Nat.sub_self, List.drop_eq_getElem_cons hk, hx, List.filter_cons_of_pos (by simp [hr])]
    rfl
  · unfold cnt
    rw [List.take_succ_eq_append_getElem hk, hx, List.filter_append, List.filter_cons_of_pos (by simp [hr])]
    simp
theorem cnt_out {r : List Int} {l : List Ent} {k : Nat} {e : Ent} (he : l[k]? = some e) (hr : e.1 ∉ r) : cnt r l (k + 1) = cnt r l k ∧ ∀ y, (kept r l)[cnt r l k]? = some y → y.1 ≠ e.1 := by
  obtain ⟨hk, hx⟩ := List.getElem?_eq_some_iff.1 he
  constructor
  · unfold cnt
    rw [List.take_succ_eq_append_getElem hk, hx, List.filter_append, List.filter_cons_of_neg (by simp [hr])]
    simp
  · intro y hy
    have hm := List.mem_of_getElem? hy
    obtain ⟨d, _, hd, rfl⟩ := mem_kept hm
    intro h
    simp only at h
    rw [h] at hd
    exact hr hd
theorem cnt_lt {r : List Int} {l : List Ent} {k : Nat} {e : Ent} (he : l[k]? = some e) (hr : e.1 ∈ r) : cnt r l k < (kept r l).length := (List.getElem?_eq_some_iff.1 (cnt_in he hr).1).1
theorem den_of {l : List Ent} {v : Val} (h5 : v.k = 5) (h : v.n ∈ ids l) : ∃ c, denC l v = some c := by
  obtain ⟨c, hc⟩ := ids_look h
  exact ⟨c, by unfold denC; rw [if_pos h5]; exact hc⟩
theorem den_inv {l : List Ent} {v : Val} {c : Cel} (h : denC l v = some c) : v.k = 5 ∧ look l v.n = some c ∧ v.n ∈ ids l := by
  unfold denC at h
  split at h
  · rename_i h5
    exact ⟨h5, h, List.mem_map.2 ⟨_, look_some h, rfl⟩⟩
  · cases h
/-- What is said of the ids that were reached. -/
structure Rch (l : List Ent) (L : List Val) (r : List Int) : Prop where
  sub : ∀ i ∈ r, i ∈ ids l
  root : ∀ v ∈ L, v.k = 5 → v.n ∈ ids l → v.n ∈ r
  shut : ∀ e ∈ l, e.1 ∈ r → e.2.kind ≠ 4 → ∀ v ∈ e.2.items, v.k = 5 → v.n ∈ r
  why : ∀ i ∈ r, (∃ v ∈ L, v.k = 5 ∧ v.n ∈ ids l ∧ v.n = i) ∨ ∃ e ∈ l, e.1 ∈ r ∧ e.2.kind ≠ 4 ∧ e.1 ≠ i ∧ ∃ v ∈ e.2.items, v.k = 5 ∧ v.n = i
theorem rea_why {l : List Ent} {L : List Val} {i : Int} (h : Rea l false L i) : (∃ v ∈ L, v.k = 5 ∧ v.n ∈ ids l ∧ v.n = i) ∨ ∃ e ∈ l, Rea l false L e.1 ∧ e.2.kind ≠ 4 ∧ e.1 ≠ i ∧ ∃ v ∈ e.2.items, v.k = 5 ∧ v.n = i := by
  induction h with
  | root hv hd =>
    obtain ⟨h5, _, hi⟩ := den_inv hd
    exact .inl ⟨_, hv, h5, hi, rfl⟩
  | @step i c v c' hr hl hv hd ih =>
    obtain ⟨h5, _, hi⟩ := den_inv hd
    by_cases e : i = v.n
    · rw [← e]; exact ih
    · refine .inr ⟨(i, c), look_some hl, hr, ?_, e, v, ?_, h5, rfl⟩
      · intro h4
        unfold kids at hv
        simp only at h4
        rw [if_neg (by simp [h4])] at hv
        cases hv
      · unfold kids at hv
        split at hv
        · exact hv
        · cases hv
theorem rea_weak {l : List Ent} {L : List Val} {i : Int} (h : Rea l false L i) : Rea l true L i := by
  induction h with
  | root hv hd => exact .root hv hd
  | step _ hl hv hd ih =>
    refine .step ih hl ?_ hd
    unfold kids at hv ⊢
    rw [if_pos (by simp)]
    split at hv
    · exact hv
    · cases hv
theorem rea_ids {l : List Ent} {wk : Bool} {L : List Val} {i : Int} (h : Rea l wk L i) : i ∈ ids l := by
  obtain ⟨c, hc⟩ := h.known
  exact List.mem_map.2 ⟨_, look_some hc, rfl⟩
theorem Rch.of {l : List Ent} {L : List Val} {r : List Int} (hs : (ids l).Pairwise (· < ·)) (hc : shutB l = true) (h : ∀ i, i ∈ r ↔ Rea l false L i) : Rch l L r := by
  refine ⟨fun i hi => rea_ids ((h i).1 hi), fun v hv h5 hi => ?_, fun e he hi hk v hv h5 => ?_, fun i hi => ?_⟩
  · obtain ⟨c, hc⟩ := den_of h5 hi
    exact (h _).2 (.root hv hc)
  · obtain ⟨c', hc'⟩ := den_of h5 (shut_mem hc he hv h5)
    refine (h _).2 (.step (i := e.1) (c := e.2) ((h _).1 hi) (look_mem hs he) ?_ hc')
    unfold kids; rw [if_pos (by simp [hk])]; exact hv
  · rcases rea_why ((h i).1 hi) with hw | ⟨e, he, hr, hk, hne, hx⟩
    · exact .inl hw
    · exact .inr ⟨e, he, (h _).2 hr, hk, hne, hx⟩
/-- What is said of the ids that are visible. -/
structure Rcv (l : List Ent) (s : List Int) : Prop where
  sub : ∀ i ∈ s, i ∈ ids l
  shut : ∀ e ∈ l, e.1 ∈ s → ∀ v ∈ e.2.items, v.k = 5 → v.n ∈ s
theorem Rcv.of {l : List Ent} {L : List Val} {s : List Int} (hs : (ids l).Pairwise (· < ·)) (hc : shutB l = true) (hv : ∀ i, i ∈ s ↔ Rea l true L i) : Rcv l s := by
  refine ⟨fun i hi => rea_ids ((hv i).1 hi), fun e he hi v hv' h5 => ?_⟩
  obtain ⟨c', hc'⟩ := den_of h5 (shut_mem hc he hv' h5)
  refine (hv _).2 (.step (i := e.1) (c := e.2) ((hv _).1 hi) (look_mem hs he) ?_ hc')
  unfold kids; rw [if_pos (by simp)]; exact hv'
/-- The ids with a reason, among the first k roots. -/
def rsnL (l : List Ent) (L : List Val) (i : Int) : Bool := L.any fun v => decide (v.k = 5) && decide (v.n ∈ ids l) && decide (v.n = i)
/-- The ids with a reason, among these items of an entry. -/
def rsnV (r : List Int) (e : Ent) (vs : List Val) (i : Int) : Bool := vs.any fun v => decide (e.1 ∈ r) && decide (e.2.kind ≠ 4) && decide (v.k = 5) && decide (v.n = i) && decide (e.1 ≠ i)
def rsnE (r : List Int) (es : List Ent) (i : Int) : Bool := es.any fun e => rsnV r e e.2.items i
theorem rsn_all {l : List Ent} {L : List Val} {r : List Int} (h : Rch l L r) {i : Int} (hi : i ∈ r) : (rsnL l L i || rsnE r l i) = true := by
  rw [Bool.or_eq_true]
  rcases h.why i hi with ⟨v, hv, h5, hn, e⟩ | ⟨e, he, hr, hk, hne, v, hv, h5, hvi⟩
  · exact .inl (List.any_eq_true.2 ⟨v, hv, by simp [h5, hn, ← e]⟩)
  · exact .inr (List.any_eq_true.2 ⟨e, he, List.any_eq_true.2 ⟨v, hv, by simp [hr, hk, h5, hvi, hne]⟩⟩)
theorem any_take {α : Type} (p : α → Bool) (l : List α) (k : Nat) (x : α) (hx : l[k]? = some x) : (l.take (k + 1)).any p = ((l.take k).any p || p x) := by
  obtain ⟨hk, rfl⟩ := List.getElem?_eq_some_iff.1 hx
  rw [List.take_succ_eq_append_getElem hk, List.any_append]
  simp
end Go.Proofs.YtkdpcnikgdbmaaaGreatDoor.Hp
namespace Go.Proofs.YtkdpcnikgdbmaaaGreatDoor.Hp
open Go Go.RowKit Go.Maps Go.Sort Go.Shelf Va

theorem st_next (w0 w : World) (p : Nat) (l : List Ent) (next : Int) (h : St w0 w p l next) :
    Calls Tryz.prog 12 #[.pointer (some ⟨p, 0, none⟩)] w fun e w' => e = .returned (.int .i64 next) ∧ w = w' := by
  obtain ⟨F, mb, f, h⟩ := h
  have c1 := h.heap.top.cell 1 _ rfl
  clear h
  go_enter Tryz.func12, Tryz.ntmps12
  go_wp2_with fail
  go_ret
  exact ⟨rfl, rfl⟩
theorem visible1_any (v : Option Addr) (w : World) : Calls Tryz.prog 68 #[.pointer v] w fun e w' => e = .returned (.bool true) ∧ w = w' := by
  go_enter Tryz.func68, Tryz.ntmps68
  go_wp2_with fail
  go_ret
  exact ⟨rfl, rfl⟩
set_option maxHeartbeats 1000000 in
theorem visible_any (F P : Nat → Prop) (p : Nat) (mb : Option Nat) (f : Int → Hd) (l : List Ent) (next : Int) (L : List Val) (A : Option Addr) (n c : Nat) (w : World) (hfit : ∀ e ∈ l, ∀ v ∈ e.2.items, I64 v.n) (hlen : ∀ e ∈ l, e.2.items.length ≤ 4398046511104) (hcnt : l.length ≤ 100000) (hid : ∀ i ∈ ids l, I64 i)
    (hn : L.length = n) (hn' : n ≤ 4398046511104) (hL : ∀ v ∈ L, I64 v.n) (H : HeapA w F p mb f l next) (hF : ∀ g, F g → g < w.heap.size) (hV : ValsAt w P A L) (hP : ∀ b, P b → b < w.heap.size) :
    Calls Tryz.prog 24 #[.pointer (some ⟨p, 0, none⟩), .slice A n c] w fun e w' => ∃ (v : Value) (r : List Int), e = .returned v ∧ Hid (r.Pairwise (· < ·) ∧ (∀ i, i ∈ r ↔ Rea l true L i) ∧ IdsAt w' w.heap.size v r ∧ Below w.heap.size w w') := by
  have VI := Lib.hid (visited_any F P p 68 mb f l next true L A n c w hfit hlen hcnt hid (enters_of Tryz.func68 (by kernel_rfl) rfl) (fun b k w _ => by simpa using visible1_any _ w) hn hn' hL H hF hV hP)
  clear hfit hlen hid H hF hV hP hL hcnt
  go_enter Tryz.func24, Tryz.ntmps24
  go_wp2_with fail
  refine VI.out.mono ?_
  rintro e w2 ⟨v, r, rfl, hh⟩
  go_wp2_with fail
  go_ret
  exact ⟨v, r, rfl, hh⟩
theorem st_visible (w0 w : World) (P : Nat → Prop) (p : Nat) (l : List Ent) (next : Int) (L : List Val) (A : Option Addr) (n c : Nat) (h : St w0 w p l next) (ok : Okay l) (hn : L.length = n) (hn' : n ≤ 4398046511104) (hL : ∀ v ∈ L, I64 v.n) (hV : ValsAt w P A L) (hP : ∀ b, P b → b < w.heap.size) :
    Calls Tryz.prog 24 #[.pointer (some ⟨p, 0, none⟩), .slice A n c] w fun e w' => ∃ (v : Value) (r : List Int), e = .returned v ∧ Hid (r.Pairwise (· < ·) ∧ (∀ i, i ∈ r ↔ Rea l true L i) ∧ IdsAt w' w.heap.size v r ∧ Below w.heap.size w w') := by
  obtain ⟨F, mb, f, h⟩ := h
  exact visible_any F P p mb f l next L A n c w ok.fit ok.lens (by have := ok.len; omega) ok.ids hn hn' hL h.heap h.fl hV hP
/-- A heap that has its map, whose blocks lie below t. -/
def St2 (w0 : World) (t : Nat) (w : World) (p : Nat) (l : List Ent) (next : Int) : Prop := ∃ F b f, St0 w0 w F p (some b) f l next ∧ ∀ g, F g → g < t
theorem St1.two {w0 w : World} {p : Nat} {l : List Ent} {next : Int} (h : St1 w0 w p l next) : St2 w0 w.heap.size w p l next := by
  obtain ⟨F, b, f, h⟩ := h
  exact ⟨F, b, f, h, fun g hg => (h.own g hg).2⟩
theorem St2.st {w0 w : World} {t p : Nat} {l : List Ent} {next : Int} (h : St2 w0 t w p l next) : St w0 w p l next := by
  obtain ⟨F, b, f, h, _⟩ := h
  exact ⟨F, some b, f, h⟩
theorem St2.down {w0 w w' : World} {t p : Nat} {l : List Ent} {next : Int} (h : St2 w0 t w p l next) (hb : Below w.heap.size w w') : St2 w0 t w' p l next := by
  obtain ⟨F, mb, f, h, ht⟩ := h
  exact ⟨F, mb, f, ⟨h.heap.low h.fl hb, fun g hg => ⟨(h.own g hg).1, Nat.lt_of_lt_of_le (h.own g hg).2 hb.size⟩, h.low.trans (hb.mono h.low.size), h.bnd⟩, ht⟩
/-- What lay at t and beyond has not turned. -/
def Off (t : Nat) (w w' : World) : Prop := w.heap.size ≤ w'.heap.size ∧ ∀ g, t ≤ g → g < w.heap.size → w'.heap[g]? = w.heap[g]?
theorem st2_keep (w0 w : World) (P : Nat → Prop) (t p : Nat) (l : List Ent) (next : Int) (kp : List Int) (A : Option Addr) (n c : Nat) (h : St2 w0 t w p l next) (ok : Okay l) (hn : kp.length = n) (hn' : n ≤ 4398046511104) (hg : ∀ i ∈ kp, I64 i) (hA : IntsAt w P A kp) (hP : ∀ g, P g → t ≤ g ∧ g < w.heap.size) :
    Calls Tryz.prog 27 #[.pointer (some ⟨p, 0, none⟩), .slice A n c] w fun e w' => ∃ v, e = .returned v ∧ Hid (IdsAt w' w.heap.size v (goneL kp l) ∧ St2 w0 t w' p (kept kp l) next ∧ Off t w w') := by
  obtain ⟨F, b, f, h, ht⟩ := h
  refine (keep_any F P p b f l next kp A n c w h.heap h.fl hn hn' hg ok.ids (by have := ok.len; omega) hA (fun g hg => ⟨(hP g hg).2, fun hF => by have := ht g hF; have := (hP g hg).1; omega⟩) ok.weak).mono ?_
  rintro e w' ⟨v, rfl, hh⟩
  obtain ⟨h3, h4, h5⟩ := hh.out
  exact ⟨v, rfl, Lib.hid ⟨h3, ⟨F, b, f, ⟨h4, fun g hg => ⟨(h.own g hg).1, Nat.lt_of_lt_of_le (h.own g hg).2 h5.size⟩, Frm.below_of h.low h5 fun g hg => (h.own g hg).1, h.bnd⟩, ht⟩, h5.size, fun g hg hg' => h5.block g hg' fun hF => by have := ht g hF; omega⟩⟩
theorem ids_own {w : World} {base : Nat} {v : Value} {r : List Int} (h : IdsAt w base v r) : ∃ A c, v = .slice A r.length c ∧ IntsAt w (fun g => base ≤ g ∧ g < w.heap.size) A r := by
  obtain ⟨A, c, e, hI⟩ := h.ints
  unfold IdsAt at h
  exact ⟨A, c, e, hI.keep fun g hg => ⟨World.ownsRow.lt h g hg, rfl⟩⟩
/-- Cell, at whatever id; what it returns is not told. -/
theorem st_cell_any (w0 w : World) (p : Nat) (l : List Ent) (next id : Int) (h : St w0 w p l next) (hid : I64 id) (hl : ∀ e ∈ l, e.2.names.length ≤ 4398046511104 ∧ e.2.items.length ≤ 4398046511104) :
    Calls Tryz.prog 26 #[.pointer (some ⟨p, 0, none⟩), .int .i64 id] w fun e w' => ∃ (k c f t : Int) (D : Option Addr) (n d : Nat) (E : Option Addr) (m e' : Nat), e = .returned (.tuple #[.agg #[.int .i64 k, .int .i64 c, .int .i64 f, .int .i64 t, .slice D n d, .slice E m e'], .bool (decide (id ∈ ids l))]) ∧ Below w.heap.size w w' := by
  by_cases hm : id ∈ ids l
  · obtain ⟨⟨i, c⟩, he, rfl⟩ := List.mem_map.1 hm
    refine (st_cell w0 w p l next i c h hid he (hl _ he).1 (hl _ he).2).mono ?_
    rintro e w' ⟨D, d, E, e', rfl, hh⟩
    exact ⟨_, _, _, _, D, _, d, E, _, e', by rw [show decide ((i, c).fst ∈ ids l) = true from decide_eq_true hm]; rfl, hh.out.2⟩
  · obtain ⟨F, mb, f, h⟩ := h
    refine (get_none F p mb f l next id w h.heap h.fl hid hm).mono ?_
    rintro e w' ⟨rfl, hb⟩
    exact ⟨_, _, _, _, none, 0, 0, none, 0, 0, by rw [show decide (id ∈ ids l) = false from decide_eq_false hm]; rfl, hb⟩
theorem wv_fits {v : Val} (h : Ac.Wv v) : v.Fits := by
  rcases h with h | rfl
  · have hp : ∀ x, Ac.Lo 12 x → 0 ≤ x ∧ x ≤ 1000000000 := fun x hx => by unfold Ac.Lo at hx; omega
    exact (gv_right (v := v) h hp).2
  · unfold Val.Fits I64 maxLen
    exact ⟨by simp only; omega, by simp only; omega, by simp only [ByteArray.size]; decide⟩
/-- Act.Values: roots, in a row of the call's own. -/
theorem roots_any (wh : Int) (A : Option Addr) (zs : List Int) (c n : Nat) (w : World) (hA : Ac.Sl w w.heap.size A zs) (hz : ∀ z ∈ zs, I64 z) (hl : zs.length ≤ 17592186044404) (hn : n ≤ 64) :
    Calls Tryz.prog 20 #[.agg #[.int .i64 wh, .slice A zs.length c], .int .i64 n] w fun e w' => ∃ (vs : List Val) (VA : Option Addr) (vc : Nat), e = .returned (.slice VA n vc) ∧ Hid (vs.length = n) ∧ Hid ((∀ v ∈ vs, Ac.Wv v) ∧ (∀ v ∈ vs, I64 v.n) ∧ ValsAt w' (fun g => w.heap.size ≤ g ∧ g < w'.heap.size) VA vs ∧ Below w.heap.size w w' ∧ w'.ownsRow w.heap.size 64 3 (.slice VA n vc) n (flatV vs)) := by
  refine (Ac.values_any wh A zs c n w hA hz hl hn).mono ?_
  rintro e w' ⟨vs, VA, vc, rfl, hlen, hv, hb, ho⟩
  subst hlen
  obtain ⟨A', c', he, hat⟩ := own_vals ho.out
  simp only [Value.slice.injEq] at he
  obtain ⟨rfl, _, rfl⟩ := he
  exact ⟨vs, VA, vc, rfl, Lib.hid rfl, Lib.hid ⟨hv.out, fun v hm => (wv_fits (hv.out v hm)).2.1, hat.keep fun g hg => ⟨World.ownsRow.lt ho.out g hg, rfl⟩, hb.out, ho.out⟩⟩
end Go.Proofs.YtkdpcnikgdbmaaaGreatDoor.Hp
