/-
  slices.SortedFunc of the keys of the transitions.
  slices.SortFunc and slices.SortedFunc of the keys of the transitions.
-/
import Derived.Test.YtjodmjadpooipaaGreatDoorKs
import Derived.Test.YtjodmjadpooipaaGreatDoorKp
import Derived.Shelf.SlSortCmp.NoneTotal
import Derived.Test.YtjodmjadpooipaaGreatDoorGen
namespace Go.Proofs.YtjodmjadpooipaaGreatDoor.Sh
open Go Go.RowKit

instance : Inhabited Ky := ⟨(0, ⟨#[]⟩)⟩
def encK (q : Ky) : List Value := [.int .i64 q.1, .string q.2]
theorem flatK_len (xs : List Ky) : (flatK xs).length = xs.length * 2 := by
  induction xs with
  | nil => rfl
  | cons x xs ih => unfold flatK at *; rw [List.flatMap_cons, List.length_append, ih]; simp; omega
theorem flatK_at : ∀ (xs : List Ky) (t : Nat), t < xs.length * 2 → (flatK xs)[t]? = some ((encK xs[t / 2]!)[t % 2]!)
  | [], t, h => by simp at h
  | x :: xs, t, h => by
    have e : flatK (x :: xs) = [.int .i64 x.1, .string x.2] ++ flatK xs := by unfold flatK; rw [List.flatMap_cons]
    rw [e]
    rcases t with _ | _ | t
    · rfl
    · rfl
    · have h' : t < xs.length * 2 := by simp at h; omega
      have e1 : (t + 1 + 1) / 2 = t / 2 + 1 := by omega
      have e2 : (t + 1 + 1) % 2 = t % 2 := by omega
      rw [e1, e2]
      have := flatK_at xs t h'
      simpa using this
theorem flat_eq (xs : List Ky) : (Sort.flatK encK 2 xs.toArray).toList = flatK xs := by
  apply List.ext_getElem?
  intro t
  by_cases h : t < xs.length * 2
  · rw [flatK_at xs t h, Array.getElem?_toList, Array.getElem?_eq_getElem (by simpa using h)]
    have := Sort.get_flatK encK 2 xs.toArray t (by simpa using h)
    rw [getElem!_pos _ t (by simpa using h)] at this
    rw [this]
    simp
  · rw [List.getElem?_eq_none (by simp; omega), List.getElem?_eq_none (by rw [flatK_len]; omega)]
theorem heap_sortedV {w : World} {g n : Nat} {os : Array Obj} {cur : Array Value} {e : TypeId} {fr : Nat × Nat} (d : Array Value) (hb : w.heap[g]? = some (.cells cur e fr)) :
    (Sort.grow (Sort.putRow id (Sort.ahead w n) g 0 d) os).heap[g]? = some (.cells (Sort.putCells id 0 d cur) e fr) := by
  have hg : g < w.heap.size := (Array.getElem?_eq_some_iff.1 hb).1
  rw [Sort.heap_grow_old _ _ (by simpa using hg)]
  simp [Sort.putRow, Sort.mapBlock, Sort.ahead, Array.getElem?_modify, hb, Sort.onCells]
theorem grownBy_sortedV {w : World} {g n : Nat} {os : Array Obj} (d : Array Value) : w.grownBy (Sort.grow (Sort.putRow id (Sort.ahead w n) g 0 d) os) (some g) := by
  refine ⟨rfl, rfl, rfl, by simp, fun k hk hne => ?_⟩
  rw [Sort.heap_grow_old _ _ (by simpa using hk)]
  have : g ≠ k := fun e => hne (by rw [e])
  simp [Sort.putRow, Sort.mapBlock, Sort.ahead, Array.getElem?_modify, this]
theorem take_putV (cur ts : Array Value) (h : ts.size ≤ cur.size) : (Sort.putCells id 0 ts cur).toList.take ts.size = ts.toList := by
  apply List.ext_getElem?
  intro j
  by_cases hj : j < ts.size
  · rw [List.getElem?_take_of_lt hj, Array.getElem?_toList]
    simp [Sort.putCells, hj, show j < cur.size by omega]
  · rw [List.getElem?_take_eq_none (by omega), List.getElem?_eq_none (by simp; omega)]
theorem cfS_neg (x y : ByteArray) : cfS x y < 0 ↔ ltB x y = true := by
  unfold cfS
  by_cases h : ltB x y = true
  · rw [if_pos h]; simp [h]
  · rw [if_neg h]
    constructor
    · intro k; split at k <;> omega
    · exact fun k => absurd k h
theorem cfI_cases (x y : Int) : (x < y ∧ cfI x y = -1) ∨ (x = y ∧ cfI x y = 0) ∨ (y < x ∧ cfI x y = 1) := by
  unfold cfI
  rcases (show x < y ∨ x = y ∨ y < x by omega) with h | h | h
  · exact .inl ⟨h, if_pos h⟩
  · exact .inr (.inl ⟨h, by rw [if_neg (by omega), if_neg (by omega)]⟩)
  · exact .inr (.inr ⟨h, by rw [if_neg (by omega), if_pos h]⟩)
theorem cfK_neg (q r : Ky) : cfK q r < 0 ↔ ltK q r := by
  unfold cfK ltK
  rcases cfI_cases q.1 r.1 with ⟨h, e⟩ | ⟨h, e⟩ | ⟨h, e⟩ <;> rw [e]
  · rw [if_neg (by decide)]; exact ⟨fun _ => .inl h, fun _ => by decide⟩
  · rw [if_pos rfl, cfS_neg]; exact ⟨fun k => .inr ⟨h, k⟩, fun k => k.elim (by omega) And.right⟩
  · rw [if_neg (by decide)]; exact ⟨fun k => by omega, fun k => by omega⟩
theorem lt_ky (q r : Ky) : ltOf cfK q r = true ↔ ltK q r := by unfold ltOf; rw [decide_eq_true_eq, cfK_neg]
theorem lt_kyf (q r : Ky) : ltOf cfK q r = false ↔ ¬ ltK q r := by rw [← lt_ky]; simp
theorem swo_ky : Sort.SWO (ltOf cfK) where
  irrefl x := (lt_kyf _ _).2 (ltK_irrefl x)
  trans x y z h k := (lt_ky _ _).2 (ltK_trans ((lt_ky _ _).1 h) ((lt_ky _ _).1 k))
  ntrans x y z h k := (lt_kyf _ _).2 fun e => by
    have h1 := (lt_kyf _ _).1 h
    have h2 := (lt_kyf _ _).1 k
    by_cases hxy : x = y
    · subst hxy; exact h2 e
    · have h3 := ltK_tri h1 hxy
      exact h2 (ltK_trans h3 e)
theorem tot_ky (x y : Ky) (h : ltOf cfK x y = false) (k : ltOf cfK y x = false) : x = y := by
  by_cases e : x = y
  · exact e
  · exact absurd (ltK_tri ((lt_kyf _ _).1 h) e) ((lt_kyf _ _).1 k)
/-- The keys, sorted. -/
def srtK (xs : List Ky) : List Ky := xs.mergeSort fun x y => !(ltOf cfK) y x
theorem srtK_perm (xs : List Ky) : (srtK xs).Perm xs := List.mergeSort_perm _ _
theorem srtK_one {xs ys : List Ky} (hx : xs.Pairwise ltK) (hn : ys.Nodup) (h : ∀ q, q ∈ xs ↔ q ∈ ys) : srtK ys = xs := by
  refine (sorted_one hx ?_ ((srtK_perm ys).nodup_iff.2 hn) fun q => by rw [h, (srtK_perm ys).mem_iff]).symm
  have hp := List.pairwise_mergeSort (le := fun x y => !(ltOf cfK) y x) (fun a b c h k => by
    simp only [Bool.not_eq_true'] at *
    exact swo_ky.ntrans _ _ _ k h) (fun a b => by
    cases e : ltOf cfK b a
    · rfl
    · have h2 : ltOf cfK a b = false := (lt_kyf _ _).2 fun k => ltK_irrefl _ (ltK_trans k ((lt_ky _ _).1 e))
      rw [h2]; rfl) ys
  exact hp.imp fun {a b} h => by
    simp only [Bool.not_eq_true'] at h
    exact (lt_kyf _ _).1 h
theorem cmp_lays (blk off size : Nat) (w : World) : CmpLays Tryz.prog 59 #[] encK 2 cfK blk off size w := fun _ _ _ _ x y => compare_any x y _
end Go.Proofs.YtjodmjadpooipaaGreatDoor.Sh
namespace Go.Proofs.YtjodmjadpooipaaGreatDoor.Sh
open Go Go.RowKit

theorem SqK_len {w : World} {b n : Nat} {D : DataW Unit} (h : w.ownsMap Tryz.prog 77 (plainElem Tryz.prog 3) b n D) {xs : List Ky} (hx : SqK D xs) : xs.length ≤ n := by
  obtain ⟨es, rfl, hp, _⟩ := h.entries keyed
  obtain ⟨es', clock, hb, hf, hs', e⟩ := h
  have h5 : es.length = es'.size := by
    have e2 := DataW.map.inj e
    rw [e2, length_sorted]; simp
  have h1 : (xs.map kyL).Nodup := List.pairwise_map.2 (hx.1.imp_of_mem fun {a b} ha hb hne => kyL_ne (hx.2 a ha).1 (hx.2 b hb).1 hne)
  have h2 : ∀ z ∈ xs.map kyL, z ∈ es.map (·.1) := fun z hz => by
    obtain ⟨q, hq, rfl⟩ := List.mem_map.1 hz
    obtain ⟨hw, hh⟩ := hx.2 q hq
    rw [Maps.has_eq, List.any_eq_true] at hh
    obtain ⟨p, hpm, hs⟩ := hh
    refine List.mem_map.2 ⟨p, hpm, ?_⟩
    by_cases e : p.1 = kyL q
    · exact e
    · first
        | (rw [Maps.sameKey_ne e] at hs; cases hs)
        | (rw [Maps.sameKey_ne (fun h => e h.symm)] at hs; cases hs)
  have h3 := @nodup_len' Lit (fun a b => Classical.propDecidable (a = b)) _ _ h1 h2
  rw [List.length_map, List.length_map] at h3
  omega
set_option maxHeartbeats 1000000 in
theorem sort_any (w : World) (base : Nat) (v : Value) (xs : List Ky) (hown : w.ownsRow base 77 2 v xs.length (flatK xs)) (few : xs.length ≤ 65536) :
    Calls Tryz.prog 65 #[v, .func (.func 59) #[] #[]] w fun e w' =>
      e = .returned (.tuple #[]) ∧ w'.ownsRow base 77 2 v xs.length (flatK (srtK xs)) ∧ w.grownBy w' v.ownBlock := by
  rcases hown.2 with ⟨rfl, h0⟩ | ⟨g, cap, cur, rfl, hbase, hg, h1, h2, h3, h4⟩
  · have hx : xs = [] := List.eq_nil_of_length_eq_zero h0
    subst hx
    have hcon := AnyF.slices_SortFunc_none (P := Tryz.prog) (ρ := Tryz.sortF_ren) { Tryz.sortF with } none 0 (.func (.func 59) #[] #[]) w
    refine hcon.mono ?_
    rintro e w' ⟨rfl, rfl⟩
    exact ⟨rfl, by simpa [srtK] using hown, World.grownBy.refl _ _⟩
  · have eg : ∀ args w, (callFunc 59 args).run Tryz.prog w = .ok (.enter 59 args) w := enters_of Tryz.func59 (by kernel_rfl) rfl
    have hH : Sort.HoldsK encK 2 w g 0 xs.toArray := fun j hj => by
      have hj' : j < xs.length * 2 := by simpa using hj
      have hc := World.ownsRow.cellAt hown j hj'
      rw [flatK_at xs j hj'] at hc
      refine ⟨?_, World.ownsRow.frozenAt hown _⟩
      rw [Nat.zero_add, hc, Sort.get_flatK _ _ _ _ (by simpa using hj')]
      simp
    have hcon := AnyQ.slices_SortFunc_total Tryz.sortF 2 Tryz.isAgg77 Tryz.sizeOf77 encK (fun _ => rfl) (fun x v hv => by simp [encK] at hv; rcases hv with rfl | rfl <;> rfl) cfK swo_ky 59 #[] g 0 cap xs.toArray w eg (cmp_lays g 0 _ w) hH (Array.getElem?_eq_some_iff.1 hg).1 (by simp; omega) tot_ky
    refine hcon.mono ?_
    rintro e w' ⟨rfl, n, os, rfl⟩
    refine ⟨rfl, ?_, grownBy_sortedV _⟩
    have hl : (srtK xs).length = xs.length := (srtK_perm xs).length_eq
    have hf : (Sort.flatK encK 2 (srtK xs).toArray).size = xs.length * 2 := by simp [hl]
    refine ⟨by rw [flatK_len, hl], .inr ⟨g, cap, _, rfl, hbase, heap_sortedV _ hg, h1, h2, by simp [Sort.putCells, h3], ?_⟩⟩
    rw [← hf, ← flat_eq]
    exact take_putV cur _ (by rw [hf, h3]; omega)
theorem keys_len {t : Tre} (h : Srt t) {D : DataW Unit} (hc : Cont D t) (hn : ∀ q ∈ (trs t t.L.length).map (·.1), wfK q) {xs : List Ky} (hx : AllK D xs) : srtK xs = (trs t t.L.length).map (·.1) :=
  srtK_one (List.pairwise_map.2 (trs_sorted h _)) hx.1 fun q => by
    rw [hx.2 q]
    exact ⟨fun hq => ⟨hn q hq, (keys_mem h hc (hn q hq)).2 hq⟩, fun hq => (keys_mem h hc hq.1).1 hq.2⟩
set_option maxHeartbeats 1000000 in
theorem collect_any (w : World) (Bm b n : Nat) (D : DataW Unit) (hb : Bm < w.heap.size) (h0 : w.cell? ⟨Bm, 0, none⟩ = some (.map (some b))) (hown : w.ownsMap Tryz.prog 77 (plainElem Tryz.prog 3) b n D) (few : n ≤ 65536) :
    Calls Tryz.prog 64 #[.func (.func 66) #[] #[.pointer (some ⟨Bm, 0, none⟩)]] w fun e w' =>
      ∃ v xs, e = .returned v ∧ AllK D xs ∧ w'.ownsRow w.heap.size 77 2 v xs.length (flatK xs) ∧ Below w.heap.size w w' := by
  have A := Lib.hid ((callsIn_wide (n := 8)).1 (appendSeq_in 8 (by omega) 66 #[.pointer (some ⟨Bm, 0, none⟩)] (enters_of Tryz.func66 (by kernel_rfl) rfl) (SqK D) (AllK D) (fun xs hx => Nat.le_trans (SqK_len hown hx) few) w (keys_seq Fence.wide 7 trivial rfl (by omega) Bm b n D w hb h0 hown)))
  go_enter Tryz.func64, Tryz.ntmps64
  go_wp2_with fail
  refine A.out.mono ?_
  rintro e w' ⟨v, xs, rfl, hx, ho, hB⟩
  have G := Lib.hid (And.intro hx (And.intro ho hB))
  clear hx ho hB
  go_wp2_with fail
  go_ret
  exact ⟨v, xs, rfl, G.out.1, G.out.2.1, G.out.2.2⟩
set_option maxHeartbeats 1000000 in
theorem sortedFunc_any (w : World) (Bm b n : Nat) (D : DataW Unit) (t : Tre) (hb : Bm < w.heap.size) (h0 : w.cell? ⟨Bm, 0, none⟩ = some (.map (some b))) (hown : w.ownsMap Tryz.prog 77 (plainElem Tryz.prog 3) b n D) (few : n ≤ 65536)
    (h : Srt t) (hc : Cont D t) (hn : ∀ q ∈ (trs t t.L.length).map (·.1), wfK q) :
    Calls Tryz.prog 57 #[.func (.func 66) #[] #[.pointer (some ⟨Bm, 0, none⟩)], .func (.func 59) #[] #[]] w fun e w' =>
      ∃ v, e = .returned v ∧ w'.ownsRow w.heap.size 77 2 v (trs t t.L.length).length (flatK ((trs t t.L.length).map (·.1))) ∧ Below w.heap.size w w' := by
  have C := Lib.hid (collect_any w Bm b n D hb h0 hown few)
  have SQ := Lib.hid (fun xs (hx : AllK D xs) => Nat.le_trans (SqK_len hown ⟨hx.1, fun q hq => (hx.2 q).1 hq⟩) few)
  have K := Lib.hid (fun xs (hx : AllK D xs) => keys_len h hc hn hx)
  clear h0 hown h hc hn
  go_enter Tryz.func57, Tryz.ntmps57
  go_wp2_with fail
  refine C.out.mono ?_
  rintro e w1 ⟨v, xs, rfl, hx, ho, hB⟩
  have S := Lib.hid (sort_any w1 w.heap.size v xs ho (SQ.out xs hx))
  have EX := Lib.hid (K.out xs hx)
  have HB := Lib.hid hB
  have HO := Lib.hid ho
  clear hx hB ho
  go_wp2_with fail
  refine S.out.mono ?_
  rintro e w2 ⟨rfl, ho2, hg2⟩
  have G := Lib.hid (show w2.ownsRow w.heap.size 77 2 v (trs t t.L.length).length (flatK ((trs t t.L.length).map (·.1))) ∧ Below w.heap.size w w2 from ⟨by
    rw [EX.out] at ho2
    have e : xs.length = (trs t t.L.length).length := by
      have h1 := congrArg List.length EX.out
      rw [(srtK_perm xs).length_eq, List.length_map] at h1; exact h1
    rw [e] at ho2; exact ho2, HB.out.grown hg2 HB.out.size (fun k hk => (HO.out.lt k hk).1)⟩)
  clear ho2 hg2
  go_wp2_with fail
  go_ret
  exact ⟨v, rfl, G.out.1, G.out.2⟩
end Go.Proofs.YtjodmjadpooipaaGreatDoor.Sh
