/-
  The comparison of two places; the keys of the map of places, sorted.
-/
import Derived.Test.YtjoffbgfokedlaaDoorTk
import Derived.Shelf.SlSortCmp.WholeK
import Derived.Shelf.SlSortCmp.NoneTotal
import Derived.Test.YtjoffbgfokedlaaDoorGen
namespace Go.Proofs.YtjoffbgfokedlaaDoor.Pf
open Go Go.RowKit Go.Shelf

def cfI (x y : Int) : Int := if x < y then -1 else if y < x then 1 else 0
def cfK (q r : Ky) : Int := if cfI q.1 r.1 = 0 then cfI q.2 r.2 else cfI q.1 r.1
theorem nan_int (x : Int) (W : World) : Calls Tryd.prog 65 #[.int .i64 x] W fun e w' => e = .returned (.bool false) ∧ W = w' := by
  have h := beq_self_eq_true x
  go_enter Tryd.func65, Tryd.ntmps65
  go_wp2
  go_ret
  exact ⟨rfl, rfl⟩
set_option maxHeartbeats 1000000 in
theorem cmp_int (x y : Int) (W : World) : Calls Tryd.prog 56 #[.int .i64 x, .int .i64 y] W fun e w' => e = .returned (.int .i64 (cfI x y)) ∧ W = w' := by
  rcases (show x < y ∨ (¬ x < y ∧ y < x) ∨ (¬ x < y ∧ ¬ y < x) by omega) with h | ⟨h, k⟩ | ⟨h, k⟩
  · have e : cfI x y = -1 := if_pos h
    rw [e]
    go_enter Tryd.func56, Tryd.ntmps56
    go_wp2_with (go_at_call 65; refine (nan_int _ _).mono ?_; rintro e w' ⟨rfl, rfl⟩)
    go_ret
    exact ⟨rfl, rfl⟩
  · have e : cfI x y = 1 := (if_neg h).trans (if_pos k)
    rw [e]
    go_enter Tryd.func56, Tryd.ntmps56
    go_wp2_with (go_at_call 65; refine (nan_int _ _).mono ?_; rintro e w' ⟨rfl, rfl⟩)
    go_ret
    exact ⟨rfl, rfl⟩
  · have e : cfI x y = 0 := (if_neg h).trans (if_neg k)
    rw [e]
    go_enter Tryd.func56, Tryd.ntmps56
    go_wp2_with (go_at_call 65; refine (nan_int _ _).mono ?_; rintro e w' ⟨rfl, rfl⟩)
    go_ret
    exact ⟨rfl, rfl⟩
set_option maxHeartbeats 2000000 in
/-- The first of two numbers that is not 0. -/
theorem or_two (a b r : Int) (hr : (if a = 0 then b else a) = r) (g c : Nat) (W : World) (h0 : W.cell? ⟨g, 0, none⟩ = some (.int .i64 a)) (h1 : W.cell? ⟨g, 1, none⟩ = some (.int .i64 b)) :
    Calls Tryd.prog 55 #[.slice (some ⟨g, 0, none⟩) 2 c] W fun e w' => e = .returned (.int .i64 r) ∧ W = w' := by
  have HR := Lib.hid hr
  clear hr
  go_enter Tryd.func55, Tryd.ntmps55
  go_wp2
  go_loop [5, 8] (fun _ i => ∃ k : Nat, k ≤ 2 ∧ i = .int .i64 (k : Int) ∧ Hid (1 ≤ k → a = 0) ∧ Hid (2 ≤ k → b = 0)) (fun _ i => 2 - (intOf i).toNat)
  case atStart => exact ⟨0, by omega, rfl, Lib.hid (by omega), Lib.hid (by omega)⟩
  case round =>
    obtain ⟨k, hk, rfl, k1, k2⟩ := hrel
    rcases (show k = 0 ∨ k = 1 ∨ k = 2 by omega) with rfl | rfl | rfl
    · by_cases ha : a = 0
      · subst ha
        go_wp2
        go_round
        case rel => exact ⟨1, by omega, rfl, Lib.hid (by simp), Lib.hid (by omega)⟩
        case measure => simp [intOf]
      · have hf : (a == 0) = false := by simpa using ha
        have R := Lib.hid (HR.out.symm.trans (if_neg ha))
        clear ha
        go_wp2
        go_ret
        exact ⟨by rw [R.out]; rfl, rfl⟩
    · by_cases hb : b = 0
      · subst hb
        have R := Lib.hid k1.out
        go_wp2
        go_round
        case rel => exact ⟨2, by omega, rfl, Lib.hid (fun _ => R.out (by omega)), Lib.hid (by simp)⟩
        case measure => simp [intOf]
      · have hf : (b == 0) = false := by simpa using hb
        have R := Lib.hid (HR.out.symm.trans (if_pos (k1.out (by omega))))
        clear hb
        go_wp2
        go_ret
        exact ⟨by rw [R.out]; rfl, rfl⟩
    · have R := Lib.hid (show r = 0 by rw [← HR.out, if_pos (k1.out (by omega))]; exact k2.out (by omega))
      go_wp2
      go_ret
      exact ⟨by rw [R.out]; rfl, rfl⟩
set_option maxHeartbeats 2000000 in
theorem compare_any (q r : Ky) (W : World) : Calls Tryd.prog 36 #[.agg #[.int .i64 q.1, .int .i64 q.2], .agg #[.int .i64 r.1, .int .i64 r.2]] W fun e w' =>
    e = .returned (.int .i64 (cfK q r)) ∧ ∃ n os, w' = Sort.grow (W.drewN n) os := by
  obtain ⟨k, hk⟩ : ∃ k, cfK q r = k := ⟨_, rfl⟩
  rw [hk]
  obtain ⟨a, ha⟩ : ∃ a, cfI q.1 r.1 = a := ⟨_, rfl⟩
  obtain ⟨b, hb⟩ : ∃ b, cfI q.2 r.2 = b := ⟨_, rfl⟩
  have CI := Lib.hid (fun W => ha ▸ cmp_int q.1 r.1 W)
  have CS := Lib.hid (fun W => hb ▸ cmp_int q.2 r.2 W)
  have R := Lib.hid (show (if a = 0 then b else a) = k by rw [← hk, ← ha, ← hb]; rfl)
  clear hk ha hb
  obtain ⟨f, x⟩ := q
  obtain ⟨g, y⟩ := r
  dsimp only at CI CS ⊢
  go_enter Tryd.func36, Tryd.ntmps36
  go_wp2
  have X1 := Bk.new W #[.int .i64 f, .int .i64 x] 43
  have X2 : Bk ((W.alloc (.cells #[.int .i64 f, .int .i64 x] 43)).alloc (.cells #[.int .i64 g, .int .i64 y] 43)) W.heap.size #[.int .i64 f, .int .i64 x] 43 := X1.alloc _
  have X3 := Bk.new (W.alloc (.cells #[.int .i64 f, .int .i64 x] 43)) #[.int .i64 g, .int .i64 y] 43
  rw [World.size_alloc] at X3
  have EW : (W.alloc (.cells #[.int .i64 f, .int .i64 x] 43)).alloc (.cells #[.int .i64 g, .int .i64 y] 43) = Sort.grow W #[.cells #[.int .i64 f, .int .i64 x] 43, .cells #[.int .i64 g, .int .i64 y] 43] := by
    rw [Sort.alloc_eq_grow, Sort.alloc_eq_grow, Sort.grow_grow]; rfl
  generalize (W.alloc (.cells #[.int .i64 f, .int .i64 x] 43)).alloc (.cells #[.int .i64 g, .int .i64 y] 43) = W2 at *
  have x0 := X2.cell 0 (.int .i64 f) rfl
  have x1 := X2.cell 1 (.int .i64 x) rfl
  have y0 := X3.cell 0 (.int .i64 g) rfl
  have y1 := X3.cell 1 (.int .i64 y) rfl
  replace EW := Lib.hid EW
  have BA := Lib.hid (Bk.new W2.drew #[.int .i64 a, .int .i64 b] 3)
  have OR := Lib.hid (fun c => or_two a b k R.out W2.drew.heap.size c _ (BA.out.cell 0 _ rfl) (BA.out.cell 1 _ rfl))
  have FIN := Lib.hid (show ∃ n os, (W2.alloc (.cells #[.int .i64 a, .int .i64 b] 3)).drew = Sort.grow (W.drewN n) os from ⟨1, _, by rw [EW.out, Sort.alloc_eq_grow, Sort.grow_grow]; rfl⟩)
  clear X1 X2 X3
  go_region_law (first
    | (go_simp; go_at_call 56; (with_reducible refine (CI.out _).mono ?_); rintro e w' ⟨rfl, rfl⟩)
    | (go_simp; go_at_call 56; (with_reducible refine (CS.out _).mono ?_); rintro e w' ⟨rfl, rfl⟩)
    | (go_simp; go_at_call 55; (refine (OR.out _).mono ?_); rintro e w' ⟨rfl, rfl⟩))
  all_goals
    go_wp2_with fail
    go_ret
    exact ⟨rfl, FIN.out⟩
instance : Inhabited Ky := ⟨((0 : Int), (0 : Int))⟩
def encK (q : Ky) : List Value := [.int .i64 q.1, .int .i64 q.2]
theorem flatK_len (xs : List Ky) : (flatK xs).length = xs.length * 2 := by
  induction xs with
  | nil => rfl
  | cons x xs ih => unfold flatK at *; rw [List.flatMap_cons, List.length_append, ih]; simp; omega
theorem flatK_at : ∀ (xs : List Ky) (t : Nat), t < xs.length * 2 → (flatK xs)[t]? = some ((encK xs[t / 2]!)[t % 2]!)
  | [], t, h => by simp at h
  | x :: xs, t, h => by
    have e : flatK (x :: xs) = [.int .i64 x.1, .int .i64 x.2] ++ flatK xs := by unfold flatK; rw [List.flatMap_cons]
    rw [e]
    rcases t with _ | _ | t
    · rfl
    · rfl
    · have h' : t < xs.length * 2 := by simp at h; omega
      have e1 : (t + 1 + 1) / 2 = t / 2 + 1 := by omega
      have e2 : (t + 1 + 1) % 2 = t % 2 := by omega
      rw [e1, e2]
      have := flatK_at xs t h'
      simpa using this
theorem flat_eq (xs : List Ky) : (Sort.flatK encK 2 xs.toArray).toList = flatK xs := by
  apply List.ext_getElem?
  intro t
  by_cases h : t < xs.length * 2
  · rw [flatK_at xs t h, Array.getElem?_toList, Array.getElem?_eq_getElem (by simpa using h)]
    have := Sort.get_flatK encK 2 xs.toArray t (by simpa using h)
    rw [getElem!_pos _ t (by simpa using h)] at this
    rw [this]
    simp
  · rw [List.getElem?_eq_none (by simp; omega), List.getElem?_eq_none (by rw [flatK_len]; omega)]
theorem heap_sortedV {w : World} {g n : Nat} {os : Array Obj} {cur : Array Value} {e : TypeId} {fr : Nat × Nat} (d : Array Value) (hb : w.heap[g]? = some (.cells cur e fr)) :
    (Sort.grow (Sort.putRow id (Sort.ahead w n) g 0 d) os).heap[g]? = some (.cells (Sort.putCells id 0 d cur) e fr) := by
  have hg : g < w.heap.size := (Array.getElem?_eq_some_iff.1 hb).1
  rw [Sort.heap_grow_old _ _ (by simpa using hg)]
  simp [Sort.putRow, Sort.mapBlock, Sort.ahead, Array.getElem?_modify, hb, Sort.onCells]
theorem grownBy_sortedV {w : World} {g n : Nat} {os : Array Obj} (d : Array Value) : w.grownBy (Sort.grow (Sort.putRow id (Sort.ahead w n) g 0 d) os) (some g) := by
  refine ⟨rfl, rfl, rfl, by simp, fun k hk hne => ?_⟩
  rw [Sort.heap_grow_old _ _ (by simpa using hk)]
  have : g ≠ k := fun e => hne (by rw [e])
  simp [Sort.putRow, Sort.mapBlock, Sort.ahead, Array.getElem?_modify, this]
theorem take_putV (cur ts : Array Value) (h : ts.size ≤ cur.size) : (Sort.putCells id 0 ts cur).toList.take ts.size = ts.toList := by
  apply List.ext_getElem?
  intro j
  by_cases hj : j < ts.size
  · rw [List.getElem?_take_of_lt hj, Array.getElem?_toList]
    simp [Sort.putCells, hj, show j < cur.size by omega]
  · rw [List.getElem?_take_eq_none (by omega), List.getElem?_eq_none (by simp; omega)]
theorem cfI_cases (x y : Int) : (x < y ∧ cfI x y = -1) ∨ (x = y ∧ cfI x y = 0) ∨ (y < x ∧ cfI x y = 1) := by
  unfold cfI
  rcases (show x < y ∨ x = y ∨ y < x by omega) with h | h | h
  · exact .inl ⟨h, if_pos h⟩
  · exact .inr (.inl ⟨h, by rw [if_neg (by omega), if_neg (by omega)]⟩)
  · exact .inr (.inr ⟨h, by rw [if_neg (by omega), if_pos h]⟩)
theorem cfK_neg (q r : Ky) : cfK q r < 0 ↔ ltP q r := by
  unfold cfK ltP
  rcases cfI_cases q.1 r.1 with ⟨h, e⟩ | ⟨h, e⟩ | ⟨h, e⟩ <;> rcases cfI_cases q.2 r.2 with ⟨h', e'⟩ | ⟨h', e'⟩ | ⟨h', e'⟩ <;> rw [e, e'] <;> simp <;> omega
theorem lt_ky (q r : Ky) : ltOf cfK q r = true ↔ ltP q r := by unfold ltOf; rw [decide_eq_true_eq, cfK_neg]
theorem lt_kyf (q r : Ky) : ltOf cfK q r = false ↔ ¬ ltP q r := by rw [← lt_ky]; simp
theorem swo_ky : Sort.SWO (ltOf cfK) where
  irrefl x := (lt_kyf _ _).2 (ltP_irrefl x)
  trans x y z h k := (lt_ky _ _).2 (ltP_trans ((lt_ky _ _).1 h) ((lt_ky _ _).1 k))
  ntrans x y z h k := (lt_kyf _ _).2 fun e => by
    have h1 := (lt_kyf _ _).1 h
    have h2 := (lt_kyf _ _).1 k
    by_cases hxy : x = y
    · subst hxy; exact h2 e
    · have h3 := ltP_tri h1 hxy
      exact h2 (ltP_trans h3 e)
theorem tot_ky (x y : Ky) (h : ltOf cfK x y = false) (k : ltOf cfK y x = false) : x = y := by
  by_cases e : x = y
  · exact e
  · exact absurd (ltP_tri ((lt_kyf _ _).1 h) e) ((lt_kyf _ _).1 k)
theorem nodup_len' {α : Type} [DecidableEq α] {l : List α} : ∀ {q : List α}, l.Nodup → (∀ x ∈ l, x ∈ q) → l.length ≤ q.length := by
  induction l with
  | nil => intro q _ _; exact Nat.zero_le _
  | cons x l ih =>
    intro q hn hs
    rw [List.nodup_cons] at hn
    have hx : x ∈ q := hs x (List.mem_cons_self ..)
    have := @ih (q.erase x) hn.2 fun y hy => (List.mem_erase_of_ne (fun e : y = x => hn.1 (e ▸ hy))).2 (hs y (List.mem_cons_of_mem _ hy))
    rw [List.length_erase_of_mem hx] at this
    have hp := List.length_pos_of_mem hx
    rw [List.length_cons]; omega
theorem sorted_one {xs ys : List Ky} (hx : xs.Pairwise ltP) (hy : ys.Pairwise fun q r => ¬ ltP r q) (hn : ys.Nodup) (h : ∀ q, q ∈ xs ↔ q ∈ ys) : xs = ys := by
  have hy' : ys.Pairwise ltP := (hy.and hn).imp fun ⟨a, b⟩ => ltP_tri a (fun e => b e.symm)
  have hp : xs.Perm ys := (List.perm_ext_iff_of_nodup (hx.imp fun hab e => by rw [e] at hab; exact ltP_irrefl _ hab) hn).2 h
  exact List.Perm.eq_of_pairwise (fun a b _ _ h1 h2 => absurd (ltP_trans h1 h2) (ltP_irrefl _)) hx hy' hp
/-- The keys, sorted. -/
def srtK (xs : List Ky) : List Ky := xs.mergeSort fun x y => !(ltOf cfK) y x
theorem srtK_perm (xs : List Ky) : (srtK xs).Perm xs := List.mergeSort_perm _ _
theorem srtK_one {xs ys : List Ky} (hx : xs.Pairwise ltP) (hn : ys.Nodup) (h : ∀ q, q ∈ xs ↔ q ∈ ys) : srtK ys = xs := by
  refine (sorted_one hx ?_ ((srtK_perm ys).nodup_iff.2 hn) fun q => by rw [h, (srtK_perm ys).mem_iff]).symm
  have hp := List.pairwise_mergeSort (le := fun x y => !(ltOf cfK) y x) (fun a b c h k => by
    simp only [Bool.not_eq_true'] at *
    exact swo_ky.ntrans _ _ _ k h) (fun a b => by
    cases e : ltOf cfK b a
    · rfl
    · have h2 : ltOf cfK a b = false := (lt_kyf _ _).2 fun k => ltP_irrefl _ (ltP_trans k ((lt_ky _ _).1 e))
      rw [h2]; rfl) ys
  exact hp.imp fun {a b} h => by
    simp only [Bool.not_eq_true'] at h
    exact (lt_kyf _ _).1 h
theorem cmp_lays (blk off size : Nat) (w : World) : CmpLays Tryd.prog 36 #[] encK 2 cfK blk off size w := fun _ _ _ _ x y => compare_any x y _

theorem SqK_len {w : World} {b n : Nat} {D : DataW Unit} (h : w.ownsMap Tryd.prog 43 ptrElem b n D) {xs : List Ky} (hx : SqK D xs) : xs.length ≤ n := by
  obtain ⟨es, rfl, hp, _⟩ := h.entries keyed
  obtain ⟨es', clock, hb, hf, hs', e⟩ := h
  have h5 : es.length = es'.size := by
    have e2 := DataW.map.inj e
    rw [e2, length_sorted]; simp
  have h1 : (xs.map keyL).Nodup := List.pairwise_map.2 (hx.1.imp_of_mem fun {a b} ha hb hne => kyL_ne (hx.2 a ha).1 (hx.2 b hb).1 hne)
  have h2 : ∀ z ∈ xs.map keyL, z ∈ es.map (·.1) := fun z hz => by
    obtain ⟨q, hq, rfl⟩ := List.mem_map.1 hz
    obtain ⟨hw, hh⟩ := hx.2 q hq
    rw [Maps.has_eq, List.any_eq_true] at hh
    obtain ⟨p, hpm, hs⟩ := hh
    refine List.mem_map.2 ⟨p, hpm, ?_⟩
    by_cases e : p.1 = keyL q
    · exact e
    · first
        | (rw [Maps.sameKey_ne e] at hs; cases hs)
        | (rw [Maps.sameKey_ne (fun h => e h.symm)] at hs; cases hs)
  have h3 := @nodup_len' Lit (fun a b => Classical.propDecidable (a = b)) _ _ h1 h2
  rw [List.length_map, List.length_map] at h3
  omega
set_option maxHeartbeats 1000000 in
theorem sort_any (w : World) (base : Nat) (v : Value) (xs : List Ky) (hown : w.ownsRow base 43 2 v xs.length (flatK xs)) (few : xs.length ≤ 1000000) :
    Calls Tryd.prog 53 #[v, .func (.func 36) #[] #[]] w fun e w' =>
      e = .returned (.tuple #[]) ∧ w'.ownsRow base 43 2 v xs.length (flatK (srtK xs)) ∧ w.grownBy w' v.ownBlock := by
  rcases hown.2 with ⟨rfl, h0⟩ | ⟨g, cap, cur, rfl, hbase, hg, h1, h2, h3, h4⟩
  · have hx : xs = [] := List.eq_nil_of_length_eq_zero h0
    subst hx
    have hcon := AnyF.slices_SortFunc_none (P := Tryd.prog) (ρ := Tryd.sortF_ren) { Tryd.sortF with } none 0 (.func (.func 36) #[] #[]) w
    refine hcon.mono ?_
    rintro e w' ⟨rfl, rfl⟩
    exact ⟨rfl, by simpa [srtK] using hown, World.grownBy.refl _ _⟩
  · have eg : ∀ args w, (callFunc 36 args).run Tryd.prog w = .ok (.enter 36 args) w := enters_of Tryd.func36 (by kernel_rfl) rfl
    have hH : Sort.HoldsK encK 2 w g 0 xs.toArray := fun j hj => by
      have hj' : j < xs.length * 2 := by simpa using hj
      have hc := World.ownsRow.cellAt hown j hj'
      rw [flatK_at xs j hj'] at hc
      refine ⟨?_, World.ownsRow.frozenAt hown _⟩
      rw [Nat.zero_add, hc, Sort.get_flatK _ _ _ _ (by simpa using hj')]
      simp
    have hcon := AnyQ.slices_SortFunc_total Tryd.sortF 2 Tryd.isAgg43 Tryd.sizeOf43 encK (fun _ => rfl) (fun x v hv => by simp [encK] at hv; rcases hv with rfl | rfl <;> rfl) cfK swo_ky 36 #[] g 0 cap xs.toArray w eg (cmp_lays g 0 _ w) hH (Array.getElem?_eq_some_iff.1 hg).1 (by simp; omega) tot_ky
    refine hcon.mono ?_
    rintro e w' ⟨rfl, n, os, rfl⟩
    refine ⟨rfl, ?_, grownBy_sortedV _⟩
    have hl : (srtK xs).length = xs.length := (srtK_perm xs).length_eq
    have hf : (Sort.flatK encK 2 (srtK xs).toArray).size = xs.length * 2 := by simp [hl]
    refine ⟨by rw [flatK_len, hl], .inr ⟨g, cap, _, rfl, hbase, heap_sortedV _ hg, h1, h2, by simp [Sort.putCells, h3], ?_⟩⟩
    rw [← hf, ← flat_eq]
    exact take_putV cur _ (by rw [hf, h3]; omega)
set_option maxHeartbeats 1000000 in
theorem collect_any (w : World) (Bm b n : Nat) (D : DataW Unit) (hb : Bm < w.heap.size) (h0 : w.cell? ⟨Bm, 0, none⟩ = some (.map (some b))) (hown : w.ownsMap Tryd.prog 43 ptrElem b n D) (few : n ≤ 1000000) :
    Calls Tryd.prog 52 #[.func (.func 54) #[] #[.pointer (some ⟨Bm, 0, none⟩)]] w fun e w' =>
      ∃ v xs, e = .returned v ∧ AllK D xs ∧ w'.ownsRow w.heap.size 43 2 v xs.length (flatK xs) ∧ Below w.heap.size w w' := by
  have A := Lib.hid ((callsIn_wide (n := 8)).1 (appendSeq_in 8 (by omega) 54 #[.pointer (some ⟨Bm, 0, none⟩)] (enters_of Tryd.func54 (by kernel_rfl) rfl) (SqK D) (AllK D) (fun xs hx => Nat.le_trans (SqK_len hown hx) few) w (keys_seq Fence.wide 7 trivial rfl (by omega) Bm b n D w hb h0 hown)))
  go_enter Tryd.func52, Tryd.ntmps52
  go_wp2_with fail
  refine A.out.mono ?_
  rintro e w' ⟨v, xs, rfl, hx, ho, hB⟩
  have G := Lib.hid (And.intro hx (And.intro ho hB))
  clear hx ho hB
  go_wp2_with fail
  go_ret
  exact ⟨v, xs, rfl, G.out.1, G.out.2.1, G.out.2.2⟩
set_option maxHeartbeats 1000000 in
theorem sortedFunc_any (w : World) (Bm b n : Nat) (D : DataW Unit) (L : List Ky) (hb : Bm < w.heap.size) (h0 : w.cell? ⟨Bm, 0, none⟩ = some (.map (some b))) (hown : w.ownsMap Tryd.prog 43 ptrElem b n D) (few : n ≤ 1000000)
    (hs : L.Pairwise ltP) (hL : ∀ q, q ∈ L ↔ okP q ∧ Maps.has D (keyL q) = true) :
    Calls Tryd.prog 34 #[.func (.func 54) #[] #[.pointer (some ⟨Bm, 0, none⟩)], .func (.func 36) #[] #[]] w fun e w' =>
      ∃ v, e = .returned v ∧ w'.ownsRow w.heap.size 43 2 v L.length (flatK L) ∧ Below w.heap.size w w' := by
  have C := Lib.hid (collect_any w Bm b n D hb h0 hown few)
  have SQ := Lib.hid (fun xs (hx : AllK D xs) => Nat.le_trans (SqK_len hown ⟨hx.1, fun q hq => (hx.2 q).1 hq⟩) few)
  have K := Lib.hid (fun xs (hx : AllK D xs) => srtK_one hs hx.1 fun q => by rw [hx.2 q, hL q])
  clear h0 hown hs hL
  go_enter Tryd.func34, Tryd.ntmps34
  go_wp2_with fail
  refine C.out.mono ?_
  rintro e w1 ⟨v, xs, rfl, hx, ho, hB⟩
  have S := Lib.hid (sort_any w1 w.heap.size v xs ho (SQ.out xs hx))
  have EX := Lib.hid (K.out xs hx)
  have HB := Lib.hid hB
  have HO := Lib.hid ho
  clear hx hB ho
  go_wp2_with fail
  refine S.out.mono ?_
  rintro e w2 ⟨rfl, ho2, hg2⟩
  have G := Lib.hid (show w2.ownsRow w.heap.size 43 2 v L.length (flatK L) ∧ Below w.heap.size w w2 from ⟨by
    rw [EX.out] at ho2
    have e : xs.length = L.length := by
      have h1 := congrArg List.length EX.out
      rw [(srtK_perm xs).length_eq] at h1; exact h1
    rw [e] at ho2; exact ho2, HB.out.grown hg2 HB.out.size (fun k hk => (HO.out.lt k hk).1)⟩)
  clear ho2 hg2
  go_wp2_with fail
  go_ret
  exact ⟨v, rfl, G.out.1, G.out.2⟩
end Go.Proofs.YtjoffbgfokedlaaDoor.Pf
