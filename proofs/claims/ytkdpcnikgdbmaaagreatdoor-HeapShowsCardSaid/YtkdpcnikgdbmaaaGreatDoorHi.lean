/-
  Contract of add.
  Contract of add.
  Contracts of New and Alloc.
  Contracts of Alloc: refused by number, carried out.
  Contract of Alloc on a heap without a map.
-/
import Derived.Test.YtkdpcnikgdbmaaaGreatDoorHg
import Derived.Maps.OwnOps
import Derived.Test.YtkdpcnikgdbmaaaGreatDoorHh
import Derived.Carry
namespace Go.Proofs.YtkdpcnikgdbmaaaGreatDoor.Hp
open Go Go.RowKit Go.Maps Va

theorem ids_snoc (l : List Ent) (e : Ent) : ids (l ++ [e]) = ids l ++ [e.1] := by simp [ids]
theorem own_tight {w : World} {b n : Nat} {D : DataW Unit} (h : w.ownsMap Tryz.prog 3 ptrElem b n D) : w.ownsMap Tryz.prog 3 ptrElem b (Maps.size D) D := by
  obtain ⟨es, clock, hm, F, hs, rfl⟩ := h
  exact ⟨es, clock, hm, F, by simp [Maps.size, length_sorted], rfl⟩
/-- The map with a new key. -/
theorem MapD.put {D : DataW Unit} {l : List Ent} {f : Int → Hd} (h : MapD D l f) (ht : Tidy D) {id : Int} (hid : I64 id) (hn : id ∉ ids l) (c : Cel) (d : Hd) (f' : Int → Hd) (h1 : f' id = d) (h2 : ∀ i ∈ ids l, f' i = f i) :
    MapD (D.put (.int .i64 id) (.lit (.int .i64 d.b))) (l ++ [(id, c)]) f' := by
  have hI := ht.isMap
  refine ⟨fun i hi => ?_, fun i hi => ?_, ?_⟩
  · by_cases e : i = id
    · subst e
      rw [atKey_put_same hI (by trivial), if_pos (by rw [ids_snoc]; simp), h1]
    · rw [atKey_put_other (fun h => e (Lit.int.inj h).2), h.at_ i hi, ids_snoc]
      by_cases hm : i ∈ ids l
      · rw [if_pos hm, if_pos (by simp [hm]), h2 i hm]
      · rw [if_neg hm, if_neg (by simp [hm, e])]
  · by_cases e : i = id
    · subst e
      rw [has_put_same hI (by trivial)]
      simp [ids_snoc]
    · rw [has_put_other (fun h => e (Lit.int.inj h).2), h.has_ i hi, ids_snoc]
      simp [e]
  · rw [size_put ht, if_neg (by rw [h.has_ id hid]; simp [hn]), h.size_]
    simp
theorem row_cells {w : World} {base : Nat} {e : TypeId} {size n : Nat} {v : Value} {xs : List Value} (h : w.ownsRow base e size v n xs) {g : Nat} (hg : v.ownBlock = some g) : base ≤ g ∧ ∃ cur, w.heap[g]? = some (.cells cur e (0, 0)) := by
  rcases h.2 with ⟨rfl, _⟩ | ⟨g', cap, cur, rfl, hb, hc, _⟩
  · cases hg
  · obtain rfl : g' = g := Option.some.inj hg
    exact ⟨hb, cur, hc⟩
theorem CellAt.isCells {w : World} {d : Hd} {c : Cel} (h : CellAt w d c) {g : Nat} (hg : d.has g) : ∃ cur T, w.heap[g]? = some (.cells cur T (0, 0)) := by
  rcases hg with rfl | hg | hg
  · exact ⟨_, _, h.blk⟩
  · obtain ⟨_, cur, h'⟩ := row_cells h.nms hg
    exact ⟨cur, _, h'⟩
  · obtain ⟨_, cur, h'⟩ := row_cells h.its hg
    exact ⟨cur, _, h'⟩
theorem own_isMap {w : World} {b n : Nat} {D : DataW Unit} {R : Value → Option (DataW Unit × List MemPlace)} {k : TypeId} {P : Program} (h : w.ownsMap P k R b n D) : ∃ es clock, w.heap[b]? = some (.map es clock) := by
  obtain ⟨es, clock, hm, _⟩ := h
  exact ⟨es, clock, hm⟩
theorem Hd.lt_of {w : World} {d : Hd} {c : Cel} (h : CellAt w d c) {g : Nat} (hg : d.has g) : g < w.heap.size := by
  obtain ⟨cur, T, h'⟩ := h.isCells hg
  exact (Array.getElem?_eq_some_iff.1 h').1
theorem add_result {F : Nat → Prop} {p mb B0 M l0 : Nat} {f : Int → Hd} {l : List Ent} {next id : Int} {c : Cel} {N I : Value} {w w2 w4 : World} {D0 : DataW Unit} (H2 : HeapA w2 F p (some mb) f l next) (hF : ∀ g, F g → g < w.heap.size) (hid : I64 id) (hlast : ∀ e ∈ l, e.1 < id)
    (hB : Below w.heap.size w w2) (hB0 : w.heap.size ≤ B0) (hO : OwnC w2 B0 M c N I) (hFb : F mb) (hT : Tidy D0) (hD : MapD D0 l f) (hmap : w4.ownsMap Tryz.prog 3 ptrElem mb l0 (D0.put (.int .i64 id) (.lit (.int .i64 w2.heap.size))))
    (hm2 : ∃ es clock, w2.heap[mb]? = some (.map es clock)) (hg : (w2.alloc (.cells (rowC ⟨w2.heap.size, N, I⟩ c) 46)).grownBy w4 (some mb)) :
    ∃ f', HeapA w4 (New F w.heap.size w4.heap.size) p (some mb) f' (l ++ [(id, c)]) next ∧ (∀ i ∈ ids l, f' i = f i) ∧ Frm F w w4 := by
  have hs : w2.heap.size + 1 ≤ w4.heap.size := by have := hg.size; simpa using this
  have hmb := hF mb hFb
  have hsz := hB.size
  have keep : ∀ g, g < w2.heap.size → g ≠ mb → w4.heap[g]? = w2.heap[g]? := fun g hg' hne =>
    (hg.block g (by simp; omega) (fun e => hne (Option.some.inj e))).trans (Below.heap_alloc _ _ _ hg')
  have ne : ∀ {g : Nat} {cur : Array Value} {T : TypeId}, w2.heap[g]? = some (.cells cur T (0, 0)) → g ≠ mb := by
    rintro g cur T h rfl
    obtain ⟨es, cl, h'⟩ := hm2
    rw [h] at h'; cases h'
  have hnid : id ∉ ids l := by
    intro h
    obtain ⟨e, he, rfl⟩ := List.mem_map.1 h
    exact absurd (hlast e he) (by omega)
  have hni : ∀ e ∈ l, e.1 ≠ id := fun e he h => by have := hlast e he; omega
  obtain ⟨hBM, hN, hNM, hI⟩ := hO
  have newC : CellAt w4 ⟨w2.heap.size, N, I⟩ c := by
    refine ⟨?_, ?_, ?_⟩
    · exact (hg.block w2.heap.size (by simp) (fun e => by have := Option.some.inj e; omega)).trans (Bk.new w2 _ _)
    · refine own_mono (own_keep hN fun g h1 h2 => keep g h2 (by omega)) (Nat.zero_le _)
    · refine own_mono (own_keep hI fun g h1 h2 => keep g h2 (by omega)) (Nat.zero_le _)
  have newB : ∀ g, (⟨w2.heap.size, N, I⟩ : Hd).has g → w.heap.size ≤ g ∧ g < w4.heap.size := by
    intro g h
    refine ⟨?_, Hd.lt_of newC h⟩
    rcases h with rfl | h | h
    · exact hsz
    · exact Nat.le_trans hB0 (row_cells hN h).1
    · exact Nat.le_trans hB0 (Nat.le_trans hBM (row_cells hI h).1)
  let f' : Int → Hd := fun i => if i = id then ⟨w2.heap.size, N, I⟩ else f i
  have f1 : f' id = ⟨w2.heap.size, N, I⟩ := if_pos rfl
  have f2 : ∀ i ∈ ids l, f' i = f i := fun i hi => if_neg (fun e : i = id => hnid (e ▸ hi))
  have f3 : ∀ e ∈ l, f' e.1 = f e.1 := fun e he => f2 _ (List.mem_map.2 ⟨e, he, rfl⟩)
  have hD' := hD.put hT hid hnid c ⟨w2.heap.size, N, I⟩ f' f1 f2
  refine ⟨f', ⟨?_, .inl H2.fp, .inr ⟨mb, _, rfl, .inl hFb, ?_, hD'⟩, ?_, ?_, ?_, H2.fits⟩, f2, ?_⟩
  · exact (keep p H2.top.lt (ne H2.top)).trans H2.top
  · have := own_tight hmap
    rw [hD'.size_] at this; exact this
  · intro e he
    rcases List.mem_append.1 he with he | he
    · rw [f3 e he]
      have h := H2.cells e he
      exact ⟨h.1.keep fun g hh => keep g (Hd.lt_of h.1 hh) (by obtain ⟨cur, T, h'⟩ := h.1.isCells hh; exact ne h'), fun g hh => .inl (h.2 g hh)⟩
    · obtain rfl : e = (id, c) := by simpa using he
      rw [f1]
      exact ⟨newC, fun g hh => .inr (newB g hh)⟩
  · intro e he e' he' hne g hg1 hg2
    rcases List.mem_append.1 he with he | he <;> rcases List.mem_append.1 he' with he' | he'
    · rw [f3 e he] at hg1; rw [f3 e' he'] at hg2
      exact H2.apart e he e' he' hne g hg1 hg2
    · obtain rfl : e' = (id, c) := by simpa using he'
      rw [f3 e he] at hg1; rw [f1] at hg2
      have := hF g ((H2.cells e he).2 g hg1); have := (newB g hg2).1; omega
    · obtain rfl : e = (id, c) := by simpa using he
      rw [f3 e' he'] at hg2; rw [f1] at hg1
      have := hF g ((H2.cells e' he').2 g hg2); have := (newB g hg1).1; omega
    · obtain rfl : e = (id, c) := by simpa using he
      obtain rfl : e' = (id, c) := by simpa using he'
      exact hne rfl
  · rw [ids_snoc, List.pairwise_append]
    refine ⟨H2.sorted, by simp, fun a ha b hb => ?_⟩
    obtain rfl : b = id := by simpa using hb
    obtain ⟨e, he, rfl⟩ := List.mem_map.1 ha
    exact hlast e he
  · refine ⟨hg.os.trans hB.os, hg.tape.trans hB.tape, hg.output.trans hB.output, by omega, fun k hk hk' => ?_⟩
    rw [keep k (by omega) (fun e : k = mb => hk' (e ▸ hFb))]
    exact hB.block k hk
end Go.Proofs.YtkdpcnikgdbmaaaGreatDoor.Hp
namespace Go.Proofs.YtkdpcnikgdbmaaaGreatDoor.Hp
open Go Go.RowKit Go.Maps Va

set_option maxHeartbeats 1000000 in
theorem add_any (F P : Nat → Prop) (p mb : Nat) (f : Int → Hd) (l : List Ent) (next id : Int) (c : Cel) (A B : Option Addr) (n nc m ic : Nat) (w : World) (h : HeapA w F p (some mb) f l next) (hF : ∀ g, F g → g < w.heap.size) (hid : I64 id) (hlast : ∀ e ∈ l, e.1 < id) (hlen : l.length ≤ 100000)
    (hn : c.names.length = n) (hm : c.items.length = m) (hS : SlS w P A c.names) (hV : ValsAt w P B c.items) (hP : ∀ b, P b → b < w.heap.size) (hn' : n ≤ 4398046511104) (hm' : m ≤ 4398046511104) :
    Calls Tryz.prog 61 #[.pointer (some ⟨p, 0, none⟩), .int .i64 id, celV c (.slice A n nc) (.slice B m ic)] w fun e w' => e = .returned (.tuple #[]) ∧ Hid (∃ f', HeapA w' (New F w.heap.size w'.heap.size) p (some mb) f' (l ++ [(id, c)]) next ∧ (∀ i ∈ ids l, f' i = f i) ∧ Frm F w w') := by
  have H := Lib.hid h
  have DU := Lib.hid (fun (o : Obj) => dup_any P c A B n nc m ic (w.alloc o) hn hm (hS.low hP ((Below.refl _ w).alloc (Nat.le_refl _) o)) (hV.low hP ((Below.refl _ w).alloc (Nat.le_refl _) o)) (fun b hb => by have := hP b hb; simp; omega) hn' hm')
  clear h hS hV hP
  obtain ⟨kind, cls, fn, ten, names, items⟩ := c
  unfold celV at DU ⊢
  simp only at DU hn hm ⊢
  go_enter Tryz.func61, Tryz.ntmps61
  go_wp2_with fail
  refine (DU.out _).mono ?_
  rintro e w2 ⟨D, d, E, e', rfl, hh⟩
  have HB := Lib.hid (((Below.refl _ w).alloc (Nat.le_refl _) _).trans (hh.out.2.mono (by simp)))
  have H2 := Lib.hid (H.out.low hF HB.out)
  have OC := Lib.hid hh.out.1
  have S1 := hh.out.2.size
  simp only [World.size_alloc] at S1
  clear hh DU
  have p0 := H2.out.top.cell 0 (.map (some mb)) rfl
  have pl := H2.out.top.lt
  have hm0 := H2.out.map
  rcases hm0 with ⟨h', _⟩ | ⟨b, D0, hb, hFb, ho, hD⟩
  · cases h'
  obtain rfl : mb = b := Option.some.inj hb
  have HO := Lib.hid (ho.alloc (.cells #[.int .i64 kind, .int .i64 cls, .int .i64 fn, .int .i64 ten, .slice D n d, .slice E m e'] 46))
  have HD := Lib.hid hD
  have HM := Lib.hid (own_isMap ho)
  have HT := Lib.hid (ho.tidy intLaw)
  have HFB := Lib.hid hFb
  clear hb ho hD hFb
  have hk := key_int hid
  go_wp2_with (at_mapUpdate; refine wpList_mapUpdate_own _ rfl _ _ _ 97 rfl 3 101 intLaw Tryz.underlying97 ptrElem mb l.length D0 rfl HO.out (by unfold maxLen; omega) (.int .i64 id) (.pointer (some ⟨w2.heap.size, 0, none⟩)) (.int .i64 id) rfl rfl hk (.lit (.int .i64 w2.heap.size)) [] rfl ?_)
  intro w4 hmap hgrow
  have RES := Lib.hid (show ∃ f', HeapA w4 (New F w.heap.size w4.heap.size) p (some mb) f' (l ++ [(id, ⟨kind, cls, fn, ten, names, items⟩)]) next ∧ (∀ i ∈ ids l, f' i = f i) ∧ Frm F w w4 by
    obtain ⟨M, hO⟩ := OC.out
    exact add_result H2.out hF hid hlast HB.out (by simp) hO HFB.out HT.out HD.out hmap HM.out hgrow)
  clear hmap hgrow
  go_wp2_with fail
  go_end0
  exact ⟨rfl, RES⟩
end Go.Proofs.YtkdpcnikgdbmaaaGreatDoor.Hp
namespace Go.Proofs.YtkdpcnikgdbmaaaGreatDoor.Hp
open Go Go.RowKit Go.Maps Va

theorem heap_new (w : World) (f : Int → Hd) : HeapA (w.alloc (.cells #[.map none, .int .i64 0] 99)) (New (fun _ => False) w.heap.size (w.alloc (.cells #[.map none, .int .i64 0] 99)).heap.size) w.heap.size none f [] 0 :=
  ⟨Bk.new w _ _, .inr (by simp), .inl ⟨rfl, rfl⟩, (fun e he => by cases he), (fun e he => by cases he), List.Pairwise.nil, by unfold I64; omega⟩
theorem new_any (f : Int → Hd) (w : World) : Calls Tryz.prog 31 #[] w fun e w' => e = .returned (.pointer (some ⟨w.heap.size, 0, none⟩)) ∧ Hid (HeapA w' (New (fun _ => False) w.heap.size w'.heap.size) w.heap.size none f [] 0 ∧ Below w.heap.size w w') := by
  have HN := Lib.hid (heap_new w f)
  go_enter Tryz.func31, Tryz.ntmps31
  go_wp2_with fail
  go_ret
  exact ⟨rfl, Lib.hid ⟨HN.out, (Below.refl _ w).alloc (Nat.le_refl _) _⟩⟩
theorem alloc_nil (c : Cel) (N I : Value) (w : World) : Calls Tryz.prog 32 #[.pointer none, celV c N I] w fun e w' => e = .returned (.tuple #[.int .i64 0, .int .i64 1]) ∧ Below w.heap.size w w' := by
  obtain ⟨kind, cls, fn, ten, names, items⟩ := c
  unfold celV
  simp only
  go_enter Tryz.func32, Tryz.ntmps32
  go_wp2_with fail
  go_ret2
  exact ⟨rfl, (Below.refl _ w).alloc (Nat.le_refl _) _⟩
theorem alloc_bad (P : Nat → Prop) (p : Nat) (c : Cel) (A B : Option Addr) (n nc m ic : Nat) (w : World)
    (hn : c.names.length = n) (hm : c.items.length = m) (hS : SlS w P A c.names) (hV : ValsAt w P B c.items) (hP : ∀ b, P b → b < w.heap.size) (hn' : n ≤ 4398046511104) (hm' : m ≤ 4398046511104) (hs : ∀ s ∈ c.names, s.size ≤ maxLen) (hf : ∀ v ∈ c.items, v.Fits) (hB : Bnds w) (hr : c.right = false) :
    Calls Tryz.prog 32 #[.pointer (some ⟨p, 0, none⟩), celV c (.slice A n nc) (.slice B m ic)] w fun e w' => e = .returned (.tuple #[.int .i64 0, .int .i64 1]) ∧ Below w.heap.size w w' := by
  have RC := Lib.hid (fun (o : Obj) => right_cell P c n m A B nc ic (w.alloc o) hn hm (hS.low hP ((Below.refl _ w).alloc (Nat.le_refl _) o)) (hV.low hP ((Below.refl _ w).alloc (Nat.le_refl _) o)) (fun b hb => by have := hP b hb; simp; omega) hn' hm' hs hf (fun i hi => by rw [((Below.refl _ w).alloc (Nat.le_refl _) o).cell (by exact hB.size)]; exact hB i hi))
  rw [hr] at RC
  clear hS hV hP hs hf hB hn hm hr
  obtain ⟨kind, cls, fn, ten, names, items⟩ := c
  unfold celV at *
  simp only at RC ⊢
  go_enter Tryz.func32, Tryz.ntmps32
  go_wp2_with fail
  refine (RC.out _).mono ?_
  rintro e w2 ⟨rfl, hb⟩
  have HB := Lib.hid (((Below.refl _ w).alloc (Nat.le_refl _) _).trans (hb.mono (by simp)))
  clear hb
  go_wp2_with fail
  go_ret2
  exact ⟨rfl, HB.out⟩
end Go.Proofs.YtkdpcnikgdbmaaaGreatDoor.Hp
namespace Go.Proofs.YtkdpcnikgdbmaaaGreatDoor.Hp
open Go Go.RowKit Go.Maps Va

theorem MapA.len {w : World} {F : Nat → Prop} {mb : Option Nat} {l : List Ent} {f : Int → Hd} (h : MapA w F mb l f) (ty : TypeId) :
    (Builtin.len_ #[97] ty #[.map mb]).run Tryz.prog w = .ok (.int .i64 l.length) w := by
  rcases h with ⟨rfl, rfl⟩ | ⟨b, D, rfl, hb, ho, hD⟩
  · exact Maps.len_nil Tryz.underlying97 ty
  · rw [ho.len Tryz.underlying97 ty, hD.size_]
theorem right_at (P : Nat → Prop) (c : Cel) (A B : Option Addr) (n nc m ic : Nat) (w : World) (hn : c.names.length = n) (hm : c.items.length = m) (hS : SlS w P A c.names) (hV : ValsAt w P B c.items) (hP : ∀ b, P b → b < w.heap.size) (hn' : n ≤ 4398046511104) (hm' : m ≤ 4398046511104) (hs : ∀ s ∈ c.names, s.size ≤ maxLen) (hf : ∀ v ∈ c.items, v.Fits) (hB : Bnds w) (hr : c.right = true) (o : Obj) :
    Calls Tryz.prog 56 #[celV c (.slice A n nc) (.slice B m ic)] (w.alloc o) fun e w' => e = .returned (.bool true) ∧ Below w.heap.size w w' ∧ Below (w.heap.size + 1) (w.alloc o) w' := by
  refine (right_cell P c n m A B nc ic (w.alloc o) hn hm (hS.low hP ((Below.refl _ w).alloc (Nat.le_refl _) o)) (hV.low hP ((Below.refl _ w).alloc (Nat.le_refl _) o)) (fun b hb => by have := hP b hb; simp; omega) hn' hm' hs hf (fun i hi => by rw [((Below.refl _ w).alloc (Nat.le_refl _) o).cell (by exact hB.size)]; exact hB i hi)).mono ?_
  rintro e w2 ⟨rfl, hb⟩
  exact ⟨by rw [hr], ((Below.refl _ w).alloc (Nat.le_refl _) _).trans (hb.mono (by simp)), hb.mono (by simp)⟩
set_option maxHeartbeats 1000000 in
theorem alloc_many (F P : Nat → Prop) (p : Nat) (mb : Option Nat) (f : Int → Hd) (l : List Ent) (next : Int) (c : Cel) (A B : Option Addr) (n nc m ic : Nat) (w : World) (h : HeapA w F p mb f l next) (hF : ∀ g, F g → g < w.heap.size)
    (hn : c.names.length = n) (hm : c.items.length = m) (hS : SlS w P A c.names) (hV : ValsAt w P B c.items) (hP : ∀ b, P b → b < w.heap.size) (hn' : n ≤ 4398046511104) (hm' : m ≤ 4398046511104) (hs : ∀ s ∈ c.names, s.size ≤ maxLen) (hf : ∀ v ∈ c.items, v.Fits) (hB : Bnds w) (hr : c.right = true) (hl : 8000 ≤ l.length) :
    Calls Tryz.prog 32 #[.pointer (some ⟨p, 0, none⟩), celV c (.slice A n nc) (.slice B m ic)] w fun e w' => e = .returned (.tuple #[.int .i64 0, .int .i64 2]) ∧ Below w.heap.size w w' := by
  have RC := Lib.hid (right_at P c A B n nc m ic w hn hm hS hV hP hn' hm' hs hf hB hr)
  have H := Lib.hid h
  clear h hS hV hP hs hf hB hn hm hr
  have hl' : ¬ ((l.length : Int) < 8000) := by omega
  obtain ⟨kind, cls, fn, ten, names, items⟩ := c
  unfold celV at *
  simp only at RC ⊢
  go_enter Tryz.func32, Tryz.ntmps32
  go_wp2_with fail
  refine (RC.out _).mono ?_
  rintro e w2 ⟨rfl, hb, -⟩
  have HB := Lib.hid hb
  have H2 := Lib.hid (H.out.low hF hb)
  clear hb RC
  have p0 := H2.out.top.cell 0 (.map mb) rfl
  have pl := H2.out.top.lt
  have LN := H2.out.map.len
  go_wp2_with fail
  go_ret2
  exact ⟨rfl, HB.out⟩
theorem run_onemap (m : Nat) (w : World) : (binOp .eql 97 (.map (some m)) (.map none)).run Tryz.prog w = .ok (.bool false) w := by kernel_rfl
theorem run_nilmap (w : World) : (binOp .eql 97 (.map none) (.map none)).run Tryz.prog w = .ok (.bool true) w := by kernel_rfl
theorem CellAt.ne_top {w : World} {d : Hd} {c : Cel} {p : Nat} {cs : Array Value} (h : CellAt w d c) (hp : Bk w p cs 99) {g : Nat} (hg : d.has g) : g ≠ p := by
  rintro rfl
  unfold Bk at hp
  rcases hg with rfl | hg | hg
  · have := h.blk
    unfold Bk at this
    rw [hp] at this
    simp at this
  · obtain ⟨_, cur, h'⟩ := row_cells h.nms hg
    rw [hp] at h'
    simp at h'
  · obtain ⟨_, cur, h'⟩ := row_cells h.its hg
    rw [hp] at h'
    simp at h'
theorem HeapA.to {w : World} {F : Nat → Prop} {p : Nat} {mb : Option Nat} {f : Int → Hd} {l : List Ent} {next : Int} (h : HeapA w F p mb f l next) (nx : Int) (hn : I64 nx) : HeapA (w.setCell ⟨p, 1, none⟩ (.int .i64 nx)) F p mb f l nx := by
  refine ⟨h.top.set 1 (.int .i64 nx), h.fp, ?_, fun e he => ⟨(h.cells e he).1.keep fun g hg => set_other _ _ _ _ _ ((h.cells e he).1.ne_top h.top hg), (h.cells e he).2⟩, h.apart, h.sorted, hn⟩
  rcases h.map with h' | ⟨b, D, rfl, hb, ho, hD⟩
  · exact .inl h'
  · refine .inr ⟨b, D, rfl, hb, ho.setCell (a := ⟨p, 1, none⟩) ?_ _, hD⟩
    rintro rfl
    obtain ⟨es, cl, h'⟩ := own_isMap ho
    have := h.top
    unfold Bk at this
    rw [h'] at this
    cases this
set_option maxRecDepth 100000 in
set_option maxHeartbeats 1000000 in
theorem alloc_some (F P : Nat → Prop) (p mb : Nat) (f : Int → Hd) (l : List Ent) (next : Int) (c : Cel) (A B : Option Addr) (n nc m ic : Nat) (w : World) (h : HeapA w F p (some mb) f l next) (hF : ∀ g, F g → g < w.heap.size) (hlast : ∀ e ∈ l, e.1 < next) (h0 : 0 ≤ next) (hnx : next < 4398046511104)
    (hn : c.names.length = n) (hm : c.items.length = m) (hS : SlS w P A c.names) (hV : ValsAt w P B c.items) (hP : ∀ b, P b → b < w.heap.size) (hn' : n ≤ 4398046511104) (hm' : m ≤ 4398046511104) (hs : ∀ s ∈ c.names, s.size ≤ maxLen) (hf : ∀ v ∈ c.items, v.Fits) (hB : Bnds w) (hr : c.right = true) (hl : l.length < 8000) :
    Calls Tryz.prog 32 #[.pointer (some ⟨p, 0, none⟩), celV c (.slice A n nc) (.slice B m ic)] w fun e w' => e = .returned (.tuple #[.int .i64 next, .int .i64 0]) ∧ Hid (∃ f', HeapA w' (New F w.heap.size w'.heap.size) p (some mb) f' (l ++ [(next, c)]) (next + 1) ∧ (∀ i ∈ ids l, f' i = f i) ∧ Frm F w w') := by
  have RC := Lib.hid (right_at P c A B n nc m ic w hn hm hS hV hP hn' hm' hs hf hB hr)
  have H := Lib.hid h
  have HS := Lib.hid hS
  have HV := Lib.hid hV
  have HP := Lib.hid hP
  clear h hS hV hP hs hf hB hr
  have hl' : ((l.length : Int) < 8000) := by omega
  have HLA := Lib.hid hlast
  have HNX := Lib.hid hnx
  clear hlast hnx
  obtain ⟨kind, cls, fn, ten, names, items⟩ := c
  unfold celV at *
  simp only at RC hn hm HS HV ⊢
  have HN := Lib.hid hn
  have HM := Lib.hid hm
  clear hn hm
  go_enter Tryz.func32, Tryz.ntmps32
  go_wp2_with fail
  refine (RC.out _).mono ?_
  rintro e w2 ⟨rfl, hb, hb2⟩
  have K1 := Lib.hid ((Bk.new w _ _).below hb2 (by omega))
  clear hb2
  have k0 := K1.out.cell 0 (.int .i64 kind) rfl
  have k1 := K1.out.cell 1 (.int .i64 cls) rfl
  have k2 := K1.out.cell 2 (.int .i64 fn) rfl
  have k3 := K1.out.cell 3 (.int .i64 ten) rfl
  have k4 := K1.out.cell 4 (.slice A n nc) rfl
  have k5 := K1.out.cell 5 (.slice B m ic) rfl
  have HB := Lib.hid hb
  have H2 := Lib.hid (H.out.low hF hb)
  clear hb RC
  have p0 := H2.out.top.cell 0 (.map (some mb)) rfl
  have p1 := H2.out.top.cell 1 (.int .i64 next) rfl
  have pl := H2.out.top.lt
  have LN := H2.out.map.len
  have OM := run_onemap mb
  go_wp2_with fail
  refine (add_any F P p mb f l next next ⟨kind, cls, fn, ten, names, items⟩ A B n nc m ic w2 H2.out (fun g hg => Nat.lt_of_lt_of_le (hF g hg) HB.out.size) (by have := HNX.out; unfold I64; omega) HLA.out (by omega) HN.out HM.out (HS.out.low HP.out HB.out) (HV.out.low HP.out HB.out) (fun b hb => Nat.lt_of_lt_of_le (HP.out b hb) HB.out.size) hn' hm').mono ?_
  rintro e w3 ⟨rfl, hh⟩
  obtain ⟨f', H3, hk, hfr⟩ := hh.out
  have SZ2 := HB.out.size
  have q1 := H3.top.cell 1 (.int .i64 next) rfl
  have g1 := H3.top.frozen 1
  have FP := H3.fp
  have HX := Lib.hid (show ∃ f', HeapA (w3.setCell ⟨p, 1, none⟩ (.int .i64 (next + 1))) (New F w.heap.size (w3.setCell ⟨p, 1, none⟩ (.int .i64 (next + 1))).heap.size) p (some mb) f' (l ++ [(next, ⟨kind, cls, fn, ten, names, items⟩)]) (next + 1) ∧ (∀ i ∈ ids l, f' i = f i) ∧ Frm F w (w3.setCell ⟨p, 1, none⟩ (.int .i64 (next + 1))) by
    have es : (w3.setCell ⟨p, 1, none⟩ (.int .i64 (next + 1))).heap.size = w3.heap.size := by simp [World.setCell]
    have fp : F p := by
      rcases FP with h | h
      · exact h
      · have := hF p H.out.fp; omega
    refine ⟨f', ?_, hk, ?_⟩
    · rw [es]
      exact (H3.to (next + 1) (by have := HNX.out; unfold I64; omega)).keep fun g hg => ⟨by rcases hg with h | h; exact .inl h; exact .inr ⟨by omega, h.2⟩, rfl⟩
    · refine ((Frm.of_below HB.out).trans (hfr) (fun g _ h => h)).trans (G := F) ⟨rfl, rfl, rfl, by rw [es]; exact Nat.le_refl _, fun k _ hk' => set_other _ _ _ _ _ (fun e : k = p => hk' (e ▸ fp))⟩ (fun g _ h => h))
  have HW : ¬ (9223372036854775807 : Int) < next + 1 := by have := HNX.out; omega
  clear hh H3 hk hfr FP K1 k0 k1 k2 k3 k4 k5 p0 p1 pl LN OM
  go_wp2_with fail
  go_ret2
  exact ⟨rfl, HX⟩
end Go.Proofs.YtkdpcnikgdbmaaaGreatDoor.Hp
namespace Go.Proofs.YtkdpcnikgdbmaaaGreatDoor.Hp
open Go Go.RowKit Go.Maps Va

theorem HeapA.made {w : World} {F : Nat → Prop} {p : Nat} {f : Int → Hd} {next : Int} (h : HeapA w F p none f [] next) :
    HeapA ((w.alloc (.map #[] 0)).setCell ⟨p, 0, none⟩ (.map (some w.heap.size))) (New F w.heap.size (w.heap.size + 1)) p (some w.heap.size) f [] next := by
  have hp := h.top.lt
  refine ⟨(h.top.alloc _).set 0 _, .inl h.fp, .inr ⟨w.heap.size, _, rfl, .inr ⟨Nat.le_refl _, Nat.lt_succ_self _⟩, (World.ownsMap_made w Tryz.prog 3 ptrElem).setCell (a := ⟨p, 0, none⟩) (by simp; omega) _, ?_⟩, (fun e he => by cases he), (fun e he => by cases he), List.Pairwise.nil, h.fits⟩
  exact ⟨fun i _ => by simp [ids, DataW.atKey], fun i _ => by simp [ids, Maps.has], by simp [Maps.size]⟩
set_option maxRecDepth 100000 in
set_option maxHeartbeats 1000000 in
theorem alloc_none (F P : Nat → Prop) (p : Nat) (f : Int → Hd) (next : Int) (c : Cel) (A B : Option Addr) (n nc m ic : Nat) (w : World) (h : HeapA w F p none f [] next) (hF : ∀ g, F g → g < w.heap.size) (h0 : 0 ≤ next) (hnx : next < 4398046511104)
    (hn : c.names.length = n) (hm : c.items.length = m) (hS : SlS w P A c.names) (hV : ValsAt w P B c.items) (hP : ∀ b, P b → b < w.heap.size) (hPF : ∀ b, P b → ¬ F b) (hn' : n ≤ 4398046511104) (hm' : m ≤ 4398046511104) (hs : ∀ s ∈ c.names, s.size ≤ maxLen) (hf : ∀ v ∈ c.items, v.Fits) (hB : Bnds w) (hr : c.right = true) :
    Calls Tryz.prog 32 #[.pointer (some ⟨p, 0, none⟩), celV c (.slice A n nc) (.slice B m ic)] w fun e w' => e = .returned (.tuple #[.int .i64 next, .int .i64 0]) ∧ Hid (∃ f' mb, HeapA w' (New F w.heap.size w'.heap.size) p (some mb) f' [(next, c)] (next + 1) ∧ Frm F w w') := by
  have RC := Lib.hid (right_at P c A B n nc m ic w hn hm hS hV hP hn' hm' hs hf hB hr)
  have H := Lib.hid h
  have HS := Lib.hid hS
  have HV := Lib.hid hV
  have HP := Lib.hid hP
  clear h hS hV hP hs hf hB hr
  have HNX := Lib.hid hnx
  clear hnx
  obtain ⟨kind, cls, fn, ten, names, items⟩ := c
  unfold celV at *
  simp only at RC hn hm HS HV ⊢
  have HN := Lib.hid hn
  have HM := Lib.hid hm
  clear hn hm
  go_enter Tryz.func32, Tryz.ntmps32
  go_wp2_with fail
  refine (RC.out _).mono ?_
  rintro e w2 ⟨rfl, hb, hb2⟩
  have K1 := Lib.hid ((Bk.new w _ _).below hb2 (by omega))
  clear hb2
  have k0 := K1.out.cell 0 (.int .i64 kind) rfl
  have k1 := K1.out.cell 1 (.int .i64 cls) rfl
  have k2 := K1.out.cell 2 (.int .i64 fn) rfl
  have k3 := K1.out.cell 3 (.int .i64 ten) rfl
  have k4 := K1.out.cell 4 (.slice A n nc) rfl
  have k5 := K1.out.cell 5 (.slice B m ic) rfl
  have HB := Lib.hid hb
  have H2 := Lib.hid (H.out.low hF hb)
  clear hb RC
  have p0 := H2.out.top.cell 0 (.map none) rfl
  have p1 := H2.out.top.cell 1 (.int .i64 next) rfl
  have pl := H2.out.top.lt
  have LN := H2.out.map.len
  have OM := run_nilmap
  have hmm := @run_makeMap Tryz.prog
  have PL := hF p H.out.fp
  have KL := K1.out.lt
  have f0 := H2.out.top.frozen 0
  go_wp2_with fail
  have SZ2 := HB.out.size
  have EW := World.setCell_alloc_past (w := w2) (.map #[] 0) p 0 (.map (some w2.heap.size)) pl
  have HM2 := Lib.hid H2.out.made
  have FX := Lib.hid (show Frm F w ((w2.alloc (.map #[] 0)).setCell ⟨p, 0, none⟩ (.map (some w2.heap.size))) from
    (Frm.of_below (HB.out.alloc SZ2 _)).trans (G := F) ⟨rfl, rfl, rfl, by simp [World.setCell], fun k _ hk' => set_other _ _ _ _ _ (fun e : k = p => hk' (e ▸ H.out.fp))⟩ (fun g _ h => h))
  have SZ3 : ((w2.alloc (.map #[] 0)).setCell ⟨p, 0, none⟩ (.map (some w2.heap.size))).heap.size = w2.heap.size + 1 := by simp [World.setCell]
  rw [EW] at HM2 FX SZ3
  clear EW
  generalize ((w2.setCell ⟨p, 0, none⟩ (.map (some w2.heap.size))).alloc (.map #[] 0)) = wm at *
  have HBM := Lib.hid (show Frm F w wm from FX.out)
  have hP2 : ∀ b, P b → b < w.heap.size := HP.out
  refine (add_any (New F w2.heap.size (w2.heap.size + 1)) (fun b => P b) p w2.heap.size f [] next next ⟨kind, cls, fn, ten, names, items⟩ A B n nc m ic wm HM2.out (fun g hg => by rcases hg with h | h; exact Nat.lt_of_lt_of_le (hF g h) (by omega); omega) (by have := HNX.out; unfold I64; omega) (fun e he => by cases he) (by simp) HN.out HM.out (HS.out.keep fun b hb => ⟨hb, FX.out.block b (HP.out b hb) (hPF b hb)⟩) (HV.out.keep fun b hb => ⟨hb, FX.out.block b (HP.out b hb) (hPF b hb)⟩) (fun b hb => by have := hP2 b hb; omega) hn' hm').mono ?_
  rintro e w3 ⟨rfl, hh⟩
  obtain ⟨f', H3, hk, hfr⟩ := hh.out
  have q1 := H3.top.cell 1 (.int .i64 next) rfl
  have g1 := H3.top.frozen 1
  have HX := Lib.hid (show ∃ f' mb, HeapA (w3.setCell ⟨p, 1, none⟩ (.int .i64 (next + 1))) (New F w.heap.size (w3.setCell ⟨p, 1, none⟩ (.int .i64 (next + 1))).heap.size) p (some mb) f' [(next, ⟨kind, cls, fn, ten, names, items⟩)] (next + 1) ∧ Frm F w (w3.setCell ⟨p, 1, none⟩ (.int .i64 (next + 1))) by
    have es : (w3.setCell ⟨p, 1, none⟩ (.int .i64 (next + 1))).heap.size = w3.heap.size := by simp [World.setCell]
    have s3 := hfr.size
    refine ⟨f', w2.heap.size, ?_, ?_⟩
    · rw [es]
      refine (H3.to (next + 1) (by have := HNX.out; unfold I64; omega)).keep fun g hg => ⟨?_, rfl⟩
      rcases hg with (h | h) | h
      · exact .inl h
      · exact .inr ⟨by omega, by omega⟩
      · exact .inr ⟨by omega, h.2⟩
    · refine (FX.out.trans hfr (fun g hg h => ?_)).trans (G := F) ⟨rfl, rfl, rfl, by rw [es]; exact Nat.le_refl _, fun k _ hk' => set_other _ _ _ _ _ (fun e : k = p => hk' (e ▸ H.out.fp))⟩ (fun g _ h => h)
      rcases h with h | h
      · exact h
      · omega)
  have HW : ¬ (9223372036854775807 : Int) < next + 1 := by have := HNX.out; omega
  clear hh H3 hk hfr K1 hP2 HBM HM2 FX k0 k1 k2 k3 k4 k5 p0 p1 pl LN OM hmm f0
  go_wp2_with fail
  go_ret2
  exact ⟨rfl, HX⟩
end Go.Proofs.YtkdpcnikgdbmaaaGreatDoor.Hp
