/-
  Contract of add.
-/
import Derived.Test.YtephblgakkeclaaDoorHg
namespace Go.Proofs.YtephblgakkeclaaDoor.Hp
open Go Go.RowKit Go.Maps Va

theorem ids_snoc (l : List Ent) (e : Ent) : ids (l ++ [e]) = ids l ++ [e.1] := by simp [ids]
theorem own_tight {w : World} {b n : Nat} {D : DataW Unit} (h : w.ownsMap Tryd.prog 3 ptrElem b n D) : w.ownsMap Tryd.prog 3 ptrElem b (Maps.size D) D := by
  obtain ⟨es, clock, hm, F, hs, rfl⟩ := h
  exact ⟨es, clock, hm, F, by simp [Maps.size, length_sorted], rfl⟩
/-- The map with a new key. -/
theorem MapD.put {D : DataW Unit} {l : List Ent} {f : Int → Hd} (h : MapD D l f) (ht : Tidy D) {id : Int} (hid : I64 id) (hn : id ∉ ids l) (c : Cel) (d : Hd) (f' : Int → Hd) (h1 : f' id = d) (h2 : ∀ i ∈ ids l, f' i = f i) :
    MapD (D.put (.int .i64 id) (.lit (.int .i64 d.b))) (l ++ [(id, c)]) f' := by
  have hI := ht.isMap
  refine ⟨fun i hi => ?_, fun i hi => ?_, ?_⟩
  · by_cases e : i = id
    · subst e
      rw [atKey_put_same hI (by trivial), if_pos (by rw [ids_snoc]; simp), h1]
    · rw [atKey_put_other (fun h => e (Lit.int.inj h).2), h.at_ i hi, ids_snoc]
      by_cases hm : i ∈ ids l
      · rw [if_pos hm, if_pos (by simp [hm]), h2 i hm]
      · rw [if_neg hm, if_neg (by simp [hm, e])]
  · by_cases e : i = id
    · subst e
      rw [has_put_same hI (by trivial)]
      simp [ids_snoc]
    · rw [has_put_other (fun h => e (Lit.int.inj h).2), h.has_ i hi, ids_snoc]
      simp [e]
  · rw [size_put ht, if_neg (by rw [h.has_ id hid]; simp [hn]), h.size_]
    simp
theorem row_cells {w : World} {base : Nat} {e : TypeId} {size n : Nat} {v : Value} {xs : List Value} (h : w.ownsRow base e size v n xs) {g : Nat} (hg : v.ownBlock = some g) : base ≤ g ∧ ∃ cur, w.heap[g]? = some (.cells cur e (0, 0)) := by
  rcases h.2 with ⟨rfl, _⟩ | ⟨g', cap, cur, rfl, hb, hc, _⟩
  · cases hg
  · obtain rfl : g' = g := Option.some.inj hg
    exact ⟨hb, cur, hc⟩
theorem CellAt.isCells {w : World} {d : Hd} {c : Cel} (h : CellAt w d c) {g : Nat} (hg : d.has g) : ∃ cur T, w.heap[g]? = some (.cells cur T (0, 0)) := by
  rcases hg with rfl | hg | hg
  · exact ⟨_, _, h.blk⟩
  · obtain ⟨_, cur, h'⟩ := row_cells h.nms hg
    exact ⟨cur, _, h'⟩
  · obtain ⟨_, cur, h'⟩ := row_cells h.its hg
    exact ⟨cur, _, h'⟩
theorem own_isMap {w : World} {b n : Nat} {D : DataW Unit} {R : Value → Option (DataW Unit × List MemPlace)} {k : TypeId} {P : Program} (h : w.ownsMap P k R b n D) : ∃ es clock, w.heap[b]? = some (.map es clock) := by
  obtain ⟨es, clock, hm, _⟩ := h
  exact ⟨es, clock, hm⟩
theorem Hd.lt_of {w : World} {d : Hd} {c : Cel} (h : CellAt w d c) {g : Nat} (hg : d.has g) : g < w.heap.size := by
  obtain ⟨cur, T, h'⟩ := h.isCells hg
  exact (Array.getElem?_eq_some_iff.1 h').1
theorem add_result {F : Nat → Prop} {p mb B0 M l0 : Nat} {f : Int → Hd} {l : List Ent} {next id : Int} {c : Cel} {N I : Value} {w w2 w4 : World} {D0 : DataW Unit} (H2 : HeapA w2 F p (some mb) f l next) (hF : ∀ g, F g → g < w.heap.size) (hid : I64 id) (hlast : ∀ e ∈ l, e.1 < id)
    (hB : Below w.heap.size w w2) (hB0 : w.heap.size ≤ B0) (hO : OwnC w2 B0 M c N I) (hFb : F mb) (hT : Tidy D0) (hD : MapD D0 l f) (hmap : w4.ownsMap Tryd.prog 3 ptrElem mb l0 (D0.put (.int .i64 id) (.lit (.int .i64 w2.heap.size))))
    (hm2 : ∃ es clock, w2.heap[mb]? = some (.map es clock)) (hg : (w2.alloc (.cells (rowC ⟨w2.heap.size, N, I⟩ c) 33)).grownBy w4 (some mb)) :
    ∃ f', HeapA w4 (New F w.heap.size w4.heap.size) p (some mb) f' (l ++ [(id, c)]) next ∧ (∀ i ∈ ids l, f' i = f i) ∧ Frm F w w4 := by
  have hs : w2.heap.size + 1 ≤ w4.heap.size := by have := hg.size; simpa using this
  have hmb := hF mb hFb
  have hsz := hB.size
  have keep : ∀ g, g < w2.heap.size → g ≠ mb → w4.heap[g]? = w2.heap[g]? := fun g hg' hne =>
    (hg.block g (by simp; omega) (fun e => hne (Option.some.inj e))).trans (Below.heap_alloc _ _ _ hg')
  have ne : ∀ {g : Nat} {cur : Array Value} {T : TypeId}, w2.heap[g]? = some (.cells cur T (0, 0)) → g ≠ mb := by
    rintro g cur T h rfl
    obtain ⟨es, cl, h'⟩ := hm2
    rw [h] at h'; cases h'
  have hnid : id ∉ ids l := by
    intro h
    obtain ⟨e, he, rfl⟩ := List.mem_map.1 h
    exact absurd (hlast e he) (by omega)
  have hni : ∀ e ∈ l, e.1 ≠ id := fun e he h => by have := hlast e he; omega
  obtain ⟨hBM, hN, hNM, hI⟩ := hO
  have newC : CellAt w4 ⟨w2.heap.size, N, I⟩ c := by
    refine ⟨?_, ?_, ?_⟩
    · exact (hg.block w2.heap.size (by simp) (fun e => by have := Option.some.inj e; omega)).trans (Bk.new w2 _ _)
    · refine own_mono (own_keep hN fun g h1 h2 => keep g h2 (by omega)) (Nat.zero_le _)
    · refine own_mono (own_keep hI fun g h1 h2 => keep g h2 (by omega)) (Nat.zero_le _)
  have newB : ∀ g, (⟨w2.heap.size, N, I⟩ : Hd).has g → w.heap.size ≤ g ∧ g < w4.heap.size := by
    intro g h
    refine ⟨?_, Hd.lt_of newC h⟩
    rcases h with rfl | h | h
    · exact hsz
    · exact Nat.le_trans hB0 (row_cells hN h).1
    · exact Nat.le_trans hB0 (Nat.le_trans hBM (row_cells hI h).1)
  let f' : Int → Hd := fun i => if i = id then ⟨w2.heap.size, N, I⟩ else f i
  have f1 : f' id = ⟨w2.heap.size, N, I⟩ := if_pos rfl
  have f2 : ∀ i ∈ ids l, f' i = f i := fun i hi => if_neg (fun e : i = id => hnid (e ▸ hi))
  have f3 : ∀ e ∈ l, f' e.1 = f e.1 := fun e he => f2 _ (List.mem_map.2 ⟨e, he, rfl⟩)
  have hD' := hD.put hT hid hnid c ⟨w2.heap.size, N, I⟩ f' f1 f2
  refine ⟨f', ⟨?_, .inl H2.fp, .inr ⟨mb, _, rfl, .inl hFb, ?_, hD'⟩, ?_, ?_, ?_, H2.fits⟩, f2, ?_⟩
  · exact (keep p H2.top.lt (ne H2.top)).trans H2.top
  · have := own_tight hmap
    rw [hD'.size_] at this; exact this
  · intro e he
    rcases List.mem_append.1 he with he | he
    · rw [f3 e he]
      have h := H2.cells e he
      exact ⟨h.1.keep fun g hh => keep g (Hd.lt_of h.1 hh) (by obtain ⟨cur, T, h'⟩ := h.1.isCells hh; exact ne h'), fun g hh => .inl (h.2 g hh)⟩
    · obtain rfl : e = (id, c) := by simpa using he
      rw [f1]
      exact ⟨newC, fun g hh => .inr (newB g hh)⟩
  · intro e he e' he' hne g hg1 hg2
    rcases List.mem_append.1 he with he | he <;> rcases List.mem_append.1 he' with he' | he'
    · rw [f3 e he] at hg1; rw [f3 e' he'] at hg2
      exact H2.apart e he e' he' hne g hg1 hg2
    · obtain rfl : e' = (id, c) := by simpa using he'
      rw [f3 e he] at hg1; rw [f1] at hg2
      have := hF g ((H2.cells e he).2 g hg1); have := (newB g hg2).1; omega
    · obtain rfl : e = (id, c) := by simpa using he
      rw [f3 e' he'] at hg2; rw [f1] at hg1
      have := hF g ((H2.cells e' he').2 g hg2); have := (newB g hg1).1; omega
    · obtain rfl : e = (id, c) := by simpa using he
      obtain rfl : e' = (id, c) := by simpa using he'
      exact hne rfl
  · rw [ids_snoc, List.pairwise_append]
    refine ⟨H2.sorted, by simp, fun a ha b hb => ?_⟩
    obtain rfl : b = id := by simpa using hb
    obtain ⟨e, he, rfl⟩ := List.mem_map.1 ha
    exact hlast e he
  · refine ⟨hg.os.trans hB.os, hg.tape.trans hB.tape, hg.output.trans hB.output, by omega, fun k hk hk' => ?_⟩
    rw [keep k (by omega) (fun e : k = mb => hk' (e ▸ hFb))]
    exact hB.block k hk
end Go.Proofs.YtephblgakkeclaaDoor.Hp
