/-
  Set: a field that there is not.
-/
import Derived.Test.YtkdpcnikgdbmaaaGreatDoorHu
import Derived.Test.YtkdpcnikgdbmaaaGreatDoorRg
namespace Go.Proofs.YtkdpcnikgdbmaaaGreatDoor.Hp
open Go Go.RowKit Go.Maps Va

set_option maxHeartbeats 1000000 in
theorem set_range (F : Nat → Prop) (p : Nat) (mb : Option Nat) (f : Int → Hd) (l : List Ent) (next : Int) (v x : Val) (nm : ByteArray) (c0 : Cel) (w : World) (H : HeapA w F p mb f l next) (hF : ∀ g, F g → g < w.heap.size) (hid : I64 v.n) (hv : v.k = 5) (hx : x.k ≠ 0) (hm : (v.n, c0) ∈ l) (hk0 : c0.kind = 1) (hl : c0.names.length ≤ 4398046511104) (hp : pos c0.names nm = none)
    (hr : nm.toList.isEmpty = true ∨ (nm.toList.isEmpty = false ∧ 64 ≤ c0.items.length)) :
    Calls Tryz.prog 33 #[.pointer (some ⟨p, 0, none⟩), valV v, .string nm, valV x] w fun e w' => e = .returned (.tuple #[.bool false, .string sRange]) ∧ Below w.heap.size w w' := by
  have OP := Lib.hid (fun (w' : World) (b : Nat) (T : TypeId) (hb : Below w.heap.size w w') (hx' : Bk w' b #[.int .i64 x.k, .int .i64 x.n, .string x.s] T) => oper_cell F (fun g => g = b) p mb f l next 1 v (some ⟨b, 0, none⟩) [x] 1 1 w' (H.low hF hb) (fun g hg => Nat.lt_of_lt_of_le (hF g hg) hb.size) rfl (one_vals hx' _ rfl) (fun g h => h ▸ hx'.lt) (by omega) hid (by rw [hv]; simp [hx]) c0 hv hm hk0)
  have CA := (H.of hm).2
  have LT := Lib.hid (fun g (hg : (f v.n).has g) => Hd.lt_of CA hg)
  obtain ⟨A, nc, B, ic, e1, e2, hS, hV⟩ := CA.rows
  have bk := CA.blk
  unfold rowC at bk
  rw [e1, e2] at bk
  have IX := Lib.hid (fun (w' : World) (hb : Below w.heap.size w w') => index_any (f v.n).has A c0.names c0.names.length nc nm w' rfl (hS.low LT.out hb) hl)
  rw [show posI c0.names nm = -1 by unfold posI; rw [hp]] at IX
  clear H hF hm CA hk0 hv hid e1 hS LT hp hV hx e2
  generalize (f v.n).b = cb at *
  unfold valV at *
  have kl := bk.lt
  have kN := bk.cell 4 (.slice A c0.names.length nc) rfl
  have kI := bk.cell 5 (.slice B c0.items.length ic) rfl
  clear bk
  generalize c0.items.length = n at *
  rcases hr with hr | ⟨hr, h64⟩
  · go_enter Tryz.func33, Tryz.ntmps33
    go_wp2_with fail
    refine (OP.out _ _ _ (below3 _ _ _ _) (Bk.new3 _ _ _ _ _)).mono ?_
    rintro e w2 ⟨rfl, hb⟩
    have HB := Lib.hid ((below3 w _ _ _).trans (hb.mono (by simp; omega)))
    clear hb OP
    have yN := (HB.out.cell (p := ⟨cb, 4, none⟩) kl).trans kN
    have yI := (HB.out.cell (p := ⟨cb, 5, none⟩) kl).trans kI
    clear kN kI
    go_wp2_with fail
    refine (IX.out _ HB.out).mono ?_
    rintro e w3 ⟨rfl, rfl⟩
    go_wp2_with fail
    go_ret2
    exact ⟨rfl, HB.out⟩
  · have h64' : (64 : Int) ≤ n := by omega
    go_enter Tryz.func33, Tryz.ntmps33
    go_wp2_with fail
    refine (OP.out _ _ _ (below3 _ _ _ _) (Bk.new3 _ _ _ _ _)).mono ?_
    rintro e w2 ⟨rfl, hb⟩
    have HB := Lib.hid ((below3 w _ _ _).trans (hb.mono (by simp; omega)))
    clear hb OP
    have yN := (HB.out.cell (p := ⟨cb, 4, none⟩) kl).trans kN
    have yI := (HB.out.cell (p := ⟨cb, 5, none⟩) kl).trans kI
    clear kN kI
    go_wp2_with fail
    refine (IX.out _ HB.out).mono ?_
    rintro e w3 ⟨rfl, rfl⟩
    go_wp2_with fail
    go_ret2
    exact ⟨rfl, HB.out⟩
/-- What a step on a cell keeps. -/
structure CStep (w w' : World) (d d' : Hd) : Prop where
  os : w'.os = w.os
  tape : w'.tape = w.tape
  output : w'.output = w.output
  size : w.heap.size ≤ w'.heap.size
  b : d'.b = d.b
  has : ∀ g, d'.has g → d.has g ∨ (w.heap.size ≤ g ∧ g < w'.heap.size)
  block : ∀ g, g < w.heap.size → ¬ d.has g → w'.heap[g]? = w.heap[g]?
theorem CStep.trans {w w1 w2 : World} {d d1 d2 : Hd} (h : CStep w w1 d d1) (h' : CStep w1 w2 d1 d2) : CStep w w2 d d2 :=
  ⟨h'.os.trans h.os, h'.tape.trans h.tape, h'.output.trans h.output, Nat.le_trans h.size h'.size, h'.b.trans h.b, fun g hg => by
    have := h.size; have := h'.size
    rcases h'.has g hg with h1 | h1
    · rcases h.has g h1 with h2 | h2
      · exact .inl h2
      · exact .inr (by omega)
    · exact .inr (by omega), fun g hg hn => (h'.block g (Nat.lt_of_lt_of_le hg h.size) fun h1 => by
      rcases h.has g h1 with h2 | h2
      · exact hn h2
      · omega).trans (h.block g hg hn)⟩
theorem Bk.grown {w w' : World} {b : Nat} {c : Array Value} {T : TypeId} {row : Option Nat} (h : Bk w b c T) (hg : w.grownBy w' row) (hne : some b ≠ row) : Bk w' b c T := (hg.block b h.lt hne).trans h
theorem Bk.apart {w : World} {b base : Nat} {c : Array Value} {T e : TypeId} {size n : Nat} {v : Value} {xs : List Value} (h : Bk w b c T) (ho : w.ownsRow base e size v n xs) (hT : T ≠ e) : some b ≠ v.ownBlock := fun he => by
  obtain ⟨_, cur, h'⟩ := row_cells ho he.symm
  unfold Bk at h
  rw [h'] at h
  injection h with h
  injection h with _ h2
  exact hT h2.symm
theorem names_step {w w3 : World} {d : Hd} {c : Cel} {o : Obj} {g m cap : Nat} {nm : ByteArray} (h : CellAt w d c) (hg : (w.alloc o).grownBy w3 d.N.ownBlock) (hm : m = c.names.length + 1)
    (hrow : w3.ownsRow 0 9 1 (.slice (some ⟨g, 0, none⟩) m cap) m (c.names.map Value.string ++ [.string nm])) (hat : d.N.ownBlock = some g ∨ g = w.heap.size + 1) :
    CellAt (w3.setCell ⟨d.b, 4, none⟩ (.slice (some ⟨g, 0, none⟩) m cap)) ⟨d.b, .slice (some ⟨g, 0, none⟩) m cap, d.I⟩ ⟨c.kind, c.cls, c.fn, c.ten, c.names ++ [nm], c.items⟩ ∧ CStep w (w3.setCell ⟨d.b, 4, none⟩ (.slice (some ⟨g, 0, none⟩) m cap)) d ⟨d.b, .slice (some ⟨g, 0, none⟩) m cap, d.I⟩ := by
  subst hm
  have hs : w.heap.size + 1 ≤ w3.heap.size := by have := hg.size; simpa using this
  have hs4 : (w3.setCell ⟨d.b, 4, none⟩ (.slice (some ⟨g, 0, none⟩) (c.names.length + 1) cap)).heap.size = w3.heap.size := by simp [World.setCell]
  have keep : ∀ k, k < w.heap.size → some k ≠ d.N.ownBlock → w3.heap[k]? = w.heap[k]? := fun k hk hne =>
    (hg.block k (by simp; omega) hne).trans (Below.heap_alloc _ _ _ hk)
  have bl := h.blk.lt
  have bN : some d.b ≠ d.N.ownBlock := fun e => by
    obtain ⟨_, cur, h'⟩ := row_cells h.nms e.symm
    have := h.blk
    unfold Bk at this
    rw [h'] at this
    simp at this
  have NI : ∀ k, d.I.ownBlock = some k → some k ≠ d.N.ownBlock := fun k hk e => by
    obtain ⟨_, cur, h'⟩ := row_cells h.nms e.symm
    obtain ⟨_, cur', h2⟩ := row_cells h.its hk
    rw [h'] at h2
    simp at h2
  have gl := (World.ownsRow.lt hrow g rfl).2
  have gb : g ≠ d.b := by
    rintro rfl
    rcases hat with e | e
    · exact bN e.symm
    · omega
  refine ⟨⟨?_, ?_, ?_⟩, ⟨hg.os, hg.tape, hg.output, by rw [hs4]; omega, rfl, fun k hk => ?_, fun k hk hn => ?_⟩⟩
  · have h1 : Bk w3 d.b (rowC d c) 46 := (keep d.b bl bN).trans h.blk
    exact h1.set 4 _
  · show World.ownsRow _ 0 _ 1 _ (c.names ++ [nm]).length ((c.names ++ [nm]).map Value.string)
    rw [List.map_append, List.length_append]
    exact own_same hrow fun k hk => set_other _ _ _ _ _ (by cases hk; exact gb)
  · refine own_same h.its fun k hk => (set_other _ _ _ _ _ ?_).trans (keep k (own_nblk h.its hk) (NI k hk))
    rintro rfl
    obtain ⟨_, cur', h2⟩ := row_cells h.its hk
    have := h.blk
    unfold Bk at this
    rw [h2] at this
    simp at this
  · rcases hk with hk | hk | hk
    · exact .inl (.inl hk)
    · have e : g = k := by simpa [Value.ownBlock] using hk
      subst e
      rcases hat with e | e
      · exact .inl (.inr (.inl e))
      · right; rw [hs4]; omega
    · exact .inl (.inr (.inr hk))
  · rw [set_other _ _ _ _ _ (fun e : k = d.b => hn (.inl e))]
    exact keep k hk fun e => hn (.inr (.inl e.symm))
theorem items_step {w w3 : World} {d : Hd} {c : Cel} {o : Obj} {g m cap : Nat} {x : Val} (h : CellAt w d c) (hg : (w.alloc o).grownBy w3 d.I.ownBlock) (hm : m = c.items.length + 1)
    (hrow : w3.ownsRow 0 64 3 (.slice (some ⟨g, 0, none⟩) m cap) m (flatV c.items ++ [.int .i64 x.k, .int .i64 x.n, .string x.s])) (hat : d.I.ownBlock = some g ∨ g = w.heap.size + 1) :
    CellAt (w3.setCell ⟨d.b, 5, none⟩ (.slice (some ⟨g, 0, none⟩) m cap)) ⟨d.b, d.N, .slice (some ⟨g, 0, none⟩) m cap⟩ ⟨c.kind, c.cls, c.fn, c.ten, c.names, c.items ++ [x]⟩ ∧ CStep w (w3.setCell ⟨d.b, 5, none⟩ (.slice (some ⟨g, 0, none⟩) m cap)) d ⟨d.b, d.N, .slice (some ⟨g, 0, none⟩) m cap⟩ := by
  subst hm
  have hs : w.heap.size + 1 ≤ w3.heap.size := by have := hg.size; simpa using this
  have hs4 : (w3.setCell ⟨d.b, 5, none⟩ (.slice (some ⟨g, 0, none⟩) (c.items.length + 1) cap)).heap.size = w3.heap.size := by simp [World.setCell]
  have keep : ∀ k, k < w.heap.size → some k ≠ d.I.ownBlock → w3.heap[k]? = w.heap[k]? := fun k hk hne =>
    (hg.block k (by simp; omega) hne).trans (Below.heap_alloc _ _ _ hk)
  have bl := h.blk.lt
  have bN : some d.b ≠ d.I.ownBlock := fun e => by
    obtain ⟨_, cur, h'⟩ := row_cells h.its e.symm
    have := h.blk
    unfold Bk at this
    rw [h'] at this
    simp at this
  have NI : ∀ k, d.N.ownBlock = some k → some k ≠ d.I.ownBlock := fun k hk e => by
    obtain ⟨_, cur, h'⟩ := row_cells h.its e.symm
    obtain ⟨_, cur', h2⟩ := row_cells h.nms hk
    rw [h'] at h2
    simp at h2
  have gl := (World.ownsRow.lt hrow g rfl).2
  have gb : g ≠ d.b := by
    rintro rfl
    rcases hat with e | e
    · exact bN e.symm
    · omega
  refine ⟨⟨?_, ?_, ?_⟩, ⟨hg.os, hg.tape, hg.output, by rw [hs4]; omega, rfl, fun k hk => ?_, fun k hk hn => ?_⟩⟩
  · have h1 : Bk w3 d.b (rowC d c) 46 := (keep d.b bl bN).trans h.blk
    exact h1.set 5 _
  · refine own_same h.nms fun k hk => (set_other _ _ _ _ _ ?_).trans (keep k (own_nblk h.nms hk) (NI k hk))
    rintro rfl
    obtain ⟨_, cur', h2⟩ := row_cells h.nms hk
    have := h.blk
    unfold Bk at this
    rw [h2] at this
    simp at this
  · show World.ownsRow _ 0 _ 3 _ (c.items ++ [x]).length (flatV (c.items ++ [x]))
    rw [List.length_append, show flatV (c.items ++ [x]) = flatV c.items ++ [.int .i64 x.k, .int .i64 x.n, .string x.s] by simp [flatV]]
    exact own_same hrow fun k hk => set_other _ _ _ _ _ (by cases hk; exact gb)
  · rcases hk with hk | hk | hk
    · exact .inl (.inl hk)
    · exact .inl (.inr (.inl hk))
    · have e : g = k := by simpa [Value.ownBlock] using hk
      subst e
      rcases hat with e | e
      · exact .inl (.inr (.inr e))
      · right; rw [hs4]; omega
  · rw [set_other _ _ _ _ _ (fun e : k = d.b => hn (.inl e))]
    exact keep k hk fun e => hn (.inr (.inr e.symm))
theorem step_result {w w2 w6 : World} {F : Nat → Prop} {p : Nat} {mb : Option Nat} {f : Int → Hd} {l : List Ent} {next id : Int} {c c' : Cel} {d' : Hd} (H : HeapA w F p mb f l next) (hF : ∀ g, F g → g < w.heap.size) (hB : Below w.heap.size w w2) (hm : (id, c) ∈ l) (hC : CellAt w6 d' c') (hs : CStep w2 w6 (f id) d') :
    ∃ f', HeapA w6 (New F w.heap.size w6.heap.size) p mb f' (setC l id c') next ∧ (∀ i, i ≠ id → f' i = f i) ∧ Frm F w w6 := by
  have H2 := H.low hF hB
  have hF2 : ∀ g, F g → g < w2.heap.size := fun g hg => Nat.lt_of_lt_of_le (hF g hg) hB.size
  have f1 : (fun i => if i = id then d' else f i) id = d' := if_pos rfl
  have f2 : ∀ i, i ≠ id → (fun i => if i = id then d' else f i) i = f i := fun i hi => if_neg hi
  refine ⟨_, (HeapA.turn f1 f2 H2 hF2 hm hC hs.b hs.has hs.block).keep fun g hg => ⟨?_, rfl⟩, f2, ?_⟩
  · have := hB.size
    rcases hg with hg | hg
    · exact .inl hg
    · exact .inr (by omega)
  · exact (Frm.of_below hB).trans (G := F) ⟨hs.os, hs.tape, hs.output, hs.size, fun k hk hn => hs.block k hk fun h => hn (H2.inF hm h)⟩ (fun _ _ h => h)
set_option maxRecDepth 100000 in
set_option maxHeartbeats 2000000 in
theorem set_add (F : Nat → Prop) (p : Nat) (mb : Option Nat) (f : Int → Hd) (l : List Ent) (next : Int) (v x : Val) (nm : ByteArray) (c0 : Cel) (w : World) (H : HeapA w F p mb f l next) (hF : ∀ g, F g → g < w.heap.size) (hid : I64 v.n) (hv : v.k = 5) (hx : x.k ≠ 0) (hm : (v.n, c0) ∈ l) (hk0 : c0.kind = 1) (hl : c0.names.length ≤ 1000) (hp : pos c0.names nm = none)
    (hr : nm.toList.isEmpty = false) (h64 : c0.items.length < 64) :
    Calls Tryz.prog 33 #[.pointer (some ⟨p, 0, none⟩), valV v, .string nm, valV x] w fun e w' => e = .returned (.tuple #[.bool true, .string ⟨#[]⟩]) ∧ Hid (∃ f', HeapA w' (New F w.heap.size w'.heap.size) p mb f' (setC l v.n ⟨c0.kind, c0.cls, c0.fn, c0.ten, c0.names ++ [nm], c0.items ++ [x]⟩) next ∧ (∀ i, i ≠ v.n → f' i = f i) ∧ Frm F w w') := by
  have OP := Lib.hid (fun (w' : World) (b : Nat) (T : TypeId) (hb : Below w.heap.size w w') (hx' : Bk w' b #[.int .i64 x.k, .int .i64 x.n, .string x.s] T) => oper_cell F (fun g => g = b) p mb f l next 1 v (some ⟨b, 0, none⟩) [x] 1 1 w' (H.low hF hb) (fun g hg => Nat.lt_of_lt_of_le (hF g hg) hb.size) rfl (one_vals hx' _ rfl) (fun g h => h ▸ hx'.lt) (by omega) hid (by rw [hv]; simp [hx]) c0 hv hm hk0)
  have CA := (H.of hm).2
  have LT := Lib.hid (fun g (hg : (f v.n).has g) => Hd.lt_of CA hg)
  have KEEP := Lib.hid (fun (w' : World) (hb : Below w.heap.size w w') => CA.keep (w' := w') fun g hg => hb.block g (LT.out g hg))
  obtain ⟨A, nc, B, ic, e1, e2, hS, -⟩ := CA.rows
  have IX := Lib.hid (fun (w' : World) (hb : Below w.heap.size w w') => index_any (f v.n).has A c0.names c0.names.length nc nm w' rfl (hS.low LT.out hb) (by omega))
  rw [show posI c0.names nm = -1 by unfold posI; rw [hp]] at IX
  have RES := Lib.hid (fun (w2 w6 : World) (d' : Hd) (c' : Cel) (hB : Below w.heap.size w w2) (hC : CellAt w6 d' c') (hs : CStep w2 w6 (f v.n) d') => step_result H hF hB hm hC hs)
  clear hS hp hx hv hk0 H hF hm CA
  generalize f v.n = d at *
  obtain ⟨cb, NV, IV⟩ := d
  simp only at e1 e2
  subst e1 e2
  obtain ⟨kind, cls, fn, ten, names, items⟩ := c0
  unfold valV at *
  simp only at *
  have hni : (items.length : Int) < 64 := by omega
  obtain ⟨i0, hi0, hz0, hz1, hz2⟩ := info_parts infoS
  obtain ⟨j0, hj0, hy0, hy1, hy2⟩ := info_parts infoV
  go_enter Tryz.func33, Tryz.ntmps33
  go_wp2_with fail
  refine (OP.out _ _ _ (below3 _ _ _ _) (Bk.new3 _ _ _ _ _)).mono ?_
  rintro e w2 ⟨rfl, hb⟩
  have K2 := Lib.hid ((Bk.new2 w _ _ _).alloc _ |>.below hb (by simp))
  have HB := Lib.hid ((below3 w _ _ _).trans (hb.mono (by simp; omega)))
  have S2 := hb.size
  simp only [World.size_alloc] at S2
  clear hb OP
  have C2 := Lib.hid (KEEP.out _ HB.out)
  have BK := C2.out.blk
  unfold rowC at BK
  simp only at BK
  have yN := BK.cell 4 (.slice A names.length nc) rfl
  have yI := BK.cell 5 (.slice B items.length ic) rfl
  clear BK KEEP
  go_wp2_with fail
  refine (IX.out _ HB.out).mono ?_
  rintro e w3 ⟨rfl, rfl⟩
  clear IX
  go_wp2_with (at_builtin; refine wpList_append_lies _ rfl _ _ 43 rfl 0 9 i0 _ 1 16 Tryz.underlying43 hi0 hz0 hz1 hz2 rfl (by decide) _ _ _ rfl (C2.out.nms.alloc _) ⟨w2.heap.size, 0, none⟩ 1 1 [.string nm] rfl rfl (cell_one_new _ _ _) ?qa1 (by decide) ?qa2 ?qa3 (Nat.zero_le _) _ rfl ?_)
  case qa1 => simp [Value.oneCell']
  case qa2 => unfold maxLen; omega
  case qa3 => omega
  intro g1 cap1 w3 hown hgrow hat hlt
  have BK := C2.out.blk
  unfold rowC at BK
  simp only at BK
  have BK3 := Lib.hid ((BK.alloc (.cells #[.string nm] 9)).grown hgrow (Bk.apart BK C2.out.nms (by decide)))
  have K3 := Lib.hid ((K2.out.alloc (.cells #[.string nm] 9)).grown hgrow (fun e => by have := LT.out _ (.inr (.inl e.symm)); omega))
  have N3 := Lib.hid (names_step C2.out hgrow rfl hown (by simpa using hat))
  clear hown hgrow hat hlt BK
  have y4 := BK3.out.cell 4 (.slice A names.length nc) rfl
  have f4 := BK3.out.frozen 4
  have BK4 := Lib.hid N3.out.1.blk
  have K4 := Lib.hid (show Bk (w3.setCell ⟨cb, 4, none⟩ (.slice (some ⟨g1, 0, none⟩) (names.length + 1) cap1)) (w.heap.size + 1) _ _ from (set_other _ _ _ _ _ (by have := LT.out cb (.inl rfl); omega)).trans K3.out)
  have y5 := BK4.out.cell 5 (.slice B items.length ic) rfl
  have r0 := K4.out.cell 0 (.int .i64 x.k) rfl
  have r1 := K4.out.cell 1 (.int .i64 x.n) rfl
  have r2 := K4.out.cell 2 (.string x.s) rfl
  have S4 := N3.out.2.size
  clear BK3 K3
  have hmx : Tryz.prog.follows .mixedOrders = true := by kernel_rfl
  go_wp2_with fail
  have S1 := Lib.hid (show (fun v : World => v.cell? ⟨cb, 5, none⟩ = some (.slice B items.length ic) ∧ v.cell? ⟨w.heap.size + 1, 0, none⟩ = some (.int .i64 x.k) ∧ v.cell? ⟨w.heap.size + 1, 1, none⟩ = some (.int .i64 x.n) ∧ v.cell? ⟨w.heap.size + 1, 2, none⟩ = some (.string x.s)) (w3.setCell ⟨cb, 4, none⟩ (.slice (some ⟨g1, 0, none⟩) (names.length + 1) cap1)) from ⟨y5, r0, r1, r2⟩)
  clear y4 f4 y5 r0 r1 r2
  generalize (w3.setCell ⟨cb, 4, none⟩ (.slice (some ⟨g1, 0, none⟩) (names.length + 1) cap1)) = w4 at *
  refine region_plainX (fun v => v.cell? ⟨cb, 5, none⟩ = some (.slice B items.length ic) ∧ v.cell? ⟨w.heap.size + 1, 0, none⟩ = some (.int .i64 x.k) ∧ v.cell? ⟨w.heap.size + 1, 1, none⟩ = some (.int .i64 x.n) ∧ v.cell? ⟨w.heap.size + 1, 2, none⟩ = some (.string x.s)) [10] hmx ?_
  refine anyEx_take (i := 0) (u := ?_) rfl (by kernel_rfl) (by kernel_rfl) (by kernel_rfl) (by kernel_rfl) (by kernel_rfl) (fun _ _ _ h => h) (.inl ⟨by kernel_rfl, fun v hS => ?_⟩) S1.out ?_
  rotate_left
  · obtain ⟨h0, h1, h2, h3⟩ := hS
    go_simp
    with_reducible rfl
  refine anyEx_take (i := 1) (u := ?_) rfl (by kernel_rfl) (by kernel_rfl) (by kernel_rfl) (by kernel_rfl) (by kernel_rfl) (fun _ _ _ h => h) (.inl ⟨by kernel_rfl, fun v hS => ?_⟩) S1.out ?_
  rotate_left
  · obtain ⟨h0, h1, h2, h3⟩ := hS
    go_simp
    with_reducible rfl
  refine anyEx_take (i := 2) (u := ?_) rfl (by kernel_rfl) (by kernel_rfl) (by kernel_rfl) (by kernel_rfl) (by kernel_rfl) (fun _ _ _ h => h) (.inl ⟨by kernel_rfl, fun v hS => ?_⟩) S1.out ?_
  rotate_left
  · obtain ⟨h0, h1, h2, h3⟩ := hS
    go_simp
    with_reducible rfl
  refine anyEx_take (i := 3) (u := ?_) rfl (by kernel_rfl) (by kernel_rfl) (by kernel_rfl) (by kernel_rfl) (by kernel_rfl) (fun _ _ _ h => h) (.inl ⟨by kernel_rfl, fun v hS => ?_⟩) S1.out ?_
  rotate_left
  · obtain ⟨h0, h1, h2, h3⟩ := hS
    go_simp
    with_reducible rfl
  refine anyEx_take (i := 4) (u := ?_) rfl (by kernel_rfl) (by kernel_rfl) (by kernel_rfl) (by kernel_rfl) (by kernel_rfl) (fun _ _ _ h => h) (.inl ⟨by kernel_rfl, fun v hS => ?_⟩) S1.out ?_
  rotate_left
  · obtain ⟨h0, h1, h2, h3⟩ := hS
    go_simp
    with_reducible rfl
  refine anyEx_take (i := 5) (u := ?_) rfl (by kernel_rfl) (by kernel_rfl) (by kernel_rfl) (by kernel_rfl) (by kernel_rfl) (fun _ _ _ h => h) (.inl ⟨by kernel_rfl, fun v hS => ?_⟩) S1.out ?_
  rotate_left
  · obtain ⟨h0, h1, h2, h3⟩ := hS
    go_simp
    with_reducible rfl
  have BA := Lib.hid ((Below.refl _ w4).alloc (Nat.le_refl _) (.cells #[.int .i64 x.k, .int .i64 x.n, .string x.s] 64))
  have c4 : cb < w4.heap.size := BK4.out.lt
  have x4 : w.heap.size + 1 < w4.heap.size := K4.out.lt
  have S2' := Lib.hid (show (fun v : World => v.cell? ⟨cb, 5, none⟩ = some (.slice B items.length ic) ∧ v.cell? ⟨w.heap.size + 1, 0, none⟩ = some (.int .i64 x.k) ∧ v.cell? ⟨w.heap.size + 1, 1, none⟩ = some (.int .i64 x.n) ∧ v.cell? ⟨w.heap.size + 1, 2, none⟩ = some (.string x.s)) (w4.alloc (.cells #[.int .i64 x.k, .int .i64 x.n, .string x.s] 64)) from ⟨(BA.out.cell (p := ⟨_, _, none⟩) c4).trans S1.out.1, (BA.out.cell (p := ⟨_, _, none⟩) x4).trans S1.out.2.1, (BA.out.cell (p := ⟨_, _, none⟩) x4).trans S1.out.2.2.1, (BA.out.cell (p := ⟨_, _, none⟩) x4).trans S1.out.2.2.2⟩)
  refine anyEx_one 6 rfl (by kernel_rfl) (by kernel_rfl) ?_
  go_simp
  refine ⟨by first | exact S1.out | exact S2'.out | exact .inr S2'.out, ?_⟩
  refine anyEx_one 7 rfl (by kernel_rfl) (by kernel_rfl) ?_
  refine wp_append_lies _ _ _ 44 rfl 0 64 j0 _ 3 32 Tryz.underlying44 hj0 hy0 hy1 hy2 rfl (by decide) (.slice B items.length ic) items.length _ rfl (N3.out.1.its.alloc _).drew ⟨w4.heap.size, 0, none⟩ 1 1 [.int .i64 x.k, .int .i64 x.n, .string x.s] rfl rfl (World.news_of_block (w := (w4.alloc (.cells #[.int .i64 x.k, .int .i64 x.n, .string x.s] 64)).drew) (cs := #[.int .i64 x.k, .int .i64 x.n, .string x.s]) (t := 64) (fr := (0, 0)) (heap_alloc_new _ _)) (by simp [Value.oneCell']) (by decide) (by unfold maxLen; omega) (by omega) (Nat.zero_le _) (w4.heap.size + 1) (by simp [World.drew]) ?_
  intro g2 cap2 w5 o5 g5 h5 h5l
  have G5 : (w4.alloc (.cells #[.int .i64 x.k, .int .i64 x.n, .string x.s] 64)).grownBy w5 (Value.slice B items.length ic).ownBlock := ⟨g5.os, g5.tape, g5.output, g5.size, g5.block⟩
  have I3 := Lib.hid (items_step N3.out.1 G5 rfl o5 h5)
  have BK5 := Lib.hid ((BK4.out.alloc (.cells #[.int .i64 x.k, .int .i64 x.n, .string x.s] 64)).grown G5 (Bk.apart BK4.out N3.out.1.its (by decide)))
  have K5 := Lib.hid ((K4.out.alloc (.cells #[.int .i64 x.k, .int .i64 x.n, .string x.s] 64)).grown G5 (fun e => by have := LT.out _ (.inr (.inr e.symm)); omega))
  have S3 := Lib.hid (show (fun v : World => v.cell? ⟨cb, 5, none⟩ = some (.slice B items.length ic) ∧ v.cell? ⟨w.heap.size + 1, 0, none⟩ = some (.int .i64 x.k) ∧ v.cell? ⟨w.heap.size + 1, 1, none⟩ = some (.int .i64 x.n) ∧ v.cell? ⟨w.heap.size + 1, 2, none⟩ = some (.string x.s)) w5 from ⟨BK5.out.cell 5 _ rfl, K5.out.cell 0 _ rfl, K5.out.cell 1 _ rfl, K5.out.cell 2 _ rfl⟩)
  have y6 := BK5.out.cell 5 (.slice B items.length ic) rfl
  have f6 := BK5.out.frozen 5
  have RX := Lib.hid (RES.out w2 _ _ _ HB.out I3.out.1 (N3.out.2.trans I3.out.2))
  clear o5 g5 h5 h5l G5 I3 BA S2' S1 N3 BK4 K4 RES C2 K2
  refine ⟨.inr S3.out, ?_⟩
  refine anyEx_take (i := 8) (u := ?_) rfl (by kernel_rfl) (by kernel_rfl) (by kernel_rfl) (by kernel_rfl) (by kernel_rfl) (fun _ _ _ h => h) (.inl ⟨by kernel_rfl, fun v hS => ?_⟩) S3.out ?_
  rotate_left
  · obtain ⟨h0, h1, h2, h3⟩ := hS
    go_simp
    with_reducible rfl
  refine anyEx_take (i := 9) (u := ?_) rfl (by kernel_rfl) (by kernel_rfl) (by kernel_rfl) (by kernel_rfl) (by kernel_rfl) (fun _ _ _ h => h) (.inl ⟨by kernel_rfl, fun v hS => ?_⟩) S3.out ?_
  rotate_left
  · obtain ⟨h0, h1, h2, h3⟩ := hS
    go_simp
    with_reducible rfl
  refine anyEx_one 10 rfl (by kernel_rfl) (by kernel_rfl) ?_
  go_simp
  refine ⟨by kernel_rfl, ?_⟩
  clear S3 y6 f6 BK5 K5
  generalize w5.setCell ⟨cb, 5, none⟩ (.slice (some ⟨g2, 0, none⟩) (items.length + 1) cap2) = wz at *
  go_wp2_with fail
  go_ret2
  exact ⟨rfl, RX⟩
end Go.Proofs.YtkdpcnikgdbmaaaGreatDoor.Hp
