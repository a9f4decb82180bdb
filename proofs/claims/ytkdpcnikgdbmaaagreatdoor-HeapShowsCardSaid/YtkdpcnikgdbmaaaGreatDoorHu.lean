/-
  Set: refused; a field that there is.
-/
import Derived.Test.YtkdpcnikgdbmaaaGreatDoorHs
import Derived.BigRegion
namespace Go.Proofs.YtkdpcnikgdbmaaaGreatDoor.Hp
open Go Go.RowKit Go.Maps Va

/-- A row of one value. -/
theorem one_vals {w : World} {b : Nat} {x : Val} {T : TypeId} (h : Bk w b #[.int .i64 x.k, .int .i64 x.n, .string x.s] T) (P : Nat → Prop) (hP : P b) : ValsAt w P (some ⟨b, 0, none⟩) [x] := by
  intro j v hj
  rcases j with _ | j
  · obtain rfl : x = v := by simpa using hj
    exact ⟨b, 0, rfl, hP, h.cell 0 _ rfl, h.cell 1 _ rfl, h.cell 2 _ rfl⟩
  · simp at hj
theorem Bk.new3 (w : World) (o o' : Obj) (c : Array Value) (T : TypeId) : Bk (((w.alloc o).alloc o').alloc (.cells c T)) (w.heap.size + 1 + 1) c T := by
  have := Bk.new ((w.alloc o).alloc o') c T
  rwa [World.size_alloc, World.size_alloc] at this
theorem Bk.new2 (w : World) (o : Obj) (c : Array Value) (T : TypeId) : Bk ((w.alloc o).alloc (.cells c T)) (w.heap.size + 1) c T := by
  have := Bk.new (w.alloc o) c T
  rwa [World.size_alloc] at this
theorem below3 (w : World) (a b c : Obj) : Below w.heap.size w (((w.alloc a).alloc b).alloc c) :=
  (((Below.refl _ w).alloc (Nat.le_refl _) a).alloc (by simp) b).alloc (by simp; omega) c
set_option maxHeartbeats 1000000 in
theorem set_bad (F : Nat → Prop) (p : Nat) (mb : Option Nat) (f : Int → Hd) (l : List Ent) (next : Int) (v x : Val) (nm : ByteArray) (w : World) (H : HeapA w F p mb f l next) (hF : ∀ g, F g → g < w.heap.size) (hid : I64 v.n) (hu : operF l 1 v [x] ≠ ⟨#[]⟩) :
    Calls Tryz.prog 33 #[.pointer (some ⟨p, 0, none⟩), valV v, .string nm, valV x] w fun e w' => e = .returned (.tuple #[.bool false, .string (operF l 1 v [x])]) ∧ Below w.heap.size w w' := by
  have OP := Lib.hid (fun (w' : World) (b : Nat) (T : TypeId) (hb : Below w.heap.size w w') (hx : Bk w' b #[.int .i64 x.k, .int .i64 x.n, .string x.s] T) => oper_bad F (fun g => g = b) p mb f l next 1 v (some ⟨b, 0, none⟩) [x] 1 1 w' (H.low hF hb) (fun g hg => Nat.lt_of_lt_of_le (hF g hg) hb.size) rfl (one_vals hx _ rfl) (fun g h => h ▸ hx.lt) (by omega) hid hu)
  have hte := operF_full hu
  clear H hF hu
  generalize operF l 1 v [x] = flt at *
  unfold valV at *
  go_enter Tryz.func33, Tryz.ntmps33
  go_wp2_with fail
  refine (OP.out _ _ _ (below3 _ _ _ _) (Bk.new3 _ _ _ _ _)).mono ?_
  rintro e w2 ⟨rfl, hb⟩
  have HB := Lib.hid ((below3 w _ _ _).trans (hb.mono (by simp; omega)))
  clear hb OP
  go_wp2_with fail
  go_ret2
  exact ⟨rfl, HB.out⟩
theorem flatV_set (x : Val) : ∀ (l : List Val) (j : Nat), flatV (l.set j x) = (((flatV l).set (j * 3) (.int .i64 x.k)).set (j * 3 + 1) (.int .i64 x.n)).set (j * 3 + 2) (.string x.s)
  | [], j => rfl
  | v :: l, 0 => rfl
  | v :: l, j + 1 => by
    have ih := flatV_set x l j
    have e : ∀ (a : Val) (r : List Val), flatV (a :: r) = .int .i64 a.k :: .int .i64 a.n :: .string a.s :: flatV r := fun _ _ => rfl
    rw [List.set_cons_succ, e, e, ih]
    rw [show (j + 1) * 3 = j * 3 + 1 + 1 + 1 by omega, show j * 3 + 1 + 1 + 1 + 1 = (j * 3 + 1) + 1 + 1 + 1 by omega, show j * 3 + 1 + 1 + 1 + 2 = (j * 3 + 2) + 1 + 1 + 1 by omega]
    simp only [List.set_cons_succ]
theorem own_same {w w' : World} {base : Nat} {e : TypeId} {size n : Nat} {v : Value} {xs : List Value} (h : w.ownsRow base e size v n xs) (hk : ∀ g, v.ownBlock = some g → w'.heap[g]? = w.heap[g]?) : w'.ownsRow base e size v n xs := by
  refine ⟨h.1, ?_⟩
  rcases h.2 with h' | ⟨g, cap, cur, e1, hb, hg, h'⟩
  · exact .inl h'
  · exact .inr ⟨g, cap, cur, e1, hb, by rw [hk g (by rw [e1]; rfl)]; exact hg, h'⟩
/-- A cell whose item is another one. -/
def Cel.put (c : Cel) (j : Nat) (x : Val) : Cel := ⟨c.kind, c.cls, c.fn, c.ten, c.names, c.items.set j x⟩
theorem CellAt.put {w : World} {d : Hd} {c : Cel} (h : CellAt w d c) {b n ic : Nat} (hI : d.I = .slice (some ⟨b, 0, none⟩) n ic) (hn : c.items.length = n) (j : Nat) (x : Val) :
    CellAt (((w.setCell ⟨b, j * 3, none⟩ (.int .i64 x.k)).setCell ⟨b, j * 3 + 1, none⟩ (.int .i64 x.n)).setCell ⟨b, j * 3 + 2, none⟩ (.string x.s)) d (c.put j x) ∧
    ∀ g, ¬ d.has g → (((w.setCell ⟨b, j * 3, none⟩ (.int .i64 x.k)).setCell ⟨b, j * 3 + 1, none⟩ (.int .i64 x.n)).setCell ⟨b, j * 3 + 2, none⟩ (.string x.s)).heap[g]? = w.heap[g]? := by
  subst hn
  have hits := h.its
  rw [hI] at hits
  have s1 := (World.ownsRow.stored hits (j * 3) (.int .i64 x.k)).1
  have s2 := (World.ownsRow.stored s1 (j * 3 + 1) (.int .i64 x.n)).1
  have s3 := (World.ownsRow.stored s2 (j * 3 + 2) (.string x.s)).1
  have hb : ∃ cur, w.heap[b]? = some (.cells cur 64 (0, 0)) := (row_cells hits rfl).2
  obtain ⟨cur, hcur⟩ := hb
  have o : ∀ g, g ≠ b → (((w.setCell ⟨b, j * 3, none⟩ (.int .i64 x.k)).setCell ⟨b, j * 3 + 1, none⟩ (.int .i64 x.n)).setCell ⟨b, j * 3 + 2, none⟩ (.string x.s)).heap[g]? = w.heap[g]? := fun g hg => by
    rw [set_other _ _ _ _ g hg, set_other _ _ _ _ g hg, set_other _ _ _ _ g hg]
  refine ⟨⟨?_, ?_, ?_⟩, fun g hg => o g fun e => hg (.inr (.inr (by rw [hI, e]; rfl)))⟩
  · refine (o d.b ?_).trans h.blk
    rintro e
    have := h.blk
    unfold Bk at this
    rw [e, hcur] at this
    simp at this
  · refine own_same h.nms fun g hg => o g ?_
    rintro rfl
    obtain ⟨_, cur', h'⟩ := row_cells h.nms hg
    rw [hcur] at h'
    simp at h'
  · rw [hI]
    show World.ownsRow _ 0 _ 3 _ (c.items.set j x).length (flatV (c.items.set j x))
    rw [flatV_set, List.length_set]
    exact s3
theorem HeapA.inF {w : World} {F : Nat → Prop} {p : Nat} {mb : Option Nat} {f : Int → Hd} {l : List Ent} {next id : Int} {c : Cel} (h : HeapA w F p mb f l next) (hm : (id, c) ∈ l) {g : Nat} (hg : (f id).has g) : F g := (h.cells _ hm).2 g hg
theorem HeapA.drew {w : World} {F : Nat → Prop} {p : Nat} {mb : Option Nat} {f : Int → Hd} {l : List Ent} {next : Int} (h : HeapA w F p mb f l next) : HeapA w.drew F p mb f l next := h.keep fun _ hg => ⟨hg, rfl⟩
theorem Frm.drew {F : Nat → Prop} {w w' : World} (h : Frm F w w') : Frm F w w'.drew := ⟨h.os, h.tape, h.output, h.size, h.block⟩
theorem put_result {w w2 : World} {F : Nat → Prop} {p : Nat} {mb : Option Nat} {f : Int → Hd} {l : List Ent} {next id : Int} {c : Cel} (H : HeapA w F p mb f l next) (hF : ∀ g, F g → g < w.heap.size) (hB : Below w.heap.size w w2) (hm : (id, c) ∈ l) {b n ic : Nat} (hI : (f id).I = .slice (some ⟨b, 0, none⟩) n ic) (hn : c.items.length = n) (j : Nat) (x : Val) :
    HeapA (((w2.setCell ⟨b, j * 3, none⟩ (.int .i64 x.k)).setCell ⟨b, j * 3 + 1, none⟩ (.int .i64 x.n)).setCell ⟨b, j * 3 + 2, none⟩ (.string x.s)) F p mb f (setC l id (c.put j x)) next ∧ Frm F w (((w2.setCell ⟨b, j * 3, none⟩ (.int .i64 x.k)).setCell ⟨b, j * 3 + 1, none⟩ (.int .i64 x.n)).setCell ⟨b, j * 3 + 2, none⟩ (.string x.s)) := by
  have H2 := H.low hF hB
  have hF2 : ∀ g, F g → g < w2.heap.size := fun g hg => Nat.lt_of_lt_of_le (hF g hg) hB.size
  obtain ⟨h1, h2⟩ := (H2.cells _ hm).1.put hI hn j x
  generalize hw : (((w2.setCell ⟨b, j * 3, none⟩ (.int .i64 x.k)).setCell ⟨b, j * 3 + 1, none⟩ (.int .i64 x.n)).setCell ⟨b, j * 3 + 2, none⟩ (.string x.s)) = w' at *
  have hs : w'.heap.size = w2.heap.size := by rw [← hw]; simp [World.setCell]
  have T := HeapA.turn (f' := f) rfl (fun _ _ => rfl) H2 hF2 hm h1 rfl (fun g hg => .inl hg) (fun g _ hg => h2 g hg)
  refine ⟨T.keep fun g hg => ⟨?_, rfl⟩, (Frm.of_below hB).trans (G := F) ⟨by rw [← hw]; rfl, by rw [← hw]; rfl, by rw [← hw]; rfl, by rw [hs]; exact Nat.le_refl _, fun k _ hk => h2 k fun h => hk (H2.inF hm h)⟩ (fun _ _ h => h)⟩
  rcases hg with hg | hg
  · exact hg
  · rw [hs] at hg; omega
set_option maxHeartbeats 1000000 in
theorem set_item (F : Nat → Prop) (p : Nat) (mb : Option Nat) (f : Int → Hd) (l : List Ent) (next : Int) (v x : Val) (nm : ByteArray) (j : Nat) (c0 : Cel) (w : World) (H : HeapA w F p mb f l next) (hF : ∀ g, F g → g < w.heap.size) (hid : I64 v.n) (hv : v.k = 5) (hx : x.k ≠ 0) (hm : (v.n, c0) ∈ l) (hk0 : c0.kind = 1) (hl : c0.names.length ≤ 4398046511104) (hp : pos c0.names nm = some j) (hj : j < c0.items.length) :
    Calls Tryz.prog 33 #[.pointer (some ⟨p, 0, none⟩), valV v, .string nm, valV x] w fun e w' => e = .returned (.tuple #[.bool false, .string ⟨#[]⟩]) ∧ Hid (HeapA w' F p mb f (setC l v.n (c0.put j x)) next ∧ Frm F w w') := by
  have OP := Lib.hid (fun (w' : World) (b : Nat) (T : TypeId) (hb : Below w.heap.size w w') (hx' : Bk w' b #[.int .i64 x.k, .int .i64 x.n, .string x.s] T) => oper_cell F (fun g => g = b) p mb f l next 1 v (some ⟨b, 0, none⟩) [x] 1 1 w' (H.low hF hb) (fun g hg => Nat.lt_of_lt_of_le (hF g hg) hb.size) rfl (one_vals hx' _ rfl) (fun g h => h ▸ hx'.lt) (by omega) hid (by rw [hv]; simp [hx]) c0 hv hm hk0)
  have CA := (H.of hm).2
  have LT := Lib.hid (fun g (hg : (f v.n).has g) => Hd.lt_of CA hg)
  obtain ⟨A, nc, B, ic, e1, e2, hS, hV⟩ := CA.rows
  obtain ⟨b, o, rfl, hb, x0, x1, x2⟩ := hV j _ (List.getElem?_eq_getElem hj)
  have bl := LT.out _ hb
  have ho : o = 0 := by
    rcases CA.its.2 with ⟨h, _⟩ | ⟨g, cap, cur, h, _⟩
    · rw [e2] at h; cases h
    · rw [e2] at h; cases h; rfl
  subst ho
  rw [Nat.zero_add] at x0 x1 x2
  have bk := CA.blk
  unfold rowC at bk
  rw [e1, e2] at bk
  have hI := CA.its
  rw [e2] at hI
  have z0 := World.ownsRow.frozenAt hI (j * 3)
  have z1 := World.ownsRow.frozenAt hI (j * 3 + 1)
  have z2 := World.ownsRow.frozenAt hI (j * 3 + 2)
  have RES := Lib.hid (fun (w' : World) (hb : Below w.heap.size w w') => put_result H hF hb hm e2 rfl j x)
  have IX := Lib.hid (fun (w' : World) (hb : Below w.heap.size w w') => index_any (f v.n).has A c0.names c0.names.length nc nm w' rfl (hS.low LT.out hb) hl)
  rw [show posI c0.names nm = (j : Int) by unfold posI; rw [hp]] at IX
  clear H hF hm CA hk0 hv hid e1 hS LT hp hV hb hx hI e2
  have hji : (j : Int) < c0.items.length := by omega
  generalize (f v.n).b = cb at *
  unfold valV at *
  have kl := bk.lt
  have kN := bk.cell 4 (.slice A c0.names.length nc) rfl
  have kI := bk.cell 5 (.slice (some ⟨b, 0, none⟩) c0.items.length ic) rfl
  generalize c0.items[j] = xo at *
  clear hj
  generalize c0.items.length = n at *
  go_enter Tryz.func33, Tryz.ntmps33
  go_wp2_with fail
  refine (OP.out _ _ _ (below3 _ _ _ _) (Bk.new3 _ _ _ _ _)).mono ?_
  rintro e w2 ⟨rfl, hb⟩
  have K2 := Lib.hid ((Bk.new2 w _ _ _).alloc _ |>.below hb (by simp))
  have HB := Lib.hid ((below3 w _ _ _).trans (hb.mono (by simp; omega)))
  clear hb OP
  have yN := (HB.out.cell (p := ⟨cb, 4, none⟩) kl).trans kN
  have yI := (HB.out.cell (p := ⟨cb, 5, none⟩) kl).trans kI
  have y0 := (HB.out.cell (p := ⟨b, j * 3, none⟩) bl).trans x0
  have y1 := (HB.out.cell (p := ⟨b, j * 3 + 1, none⟩) bl).trans x1
  have y2 := (HB.out.cell (p := ⟨b, j * 3 + 2, none⟩) bl).trans x2
  have r0 := K2.out.cell 0 (.int .i64 x.k) rfl
  have r1 := K2.out.cell 1 (.int .i64 x.n) rfl
  have r2 := K2.out.cell 2 (.string x.s) rfl
  have fz : ∀ i, w2.frozen? ⟨b, i, none⟩ = w.frozen? ⟨b, i, none⟩ := fun i => by simp only [World.frozen?, HB.out.block b bl]
  have g0 := (fz _).trans z0
  have g1 := (fz _).trans z1
  have g2 := (fz _).trans z2
  clear kN kI bk x0 x1 x2 z0 z1 z2 fz
  go_wp2_with fail
  refine (IX.out _ HB.out).mono ?_
  rintro e w3 ⟨rfl, rfl⟩
  go_wp2_with fail
  go_region
  have RX := Lib.hid (show HeapA (((w2.setCell ⟨b, j * 3, none⟩ (.int .i64 x.k)).setCell ⟨b, j * 3 + 1, none⟩ (.int .i64 x.n)).setCell ⟨b, j * 3 + 2, none⟩ (.string x.s)).drew F p mb f (setC l v.n (c0.put j x)) next ∧ Frm F w (((w2.setCell ⟨b, j * 3, none⟩ (.int .i64 x.k)).setCell ⟨b, j * 3 + 1, none⟩ (.int .i64 x.n)).setCell ⟨b, j * 3 + 2, none⟩ (.string x.s)).drew from ⟨(RES.out _ HB.out).1.drew, (RES.out _ HB.out).2.drew⟩)
  clear RES yN yI y0 y1 y2 r0 r1 r2 g0 g1 g2 K2 HB IX
  generalize (((w2.setCell ⟨b, j * 3, none⟩ (.int .i64 x.k)).setCell ⟨b, j * 3 + 1, none⟩ (.int .i64 x.n)).setCell ⟨b, j * 3 + 2, none⟩ (.string x.s)).drew = wz at *
  go_wp2_with fail
  go_ret2
  exact ⟨rfl, RX⟩
end Go.Proofs.YtkdpcnikgdbmaaaGreatDoor.Hp
