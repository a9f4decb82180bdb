/-
  A cell of the heap that turns; the place of a name; Get.
-/
import Derived.Test.YtkdpcnikgdbmaaaGreatDoorHo
import Derived.Test.YtkdpcnikgdbmaaaGreatDoorShelf
namespace Go.Proofs.YtkdpcnikgdbmaaaGreatDoor.Hp
open Go Go.RowKit Go.Maps Va

/-- The cells with another one at an id. -/
def setC (l : List Ent) (id : Int) (c : Cel) : List Ent := l.map fun e => if e.1 = id then (id, c) else e
theorem ids_setC (l : List Ent) (id : Int) (c : Cel) : ids (setC l id c) = ids l := by
  unfold ids setC
  rw [List.map_map]
  refine List.map_congr_left fun e _ => ?_
  show (if e.1 = id then (id, c) else e).1 = e.1
  split
  · rename_i h; exact h.symm
  · rfl
theorem mem_setC {l : List Ent} {id : Int} {c : Cel} {e : Ent} (h : e ∈ setC l id c) : e = (id, c) ∨ (e ∈ l ∧ e.1 ≠ id) := by
  obtain ⟨x, hx, rfl⟩ := List.mem_map.1 h
  by_cases hi : x.1 = id
  · rw [if_pos hi]; exact .inl rfl
  · rw [if_neg hi]; exact .inr ⟨hx, hi⟩
theorem own_nblk {w : World} {base : Nat} {e : TypeId} {size n : Nat} {v : Value} {xs : List Value} (h : w.ownsRow base e size v n xs) {g : Nat} (hg : v.ownBlock = some g) : g < w.heap.size := (World.ownsRow.lt h g hg).2
theorem HeapA.turn {w w' : World} {F : Nat → Prop} {p : Nat} {mb : Option Nat} {f : Int → Hd} {l : List Ent} {next id : Int} {c c' : Cel} {d' : Hd} {f' : Int → Hd} (f1 : f' id = d') (f2 : ∀ i, i ≠ id → f' i = f i) (H : HeapA w F p mb f l next) (hF : ∀ g, F g → g < w.heap.size) (hm : (id, c) ∈ l) (hC : CellAt w' d' c') (hb : d'.b = (f id).b)
    (hd : ∀ g, d'.has g → (f id).has g ∨ (w.heap.size ≤ g ∧ g < w'.heap.size)) (hk : ∀ g, g < w.heap.size → ¬ (f id).has g → w'.heap[g]? = w.heap[g]?) :
    HeapA w' (New F w.heap.size w'.heap.size) p mb f' (setC l id c') next := by
  have ci := H.cells _ hm
  have keepF : ∀ g, F g → ¬ (f id).has g → w'.heap[g]? = w.heap[g]? := fun g hg hn => hk g (hF g hg) hn
  refine ⟨?_, .inl H.fp, ?_, ?_, ?_, ?_, H.fits⟩
  · exact (keepF p H.fp (fun h => ci.1.ne_top H.top h rfl)).trans H.top
  · rcases H.map with ⟨rfl, h0⟩ | ⟨b, D, rfl, hFb, ho, hD⟩
    · rw [h0] at hm; cases hm
    · refine .inr ⟨b, D, rfl, .inl hFb, ?_, ?_⟩
      · obtain ⟨es, clock, hmm, h'⟩ := ho
        refine ⟨es, clock, (keepF b hFb fun h => ?_).trans hmm, by simpa [setC] using h'⟩
        obtain ⟨cur, T, h2⟩ := ci.1.isCells h
        rw [h2] at hmm; cases hmm
      · refine ⟨fun i hi => ?_, fun i hi => ?_, by simpa [setC] using hD.size_⟩
        · rw [ids_setC, hD.at_ i hi]
          by_cases e : i = id
          · subst e; rw [f1, hb]
          · rw [f2 i e]
        · rw [ids_setC, hD.has_ i hi]
  · intro e he
    rcases mem_setC he with rfl | ⟨he, hne⟩
    · rw [f1]
      exact ⟨hC, fun g hg => (hd g hg).imp (fun h => ci.2 g h) fun h => h⟩
    · rw [f2 _ hne]
      have ce := H.cells e he
      exact ⟨ce.1.keep fun g hg => keepF g (ce.2 g hg) fun h => H.apart e he _ hm hne g hg h, fun g hg => .inl (ce.2 g hg)⟩
  · intro e he e' he' hne g h1 h2
    rcases mem_setC he with rfl | ⟨he, hn⟩ <;> rcases mem_setC he' with rfl | ⟨he', hn'⟩
    · exact hne rfl
    · rw [f1] at h1; rw [f2 _ hn'] at h2
      rcases hd g h1 with h | h
      · exact H.apart _ hm e' he' (fun e => hn' e.symm) g h h2
      · have := hF g ((H.cells e' he').2 g h2); omega
    · rw [f1] at h2; rw [f2 _ hn] at h1
      rcases hd g h2 with h | h
      · exact H.apart e he _ hm hn g h1 h
      · have := hF g ((H.cells e he).2 g h1); omega
    · rw [f2 _ hn] at h1; rw [f2 _ hn'] at h2
      exact H.apart e he e' he' hne g h1 h2
  · rw [ids_setC]; exact H.sorted
theorem Frm.of_cell {w w' : World} {F : Nat → Prop} {d : Hd} (hF : ∀ g, d.has g → F g) (h1 : w'.os = w.os) (h2 : w'.tape = w.tape) (h3 : w'.output = w.output) (hs : w.heap.size ≤ w'.heap.size) (hk : ∀ g, g < w.heap.size → ¬ d.has g → w'.heap[g]? = w.heap[g]?) : Frm F w w' :=
  ⟨h1, h2, h3, hs, fun k hk' hf => hk k hk' fun h => hf (hF k h)⟩
/-- The place of a name, the first one. -/
def pos : List ByteArray → ByteArray → Option Nat
  | [], _ => none
  | z :: l, x => if z = x then some 0 else (pos l x).map (· + 1)
def posI (l : List ByteArray) (x : ByteArray) : Int := match pos l x with
  | some j => (j : Int)
  | none => -1
theorem idxFrom_pos (x : ByteArray) : ∀ (l : List ByteArray) (i : Nat), Lib.idxFromS l x i = (match pos l x with | some j => ((i + j : Nat) : Int) | none => -1)
  | [], i => rfl
  | z :: l, i => by
    unfold Lib.idxFromS pos
    by_cases h : z = x
    · rw [if_pos h, if_pos h]; rfl
    · rw [if_neg h, if_neg h, idxFrom_pos x l (i + 1)]
      cases pos l x with
      | none => rfl
      | some j => show ((i + 1 + j : Nat) : Int) = ((i + (j + 1) : Nat) : Int); congr 1; omega
theorem idxOf_pos (l : List ByteArray) (x : ByteArray) : Lib.idxOfS l x = posI l x := by
  unfold Lib.idxOfS posI
  rw [idxFrom_pos]
  cases pos l x with
  | none => rfl
  | some j => show ((0 + j : Nat) : Int) = _; rw [Nat.zero_add]
theorem pos_lt {l : List ByteArray} {x : ByteArray} {j : Nat} (h : pos l x = some j) : j < l.length ∧ l[j]? = some x := by
  induction l generalizing j with
  | nil => cases h
  | cons z l ih =>
    unfold pos at h
    split at h
    · rename_i e; obtain rfl := Option.some.inj h; exact ⟨by simp, by simp [e]⟩
    · obtain ⟨k, hk, rfl⟩ := Option.map_eq_some_iff.1 h
      obtain ⟨h1, h2⟩ := ih hk
      exact ⟨by simpa using h1, by simpa using h2⟩
theorem pos_none {l : List ByteArray} {x : ByteArray} (h : pos l x = none) : x ∉ l := by
  induction l with
  | nil => simp
  | cons z l ih =>
    unfold pos at h
    split at h
    · cases h
    · rename_i e
      have := ih (Option.map_eq_none_iff.1 h)
      intro hm
      rcases List.mem_cons.1 hm with rfl | hm
      · exact e rfl
      · exact this hm
theorem SlS.cells {w : World} {P : Nat → Prop} {b o : Nat} {l : List ByteArray} (h : SlS w P (some ⟨b, o, none⟩) l) : ∀ j, j < l.length → w.cell? ⟨b, o + j, none⟩ = some (.string (l.getD j ByteArray.empty)) := by
  intro j hj
  obtain ⟨b', o', e, _, hc⟩ := h j _ (List.getElem?_eq_getElem hj)
  simp only [Option.some.injEq, Addr.mk.injEq, and_true] at e
  obtain ⟨rfl, rfl⟩ := e
  rw [hc, List.getD_eq_getElem?_getD, List.getElem?_eq_getElem hj]; rfl
theorem index_any (P : Nat → Prop) (A : Option Addr) (xs : List ByteArray) (n c : Nat) (x : ByteArray) (w : World) (hn : xs.length = n) (h : SlS w P A xs) (hx : n ≤ 4398046511104) :
    Calls Tryz.prog 81 #[.slice A n c, .string x] w fun e w' => e = .returned (.int .i64 (posI xs x)) ∧ w = w' := by
  subst hn
  rcases Nat.eq_zero_or_pos xs.length with h0 | h0
  · obtain rfl := List.eq_nil_of_length_eq_zero h0
    refine (Tryz.slices_Index_string_empty A c x w).mono ?_
    rintro e w' ⟨rfl, rfl⟩
    exact ⟨by rw [idxOf_pos], rfl⟩
  · obtain ⟨b1, o1, rfl, _⟩ := h 0 _ (List.getElem?_eq_getElem h0)
    refine (Tryz.slices_Index_string b1 o1 xs.length c xs x w (Nat.le_refl _) (by omega) h.cells).mono ?_
    rintro e w' ⟨rfl, rfl⟩
    refine ⟨?_, rfl⟩
    rw [List.take_length, idxOf_pos]
def sField : ByteArray := ⟨#[102, 105, 101, 108, 100]⟩
def sRange : ByteArray := ⟨#[114, 97, 110, 103, 101]⟩
def sBounds : ByteArray := ⟨#[98, 111, 117, 110, 100, 115]⟩
set_option maxHeartbeats 1000000 in
theorem getf_bad (F : Nat → Prop) (p : Nat) (mb : Option Nat) (f : Int → Hd) (l : List Ent) (next : Int) (v : Val) (nm : ByteArray) (w : World) (H : HeapA w F p mb f l next) (hF : ∀ g, F g → g < w.heap.size) (hid : I64 v.n) (hu : operF l 1 v [] ≠ ⟨#[]⟩) :
    Calls Tryz.prog 37 #[.pointer (some ⟨p, 0, none⟩), valV v, .string nm] w fun e w' => e = .returned (.tuple #[valV ⟨0, 0, ⟨#[]⟩⟩, .string (operF l 1 v [])]) ∧ Below w.heap.size w w' := by
  have OP := Lib.hid (fun (w' : World) (hb : Below w.heap.size w w') => oper_bad F (fun _ => False) p mb f l next 1 v none [] 0 0 w' (H.low hF hb) (fun g hg => Nat.lt_of_lt_of_le (hF g hg) hb.size) rfl (nil_vals _ _) (fun b h => h.elim) (by omega) hid hu)
  have hte := operF_full hu
  clear H hF hu
  generalize operF l 1 v [] = flt at *
  unfold valV at *
  go_enter Tryz.func37, Tryz.ntmps37
  go_wp2_with fail
  refine (OP.out _ (by (repeat' (first | exact Below.refl _ _ | refine Below.alloc ?_ (by simp <;> omega) _)))).mono ?_
  rintro e w2 ⟨rfl, hb⟩
  have K2 := Lib.hid (Bk.below (heap_alloc2_new w _ _ : Bk _ _ _ _) hb (by simp))
  have HB := Lib.hid (Below.trans (by (repeat' (first | exact Below.refl _ _ | refine Below.alloc ?_ (by simp <;> omega) _)) : Below w.heap.size w _) (hb.mono (by simp; omega)))
  clear hb OP
  have r0 := K2.out.cell 0 (.int .i64 0) rfl
  have r1 := K2.out.cell 1 (.int .i64 0) rfl
  have r2 := K2.out.cell 2 (.string ⟨#[]⟩) rfl
  have g0 := K2.out.frozen 0
  have g1 := K2.out.frozen 1
  have g2 := K2.out.frozen 2
  go_wp2_with fail
  (try simp only [Exit.inBlock, Exit.then])
  refine bodyPost_ret (v := .tuple #[.agg #[.int .i64 0, .int .i64 0, .string ⟨#[]⟩], .string flt]) ?_ rfl ?_
  · rw [results_cell_tmp rfl]
    go_simp
  · exact ⟨rfl, by (repeat' (first | exact HB.out | refine Below.setCell ?_ (by simp) _))⟩
set_option maxHeartbeats 1000000 in
theorem getf_none (F : Nat → Prop) (p : Nat) (mb : Option Nat) (f : Int → Hd) (l : List Ent) (next : Int) (v : Val) (nm : ByteArray) (c0 : Cel) (w : World) (H : HeapA w F p mb f l next) (hF : ∀ g, F g → g < w.heap.size) (hid : I64 v.n) (hv : v.k = 5) (hm : (v.n, c0) ∈ l) (hk0 : c0.kind = 1) (hl : c0.names.length ≤ 4398046511104) (hp : pos c0.names nm = none) :
    Calls Tryz.prog 37 #[.pointer (some ⟨p, 0, none⟩), valV v, .string nm] w fun e w' => e = .returned (.tuple #[valV ⟨0, 0, ⟨#[]⟩⟩, .string sField]) ∧ Below w.heap.size w w' := by
  have OP := Lib.hid (fun (w' : World) (hb : Below w.heap.size w w') => oper_cell F (fun _ => False) p mb f l next 1 v none [] 0 0 w' (H.low hF hb) (fun g hg => Nat.lt_of_lt_of_le (hF g hg) hb.size) rfl (nil_vals _ _) (fun b h => h.elim) (by omega) hid (by rw [hv]; rfl) c0 hv hm hk0)
  have CA := (H.of hm).2
  have LT := Lib.hid (fun g (hg : (f v.n).has g) => Hd.lt_of CA hg)
  obtain ⟨A, nc, B, ic, e1, e2, hS, -⟩ := CA.rows
  have bk := CA.blk
  unfold rowC at bk
  rw [e1] at bk
  have IX := Lib.hid (fun (w' : World) (hb : Below w.heap.size w w') => index_any (f v.n).has A c0.names c0.names.length nc nm w' rfl (hS.low LT.out hb) hl)
  rw [show posI c0.names nm = -1 by unfold posI; rw [hp]] at IX
  clear H hF hm CA hk0 hv hid e1 e2 hS LT hp
  generalize (f v.n).b = cb at *
  unfold valV at *
  have kl := bk.lt
  have kN := bk.cell 4 (.slice A c0.names.length nc) rfl
  go_enter Tryz.func37, Tryz.ntmps37
  go_wp2_with fail
  refine (OP.out _ (by (repeat' (first | exact Below.refl _ _ | refine Below.alloc ?_ (by simp <;> omega) _)))).mono ?_
  rintro e w2 ⟨rfl, hb⟩
  have K2 := Lib.hid (Bk.below (heap_alloc2_new w _ _ : Bk _ _ _ _) hb (by simp))
  have HB := Lib.hid (Below.trans (by (repeat' (first | exact Below.refl _ _ | refine Below.alloc ?_ (by simp <;> omega) _)) : Below w.heap.size w _) (hb.mono (by simp; omega)))
  clear hb OP
  have yN := (HB.out.cell (p := ⟨cb, 4, none⟩) kl).trans kN
  have r0 := K2.out.cell 0 (.int .i64 0) rfl
  have r1 := K2.out.cell 1 (.int .i64 0) rfl
  have r2 := K2.out.cell 2 (.string ⟨#[]⟩) rfl
  have g0 := K2.out.frozen 0
  have g1 := K2.out.frozen 1
  have g2 := K2.out.frozen 2
  clear kN bk
  go_wp2_with fail
  refine (IX.out _ HB.out).mono ?_
  rintro e w3 ⟨rfl, rfl⟩
  go_wp2_with fail
  (try simp only [Exit.inBlock, Exit.then])
  refine bodyPost_ret (v := .tuple #[.agg #[.int .i64 0, .int .i64 0, .string ⟨#[]⟩], .string sField]) ?_ rfl ?_
  · rw [results_cell_tmp rfl]
    go_simp
    rfl
  · exact ⟨rfl, by (repeat' (first | exact HB.out | refine Below.setCell ?_ (by simp) _))⟩
set_option maxHeartbeats 1000000 in
theorem getf_item (F : Nat → Prop) (p : Nat) (mb : Option Nat) (f : Int → Hd) (l : List Ent) (next : Int) (v x : Val) (nm : ByteArray) (j : Nat) (c0 : Cel) (w : World) (H : HeapA w F p mb f l next) (hF : ∀ g, F g → g < w.heap.size) (hid : I64 v.n) (hv : v.k = 5) (hm : (v.n, c0) ∈ l) (hk0 : c0.kind = 1) (hl : c0.names.length ≤ 4398046511104) (hp : pos c0.names nm = some j) (hx : c0.items[j]? = some x) :
    Calls Tryz.prog 37 #[.pointer (some ⟨p, 0, none⟩), valV v, .string nm] w fun e w' => e = .returned (.tuple #[valV x, .string ⟨#[]⟩]) ∧ Below w.heap.size w w' := by
  have OP := Lib.hid (fun (w' : World) (hb : Below w.heap.size w w') => oper_cell F (fun _ => False) p mb f l next 1 v none [] 0 0 w' (H.low hF hb) (fun g hg => Nat.lt_of_lt_of_le (hF g hg) hb.size) rfl (nil_vals _ _) (fun b h => h.elim) (by omega) hid (by rw [hv]; rfl) c0 hv hm hk0)
  have CA := (H.of hm).2
  have LT := Lib.hid (fun g (hg : (f v.n).has g) => Hd.lt_of CA hg)
  obtain ⟨A, nc, B, ic, e1, e2, hS, hV⟩ := CA.rows
  have hj : (j : Int) < c0.items.length := by have := (List.getElem?_eq_some_iff.1 hx).1; omega
  obtain ⟨b, o, rfl, hb, x0, x1, x2⟩ := hV j x hx
  have bl := LT.out _ hb
  have ho : o = 0 := by
    rcases CA.its.2 with ⟨h, _⟩ | ⟨g, cap, cur, h, _⟩
    · rw [e2] at h; cases h
    · rw [e2] at h; cases h; rfl
  subst ho
  rw [Nat.zero_add] at x0 x1 x2
  have bk := CA.blk
  unfold rowC at bk
  rw [e1, e2] at bk
  have IX := Lib.hid (fun (w' : World) (hb : Below w.heap.size w w') => index_any (f v.n).has A c0.names c0.names.length nc nm w' rfl (hS.low LT.out hb) hl)
  rw [show posI c0.names nm = (j : Int) by unfold posI; rw [hp]] at IX
  clear H hF hm CA hk0 hv hid e1 e2 hS LT hp hV hb hx
  generalize (f v.n).b = cb at *
  unfold valV at *
  have kl := bk.lt
  have kN := bk.cell 4 (.slice A c0.names.length nc) rfl
  have kI := bk.cell 5 (.slice (some ⟨b, 0, none⟩) c0.items.length ic) rfl
  generalize c0.items.length = n at *
  go_enter Tryz.func37, Tryz.ntmps37
  go_wp2_with fail
  refine (OP.out _ (by (repeat' (first | exact Below.refl _ _ | refine Below.alloc ?_ (by simp <;> omega) _)))).mono ?_
  rintro e w2 ⟨rfl, hb⟩
  have K2 := Lib.hid (Bk.below (heap_alloc2_new w _ _ : Bk _ _ _ _) hb (by simp))
  have HB := Lib.hid (Below.trans (by (repeat' (first | exact Below.refl _ _ | refine Below.alloc ?_ (by simp <;> omega) _)) : Below w.heap.size w _) (hb.mono (by simp; omega)))
  clear hb OP
  have yN := (HB.out.cell (p := ⟨cb, 4, none⟩) kl).trans kN
  have yI := (HB.out.cell (p := ⟨cb, 5, none⟩) kl).trans kI
  have y0 := (HB.out.cell (p := ⟨b, j * 3, none⟩) bl).trans x0
  have y1 := (HB.out.cell (p := ⟨b, j * 3 + 1, none⟩) bl).trans x1
  have y2 := (HB.out.cell (p := ⟨b, j * 3 + 2, none⟩) bl).trans x2
  have r0 := K2.out.cell 0 (.int .i64 0) rfl
  have r1 := K2.out.cell 1 (.int .i64 0) rfl
  have r2 := K2.out.cell 2 (.string ⟨#[]⟩) rfl
  have g0 := K2.out.frozen 0
  have g1 := K2.out.frozen 1
  have g2 := K2.out.frozen 2
  clear kN kI bk x0 x1 x2
  go_wp2_with fail
  refine (IX.out _ HB.out).mono ?_
  rintro e w3 ⟨rfl, rfl⟩
  go_wp2_with fail
  (try simp only [Exit.inBlock, Exit.then])
  refine bodyPost_ret (v := .tuple #[.agg #[.int .i64 x.k, .int .i64 x.n, .string x.s], .string ⟨#[]⟩]) ?_ rfl ?_
  · rw [results_cell_tmp rfl]
    go_simp
  · exact ⟨rfl, by (repeat' (first | exact HB.out | refine Below.setCell ?_ (by simp) _))⟩
end Go.Proofs.YtkdpcnikgdbmaaaGreatDoor.Hp
