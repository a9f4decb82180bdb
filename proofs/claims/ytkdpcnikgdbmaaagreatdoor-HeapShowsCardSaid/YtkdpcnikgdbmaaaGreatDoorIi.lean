/-
  The calls on a heap of the walk's own.
-/
import Derived.Test.YtkdpcnikgdbmaaaGreatDoorIb
namespace Go.Proofs.YtkdpcnikgdbmaaaGreatDoor.Hp
open Go Go.RowKit Go.Maps Go.Sort Go.Shelf Va

/-- A heap that was made since w0; nothing that lay in w0 has turned. -/
structure St0 (w0 w : World) (F : Nat → Prop) (p : Nat) (mb : Option Nat) (f : Int → Hd) (l : List Ent) (next : Int) : Prop where
  heap : HeapA w F p mb f l next
  own : ∀ g, F g → w0.heap.size ≤ g ∧ g < w.heap.size
  low : Below w0.heap.size w0 w
  bnd : Bnds w0
def St (w0 w : World) (p : Nat) (l : List Ent) (next : Int) : Prop := ∃ F mb f, St0 w0 w F p mb f l next
/-- What the laws ask of a heap's cells. -/
structure Okay (l : List Ent) : Prop where
  ids : ∀ i ∈ ids l, I64 i
  vals : ∀ e ∈ l, ∀ v ∈ e.2.items, v.Fits
  right : ∀ e ∈ l, e.2.right = true
  len : l.length ≤ 8000
theorem St0.bnds {w0 w : World} {F : Nat → Prop} {p : Nat} {mb : Option Nat} {f : Int → Hd} {l : List Ent} {next : Int} (h : St0 w0 w F p mb f l next) : Bnds w := fun i hi => (h.low.cell (p := ⟨_, _, none⟩) h.bnd.size).trans (h.bnd i hi)
theorem St0.fl {w0 w : World} {F : Nat → Prop} {p : Nat} {mb : Option Nat} {f : Int → Hd} {l : List Ent} {next : Int} (h : St0 w0 w F p mb f l next) : ∀ g, F g → g < w.heap.size := fun g hg => (h.own g hg).2
theorem St.down {w0 w w' : World} {p : Nat} {l : List Ent} {next : Int} (h : St w0 w p l next) (hb : Below w.heap.size w w') : St w0 w' p l next := by
  obtain ⟨F, mb, f, h⟩ := h
  exact ⟨F, mb, f, h.heap.low h.fl hb, fun g hg => ⟨(h.own g hg).1, Nat.lt_of_lt_of_le (h.own g hg).2 hb.size⟩, h.low.trans (hb.mono h.low.size), h.bnd⟩
theorem St.below {w0 w : World} {p : Nat} {l : List Ent} {next : Int} (h : St w0 w p l next) : Below w0.heap.size w0 w := by
  obtain ⟨F, mb, f, h⟩ := h
  exact h.low
theorem St.turned {w0 w w' : World} {F : Nat → Prop} {p p' : Nat} {mb mb' : Option Nat} {f f' : Int → Hd} {l l' : List Ent} {next next' : Int} (h : St0 w0 w F p mb f l next) (h' : HeapA w' (New F w.heap.size w'.heap.size) p' mb' f' l' next') (hf : Frm F w w') : St w0 w' p' l' next' := by
  refine ⟨_, _, _, h', fun g hg => ?_, Frm.below_of h.low hf fun g hg => (h.own g hg).1, h.bnd⟩
  have := h.low.size; have := hf.size
  rcases hg with hg | hg
  · have := h.own g hg; omega
  · omega
theorem St.turned0 {w0 w w' : World} {F : Nat → Prop} {p p' : Nat} {mb mb' : Option Nat} {f f' : Int → Hd} {l l' : List Ent} {next next' : Int} (h : St0 w0 w F p mb f l next) (h' : HeapA w' F p' mb' f' l' next') (hf : Frm F w w') : St w0 w' p' l' next' :=
  St.turned h (h'.keep fun _ hg => ⟨.inl hg, rfl⟩) hf
theorem Okay.fit {l : List Ent} (h : Okay l) : ∀ e ∈ l, ∀ v ∈ e.2.items, I64 v.n := fun e he v hv => (h.vals e he v hv).2.1
theorem right_len {c : Cel} (h : c.right = true) : c.items.length ≤ 64 ∧ (c.kind = 4 → ∃ v, c.items = [v]) ∧ (c.kind = 1 → c.names.length = c.items.length) := by
  unfold Cel.right at h
  rw [Bool.and_eq_true] at h
  obtain ⟨_, h⟩ := h
  have st : ∀ l, storB l = true → l.length ≤ 64 := fun l h => by
    unfold storB at h
    simp only [Bool.and_eq_true, decide_eq_true_eq] at h
    exact h.1
  have tg : ∀ l, targB l = true → ∃ v, l = [v] := fun l h => by
    unfold targB at h
    split at h
    · exact ⟨_, rfl⟩
    · cases h
  split at h
  · rename_i hk
    simp only [Bool.and_eq_true] at h
    refine ⟨st _ h.1.2, fun h4 => by omega, fun _ => ?_⟩
    have := (each_iff _ _).1 h.2
    exact this.1
  · split at h
    · simp only [Bool.and_eq_true] at h
      exact ⟨st _ h.1.2, fun h4 => by omega, fun h1 => by omega⟩
    · split at h
      · simp only [Bool.and_eq_true] at h
        exact ⟨st _ h.1.2, fun h4 => by omega, fun h1 => by omega⟩
      · split at h
        · simp only [Bool.and_eq_true] at h
          obtain ⟨v, hv⟩ := tg _ h.1.2
          exact ⟨by rw [hv]; simp, fun _ => ⟨v, hv⟩, fun h1 => by omega⟩
        · cases h
theorem Okay.lens {l : List Ent} (h : Okay l) : ∀ e ∈ l, e.2.items.length ≤ 4398046511104 := fun e he => Nat.le_trans (right_len (h.right e he)).1 (by decide)
theorem Okay.weak {l : List Ent} (h : Okay l) : ∀ e ∈ l, e.2.kind = 4 → ∃ v, e.2.items = [v] ∧ I64 v.n := fun e he h4 => by
  obtain ⟨v, hv⟩ := (right_len (h.right e he)).2.1 h4
  exact ⟨v, hv, h.fit e he v (by rw [hv]; simp)⟩
theorem st_alloc (w0 w1 w : World) (P : Nat → Prop) (p : Nat) (l : List Ent) (next : Int) (c : Cel) (A B : Option Addr) (n nc m ic : Nat) (h : St w0 w1 p l next) (hb : Below w1.heap.size w1 w) (hlast : ∀ e ∈ l, e.1 < next) (h0 : 0 ≤ next) (hnx : next < 4398046511104)
    (hn : c.names.length = n) (hm : c.items.length = m) (hS : SlS w P A c.names) (hV : ValsAt w P B c.items) (hP : ∀ b, P b → w1.heap.size ≤ b ∧ b < w.heap.size) (hn' : n ≤ 4398046511104) (hm' : m ≤ 4398046511104) (hs : ∀ s ∈ c.names, s.size ≤ maxLen) (hf : ∀ v ∈ c.items, v.Fits) (hr : c.right = true) (hl : l.length < 8000) :
    Calls Tryz.prog 32 #[.pointer (some ⟨p, 0, none⟩), celV c (.slice A n nc) (.slice B m ic)] w fun e w' => e = .returned (.tuple #[.int .i64 next, .int .i64 0]) ∧ Hid (St w0 w' p (l ++ [(next, c)]) (next + 1)) := by
  obtain ⟨F, mb, f, h⟩ := h
  have h2 : St0 w0 w F p mb f l next := ⟨h.heap.low h.fl hb, fun g hg => ⟨(h.own g hg).1, Nat.lt_of_lt_of_le (h.own g hg).2 hb.size⟩, h.low.trans (hb.mono h.low.size), h.bnd⟩
  rcases mb with _ | b
  · have e0 : l = [] := by
      rcases h2.heap.map with ⟨_, h⟩ | ⟨b', _, hb, _⟩
      · exact h
      · cases hb
    subst e0
    refine (alloc_none F P p f next c A B n nc m ic w h2.heap h2.fl h0 hnx hn hm hS hV (fun b hb => (hP b hb).2) (fun b hb hF => by have := (h.own b hF).2; have := (hP b hb).1; omega) hn' hm' hs hf h2.bnds hr).mono ?_
    rintro e w' ⟨rfl, hh⟩
    obtain ⟨f', mb', H', hfr⟩ := hh.out
    exact ⟨rfl, Lib.hid (St.turned h2 H' hfr)⟩
  · refine (alloc_some F P p b f l next c A B n nc m ic w h2.heap h2.fl hlast h0 hnx hn hm hS hV (fun b hb => (hP b hb).2) hn' hm' hs hf h2.bnds hr hl).mono ?_
    rintro e w' ⟨rfl, hh⟩
    obtain ⟨f', H', _, hfr⟩ := hh.out
    exact ⟨rfl, Lib.hid (St.turned h2 H' hfr)⟩
theorem st_set_item (w0 w : World) (p : Nat) (l : List Ent) (next : Int) (v x : Val) (nm : ByteArray) (j : Nat) (c0 : Cel) (h : St w0 w p l next) (hid : I64 v.n) (hv : v.k = 5) (hx : x.k ≠ 0) (hm : (v.n, c0) ∈ l) (hk0 : c0.kind = 1) (hl : c0.names.length ≤ 4398046511104) (hp : pos c0.names nm = some j) (hj : j < c0.items.length) :
    Calls Tryz.prog 33 #[.pointer (some ⟨p, 0, none⟩), valV v, .string nm, valV x] w fun e w' => e = .returned (.tuple #[.bool false, .string ⟨#[]⟩]) ∧ Hid (St w0 w' p (setC l v.n (c0.put j x)) next) := by
  obtain ⟨F, mb, f, h⟩ := h
  refine (set_item F p mb f l next v x nm j c0 w h.heap h.fl hid hv hx hm hk0 hl hp hj).mono ?_
  rintro e w' ⟨rfl, hh⟩
  exact ⟨rfl, Lib.hid (St.turned0 h hh.out.1 hh.out.2)⟩
theorem st_set_add (w0 w : World) (p : Nat) (l : List Ent) (next : Int) (v x : Val) (nm : ByteArray) (c0 : Cel) (h : St w0 w p l next) (hid : I64 v.n) (hv : v.k = 5) (hx : x.k ≠ 0) (hm : (v.n, c0) ∈ l) (hk0 : c0.kind = 1) (hl : c0.names.length ≤ 1000) (hp : pos c0.names nm = none)
    (hr : nm.toList.isEmpty = false) (h64 : c0.items.length < 64) :
    Calls Tryz.prog 33 #[.pointer (some ⟨p, 0, none⟩), valV v, .string nm, valV x] w fun e w' => e = .returned (.tuple #[.bool true, .string ⟨#[]⟩]) ∧ Hid (St w0 w' p (setC l v.n ⟨c0.kind, c0.cls, c0.fn, c0.ten, c0.names ++ [nm], c0.items ++ [x]⟩) next) := by
  obtain ⟨F, mb, f, h⟩ := h
  refine (set_add F p mb f l next v x nm c0 w h.heap h.fl hid hv hx hm hk0 hl hp hr h64).mono ?_
  rintro e w' ⟨rfl, hh⟩
  obtain ⟨f', H', _, hfr⟩ := hh.out
  exact ⟨rfl, Lib.hid (St.turned h H' hfr)⟩
theorem st_cell (w0 w : World) (p : Nat) (l : List Ent) (next id : Int) (c : Cel) (h : St w0 w p l next) (hid : I64 id) (hm : (id, c) ∈ l) (hn : c.names.length ≤ 4398046511104) (hi : c.items.length ≤ 4398046511104) :
    Calls Tryz.prog 26 #[.pointer (some ⟨p, 0, none⟩), .int .i64 id] w fun e w' => ∃ D d E e', e = .returned (.tuple #[celV c (.slice D c.names.length d) (.slice E c.items.length e'), .bool true]) ∧ Hid ((∃ b M, w.heap.size ≤ b ∧ OwnC w' b M c (.slice D c.names.length d) (.slice E c.items.length e')) ∧ Below w.heap.size w w') := by
  obtain ⟨F, mb, f, h⟩ := h
  exact get_cell F p mb f l next id c w h.heap h.fl hid hm hn hi
theorem st_getf_bad (w0 w : World) (p : Nat) (l : List Ent) (next : Int) (v : Val) (nm : ByteArray) (h : St w0 w p l next) (hid : I64 v.n) (hu : operF l 1 v [] ≠ ⟨#[]⟩) :
    Calls Tryz.prog 37 #[.pointer (some ⟨p, 0, none⟩), valV v, .string nm] w fun e w' => e = .returned (.tuple #[valV ⟨0, 0, ⟨#[]⟩⟩, .string (operF l 1 v [])]) ∧ Below w.heap.size w w' := by
  obtain ⟨F, mb, f, h⟩ := h
  exact getf_bad F p mb f l next v nm w h.heap h.fl hid hu
theorem st_getf_none (w0 w : World) (p : Nat) (l : List Ent) (next : Int) (v : Val) (nm : ByteArray) (c0 : Cel) (h : St w0 w p l next) (hid : I64 v.n) (hv : v.k = 5) (hm : (v.n, c0) ∈ l) (hk0 : c0.kind = 1) (hl : c0.names.length ≤ 4398046511104) (hp : pos c0.names nm = none) :
    Calls Tryz.prog 37 #[.pointer (some ⟨p, 0, none⟩), valV v, .string nm] w fun e w' => e = .returned (.tuple #[valV ⟨0, 0, ⟨#[]⟩⟩, .string sField]) ∧ Below w.heap.size w w' := by
  obtain ⟨F, mb, f, h⟩ := h
  exact getf_none F p mb f l next v nm c0 w h.heap h.fl hid hv hm hk0 hl hp
theorem own_lit1 {w : World} {b : Nat} {x : Val} (h : Bk w b #[.int .i64 x.k, .int .i64 x.n, .string x.s] 64) : w.ownsRow 0 64 3 (.slice (some ⟨b, 0, none⟩) 1 1) 1 (flatV [x]) :=
  ⟨rfl, .inr ⟨b, 1, _, rfl, Nat.zero_le _, h, Nat.le_refl _, by unfold maxLen; decide, rfl, rfl⟩⟩
theorem St.at0 {w0 w : World} {p : Nat} {l : List Ent} {next : Int} (h : St w0 w p l next) : ∃ F mb f, St0 w0 w F p mb f l next ∧ ∀ w', Below w.heap.size w w' → HeapA w' F p mb f l next ∧ ∀ g, F g → g < w'.heap.size := by
  obtain ⟨F, mb, f, h⟩ := h
  exact ⟨F, mb, f, h, fun w' hb => ⟨h.heap.low h.fl hb, fun g hg => Nat.lt_of_lt_of_le (h.fl g hg) hb.size⟩⟩
theorem st_at_bad (w0 w : World) (p : Nat) (l : List Ent) (next : Int) (v i : Val) (h : St w0 w p l next) (hid : I64 v.n) (hu : operF l 2 v [i] ≠ ⟨#[]⟩) :
    Calls Tryz.prog 38 #[.pointer (some ⟨p, 0, none⟩), valV v, valV i] w fun e w' => e = .returned (.tuple #[valV ⟨0, 0, ⟨#[]⟩⟩, .string (operF l 2 v [i])]) ∧ Below w.heap.size w w' := by
  obtain ⟨F, mb, f, h, hl⟩ := h.at0
  exact at_of_fault p v i _ w (operF_full hu) fun w' hb => elem_bad F p mb f l next v i (.slice none 0 0) [] 0 w' (hl w' hb).1 (hl w' hb).2 hid rfl (World.ownsRow_nil _ _ _ _) (fun g hg => absurd hg (nilBlk g)) (by omega) hu
/-- The fault of an index. -/
def idxF (n : Nat) (i : Val) : ByteArray := if i.k ≠ 3 then sType else if 0 ≤ i.n ∧ i.n < n then ⟨#[]⟩ else sBounds
theorem sBounds_full : sBounds.toList.isEmpty = false := by rw [ByteArray.toList_eq]; rfl
theorem elem_idx (F : Nat → Prop) (p : Nat) (mb : Option Nat) (f : Int → Hd) (l : List Ent) (next : Int) (v i : Val) (O : Value) (o : List Val) (n : Nat) (w : World) (H : HeapA w F p mb f l next) (hF : ∀ g, F g → g < w.heap.size) (hid : I64 v.n) (hn : o.length = n) (hO : w.ownsRow 0 64 3 O n (flatV o)) (hOF : ∀ g, O.ownBlock = some g → ¬ F g) (hl : n ≤ 1000) (c0 : Cel) (hv : v.k = 5) (hm : (v.n, c0) ∈ l) (hk0 : c0.kind = 2) (hu : anyU v (o ++ [i]) = false) (hi : idxF c0.items.length i ≠ ⟨#[]⟩) :
    Calls Tryz.prog 82 #[.pointer (some ⟨p, 0, none⟩), valV v, valV i, O] w fun e w' => e = .returned (.tuple #[.pointer none, .string (idxF c0.items.length i)]) ∧ Hid (Frm (fun g => O.ownBlock = some g) w w') := by
  unfold idxF at hi ⊢
  by_cases h3 : i.k = 3
  · rw [if_neg (by simp [h3])] at hi ⊢
    by_cases hb : 0 ≤ i.n ∧ i.n < c0.items.length
    · rw [if_pos hb] at hi; exact absurd rfl hi
    · rw [if_neg hb]
      by_cases h0 : i.n < 0
      · exact elem_neg F p mb f l next v i O o n w H hF hid hn hO hOF hl c0 hv hm hk0 hu h3 h0
      · exact elem_over F p mb f l next v i O o n w H hF hid hn hO hOF hl c0 hv hm hk0 hu h3 (by omega)
  · rw [if_pos h3]
    exact elem_type F p mb f l next v i O o n w H hF hid hn hO hOF hl c0 hv hm hk0 hu h3
theorem idxF_full {n : Nat} {i : Val} (h : idxF n i ≠ ⟨#[]⟩) : (idxF n i).toList.isEmpty = false := by
  unfold idxF at h ⊢
  split
  · exact sType_full
  · rename_i h3
    rw [if_neg h3] at h
    split
    · rename_i hb; rw [if_pos hb] at h; exact absurd rfl h
    · exact sBounds_full
theorem st_at_idx (w0 w : World) (p : Nat) (l : List Ent) (next : Int) (v i : Val) (c0 : Cel) (h : St w0 w p l next) (hid : I64 v.n) (hv : v.k = 5) (hm : (v.n, c0) ∈ l) (hk0 : c0.kind = 2) (hu : anyU v [i] = false) (hi : idxF c0.items.length i ≠ ⟨#[]⟩) :
    Calls Tryz.prog 38 #[.pointer (some ⟨p, 0, none⟩), valV v, valV i] w fun e w' => e = .returned (.tuple #[valV ⟨0, 0, ⟨#[]⟩⟩, .string (idxF c0.items.length i)]) ∧ Below w.heap.size w w' := by
  obtain ⟨F, mb, f, h, hl⟩ := h.at0
  exact at_of_fault p v i _ w (idxF_full hi) fun w' hb => elem_idx F p mb f l next v i (.slice none 0 0) [] 0 w' (hl w' hb).1 (hl w' hb).2 hid rfl (World.ownsRow_nil _ _ _ _) (fun g hg => absurd hg (nilBlk g)) (by omega) c0 hv hm hk0 hu hi
theorem items_form {w : World} {d : Hd} {c : Cel} (h : CellAt w d c) (h0 : 0 < c.items.length) : ∃ ib jc, d.I = .slice (some ⟨ib, 0, none⟩) c.items.length jc := by
  obtain ⟨g, cap, e, _⟩ := World.ownsRow.form h.its h0
  exact ⟨g, cap, e⟩
theorem st_at_item (w0 w : World) (p : Nat) (l : List Ent) (next : Int) (v i x : Val) (c0 : Cel) (k : Nat) (h : St w0 w p l next) (hid : I64 v.n) (hv : v.k = 5) (hm : (v.n, c0) ∈ l) (hk0 : c0.kind = 2) (h3 : i.k = 3) (hin : i.n = (k : Int)) (hx : c0.items[k]? = some x) :
    Calls Tryz.prog 38 #[.pointer (some ⟨p, 0, none⟩), valV v, valV i] w fun e w' => e = .returned (.tuple #[valV x, .string ⟨#[]⟩]) ∧ Below w.heap.size w w' := by
  obtain ⟨F, mb, f, h, hl⟩ := h.at0
  have hk := (List.getElem?_eq_some_iff.1 hx).1
  have CA := (h.heap.of hm).2
  obtain ⟨ib, jc, hI⟩ := items_form CA (by omega)
  have hits := CA.its
  rw [hI] at hits
  obtain ⟨f0, f1, f2⟩ := flatV_at c0.items k _ hx
  exact at_of_item p ib k v i x w (Hd.lt_of CA (.inr (.inr (by rw [hI]; rfl)))) ((World.ownsRow.cellAt hits (k * 3) (by omega)).trans f0) ((World.ownsRow.cellAt hits (k * 3 + 1) (by omega)).trans f1) ((World.ownsRow.cellAt hits (k * 3 + 2) (by omega)).trans f2)
    fun w' hb => elem_item F p mb f l next v i (.slice none 0 0) [] 0 w' (hl w' hb).1 (hl w' hb).2 hid rfl (World.ownsRow_nil _ _ _ _) (fun g hg => absurd hg (nilBlk g)) (by omega) c0 hv hm hk0 (by unfold anyU; simp [hv, h3]) h3 k hin (by omega) ib jc hI
theorem st_put_idx (w0 w : World) (p : Nat) (l : List Ent) (next : Int) (v i x : Val) (c0 : Cel) (h : St w0 w p l next) (hid : I64 v.n) (hv : v.k = 5) (hm : (v.n, c0) ∈ l) (hk0 : c0.kind = 2) (hu : anyU v [x, i] = false) (hi : idxF c0.items.length i ≠ ⟨#[]⟩) :
    Calls Tryz.prog 48 #[.pointer (some ⟨p, 0, none⟩), valV v, valV i, valV x] w fun e w' => e = .returned (.string (idxF c0.items.length i)) ∧ Below w.heap.size w w' := by
  obtain ⟨F, mb, f, h, hl⟩ := h.at0
  exact put_of_fault p v i x _ w (idxF_full hi) fun w' b hb hwb hbk => elem_idx F p mb f l next v i (.slice (some ⟨b, 0, none⟩) 1 1) [x] 1 w' (hl w' hb).1 (hl w' hb).2 hid rfl (own_lit1 hbk) (fun g hg hF => by have := own_eq hg; have := h.fl g hF; omega) (by omega) c0 hv hm hk0 hu hi
theorem st_put_item (w0 w : World) (p : Nat) (l : List Ent) (next : Int) (v i x : Val) (c0 : Cel) (k : Nat) (h : St w0 w p l next) (hid : I64 v.n) (hv : v.k = 5) (hm : (v.n, c0) ∈ l) (hk0 : c0.kind = 2) (hx : x.k ≠ 0) (h3 : i.k = 3) (hin : i.n = (k : Int)) (hk : k < c0.items.length) :
    Calls Tryz.prog 48 #[.pointer (some ⟨p, 0, none⟩), valV v, valV i, valV x] w fun e w' => e = .returned (.string ⟨#[]⟩) ∧ Hid (St w0 w' p (setC l v.n (c0.put k x)) next) := by
  obtain ⟨F, mb, f, h, hl⟩ := h.at0
  have CA := (h.heap.of hm).2
  obtain ⟨ib, jc, hI⟩ := items_form CA (by omega)
  refine (put_of_item F p ib k c0.items.length jc mb f l next c0 v i x w h.heap h.fl hm hI rfl hk fun w' b hb hwb hbk => elem_item F p mb f l next v i (.slice (some ⟨b, 0, none⟩) 1 1) [x] 1 w' (hl w' hb).1 (hl w' hb).2 hid rfl (own_lit1 hbk) (fun g hg hF => by have := own_eq hg; have := h.fl g hF; omega) (by omega) c0 hv hm hk0 (by unfold anyU; simp [hv, h3, hx]) h3 k hin (by omega) ib jc hI).mono ?_
  rintro e w' ⟨rfl, hh⟩
  exact ⟨rfl, Lib.hid (St.turned0 h hh.out.1 hh.out.2)⟩
theorem st_len (w0 w : World) (p : Nat) (l : List Ent) (next : Int) (v : Val) (c0 : Cel) (h : St w0 w p l next) (hid : I64 v.n) (hv : v.k = 5) (hm : (v.n, c0) ∈ l) (hk0 : c0.kind = 2) :
    Calls Tryz.prog 50 #[.pointer (some ⟨p, 0, none⟩), valV v] w fun e w' => e = .returned (.tuple #[valV ⟨3, c0.items.length, ⟨#[]⟩⟩, .string ⟨#[]⟩]) ∧ Below w.heap.size w w' := by
  obtain ⟨F, mb, f, h⟩ := h
  exact len_cell F p mb f l next v c0 w h.heap h.fl hid hv hm hk0
theorem st_deref (w0 w : World) (p : Nat) (l : List Ent) (next : Int) (v x : Val) (c0 : Cel) (h : St w0 w p l next) (hid : I64 v.n) (hv : v.k = 5) (hm : (v.n, c0) ∈ l) (hk0 : c0.kind = 4) (hx : c0.items = [x]) :
    Calls Tryz.prog 39 #[.pointer (some ⟨p, 0, none⟩), valV v] w fun e w' => e = .returned (.tuple #[valV x, .string ⟨#[]⟩]) ∧ Below w.heap.size w w' := by
  obtain ⟨F, mb, f, h⟩ := h
  exact deref_cell F p mb f l next v x c0 w h.heap h.fl hid hv hm hk0 hx
theorem st_reach (w0 w : World) (P : Nat → Prop) (p : Nat) (l : List Ent) (next : Int) (L : List Val) (A : Option Addr) (n c : Nat) (h : St w0 w p l next) (ok : Okay l) (hn : L.length = n) (hn' : n ≤ 4398046511104) (hL : ∀ v ∈ L, I64 v.n) (hV : ValsAt w P A L) (hP : ∀ b, P b → b < w.heap.size) :
    Calls Tryz.prog 22 #[.pointer (some ⟨p, 0, none⟩), .slice A n c] w fun e w' => ∃ (v : Value) (r : List Int), e = .returned v ∧ Hid (r.Pairwise (· < ·) ∧ (∀ i, i ∈ r ↔ Rea l false L i) ∧ IdsAt w' w.heap.size v r ∧ Below w.heap.size w w') := by
  obtain ⟨F, mb, f, h⟩ := h
  exact reach_any F P p mb f l next L A n c w ok.fit ok.lens (by have := ok.len; omega) ok.ids hn hn' hL h.heap h.fl hV hP
theorem st_keep (w0 w1 w : World) (P : Nat → Prop) (p : Nat) (l : List Ent) (next : Int) (kp : List Int) (A : Option Addr) (n c : Nat) (h : St w0 w1 p l next) (hb : Below w1.heap.size w1 w) (ok : Okay l) (h0 : l ≠ []) (hn : kp.length = n) (hn' : n ≤ 4398046511104) (hg : ∀ i ∈ kp, I64 i) (hA : IntsAt w P A kp) (hP : ∀ g, P g → w1.heap.size ≤ g ∧ g < w.heap.size) :
    Calls Tryz.prog 27 #[.pointer (some ⟨p, 0, none⟩), .slice A n c] w fun e w' => ∃ v, e = .returned v ∧ Hid (IdsAt w' w.heap.size v (goneL kp l) ∧ St w0 w' p (cleanL (goneL kp l) (dropL (goneL kp l) l)) next ∧ ∀ g, w1.heap.size ≤ g → g < w.heap.size → w'.heap[g]? = w.heap[g]?) := by
  obtain ⟨F, mb, f, h⟩ := h
  have h2 : St0 w0 w F p mb f l next := ⟨h.heap.low h.fl hb, fun g hg => ⟨(h.own g hg).1, Nat.lt_of_lt_of_le (h.own g hg).2 hb.size⟩, h.low.trans (hb.mono h.low.size), h.bnd⟩
  rcases mb with _ | b
  · exfalso
    rcases h2.heap.map with ⟨_, h⟩ | ⟨b', _, hb, _⟩
    · exact h0 h
    · cases hb
  · refine (keep_any F P p b f l next kp A n c w h2.heap h2.fl hn hn' hg ok.ids (by have := ok.len; omega) hA (fun g hg => ⟨(hP g hg).2, fun hF => by have := (h.own g hF).2; have := (hP g hg).1; omega⟩) ok.weak).mono ?_
    rintro e w' ⟨v, rfl, hh⟩
    exact ⟨v, rfl, Lib.hid ⟨hh.out.1, St.turned0 h2 hh.out.2.1 hh.out.2.2, fun g hg hg' => hh.out.2.2.block g hg' fun hF => by have := (h.own g hF).2; omega⟩⟩
theorem st_show_weak (w0 w : World) (p : Nat) (l : List Ent) (next : Int) (v : Val) (c0 : Cel) (Cs Ns : Value) (h : St w0 w p l next) (hid : I64 v.n) (hv : v.k = 5) (hm : (v.n, c0) ∈ l) (hk0 : c0.kind = 4) :
    Calls Tryz.prog 29 #[.pointer (some ⟨p, 0, none⟩), Cs, Ns, valV v] w fun e w' => e = .returned (.string sAngled) ∧ Below w.heap.size w w' := by
  obtain ⟨F, mb, f, h⟩ := h
  exact show_weak F p mb f l next v c0 Cs Ns w h.heap h.fl hid hv hm hk0
end Go.Proofs.YtkdpcnikgdbmaaaGreatDoor.Hp
