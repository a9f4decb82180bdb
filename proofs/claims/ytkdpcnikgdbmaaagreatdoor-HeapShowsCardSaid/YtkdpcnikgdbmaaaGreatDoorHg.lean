/-
  The heap as it lies in memory; cell, denoted, number, Next.
-/
import Derived.Test.YtkdpcnikgdbmaaaGreatDoorHf
import Derived.Maps.OwnSet
namespace Go.Proofs.YtkdpcnikgdbmaaaGreatDoor.Hp
open Go Go.RowKit Go.Maps Va

/-- A cell's place: the block of its fields, its two slices. -/
structure Hd where
  b : Nat
  N : Value
  I : Value
def Hd.has (d : Hd) (g : Nat) : Prop := g = d.b ∨ d.N.ownBlock = some g ∨ d.I.ownBlock = some g
def rowC (d : Hd) (c : Cel) : Array Value := #[.int .i64 c.kind, .int .i64 c.cls, .int .i64 c.fn, .int .i64 c.ten, d.N, d.I]
structure CellAt (w : World) (d : Hd) (c : Cel) : Prop where
  blk : Bk w d.b (rowC d c) 46
  nms : w.ownsRow 0 9 1 d.N c.names.length (c.names.map Value.string)
  its : w.ownsRow 0 64 3 d.I c.items.length (flatV c.items)
theorem CellAt.keep {w w' : World} {d : Hd} {c : Cel} (h : CellAt w d c) (hk : ∀ g, d.has g → w'.heap[g]? = w.heap[g]?) : CellAt w' d c := by
  have ow : ∀ {T : TypeId} {k n : Nat} {v : Value} {xs : List Value}, w.ownsRow 0 T k v n xs → (∀ g, v.ownBlock = some g → d.has g) → w'.ownsRow 0 T k v n xs := by
    intro T k n v xs h hd
    refine ⟨h.1, ?_⟩
    rcases h.2 with h' | ⟨g, cap, cur, rfl, hb, hg, h'⟩
    · exact .inl h'
    · exact .inr ⟨g, cap, cur, rfl, hb, by rw [hk g (hd g rfl)]; exact hg, h'⟩
  exact ⟨(hk _ (.inl rfl)).trans h.blk, ow h.nms fun g hg => .inr (.inl hg), ow h.its fun g hg => .inr (.inr hg)⟩
/-- How a pointer to a cell reads: as its block's number. -/
def ptrElem : Value → Option (DataW Unit × List MemPlace)
  | .pointer none => some (.nil, [])
  | .pointer (some ⟨b, 0, none⟩) => some (.lit (.int .i64 b), [])
  | _ => none
theorem ptrElem_nil {v : Value} {ps : List MemPlace} (h : ptrElem v = some (.nil, ps)) : v = .pointer none := by
  unfold ptrElem at h
  split at h <;> simp at h
  rfl
theorem ptrElem_lit {v : Value} {b : Nat} {ps : List MemPlace} (h : ptrElem v = some (.lit (.int .i64 b), ps)) : v = .pointer (some ⟨b, 0, none⟩) := by
  unfold ptrElem at h
  split at h <;> simp at h
  obtain ⟨e, _⟩ := h
  rw [show _ = b from Int.ofNat.inj e]
theorem intLaw : Keyed Tryz.prog 3 := int_keyed Tryz.underlying3
theorem zeroPtr (w : World) : (zeroValue 101).run Tryz.prog w = .ok (.pointer none) w := by kernel_rfl
theorem wfI {n : Int} (h : I64 n) : (Lit.int .i64 n).wf = true := by
  obtain ⟨h1, h2⟩ := h
  have h3 : IntKind.i64.min = -9223372036854775808 := rfl
  have h4 : IntKind.i64.max = 9223372036854775807 := rfl
  simp [Lit.wf, h3, h4, h1, h2]
theorem key_int {id : Int} (h : I64 id) : keyOf Tryz.prog 3 (.int .i64 id) = some (Lit.int .i64 id) :=
  keyOf_int_mk Tryz.underlying3 (wfI h)
abbrev Ent := Int × Cel
def ids (l : List Ent) : List Int := l.map Prod.fst
def ptrOf (l : List Ent) (f : Int → Hd) (id : Int) : Option Addr := if id ∈ ids l then some ⟨(f id).b, 0, none⟩ else none
structure MapD (D : DataW Unit) (l : List Ent) (f : Int → Hd) : Prop where
  at_ : ∀ id, I64 id → D.atKey (.int .i64 id) .nil = if id ∈ ids l then .lit (.int .i64 (f id).b) else .nil
  has_ : ∀ id, I64 id → Maps.has D (.int .i64 id) = decide (id ∈ ids l)
  size_ : Maps.size D = l.length
def MapA (w : World) (F : Nat → Prop) (mb : Option Nat) (l : List Ent) (f : Int → Hd) : Prop :=
  (mb = none ∧ l = []) ∨ ∃ b D, mb = some b ∧ F b ∧ w.ownsMap Tryz.prog 3 ptrElem b l.length D ∧ MapD D l f
/-- The heap at block p, whose blocks are all of F: its cells by increasing ids, where they lie, its next id. -/
structure HeapA (w : World) (F : Nat → Prop) (p : Nat) (mb : Option Nat) (f : Int → Hd) (l : List Ent) (next : Int) : Prop where
  top : Bk w p #[.map mb, .int .i64 next] 99
  fp : F p
  map : MapA w F mb l f
  cells : ∀ e ∈ l, CellAt w (f e.1) e.2 ∧ ∀ g, (f e.1).has g → F g
  apart : ∀ e ∈ l, ∀ e' ∈ l, e.1 ≠ e'.1 → ∀ g, (f e.1).has g → ¬ (f e'.1).has g
  sorted : (ids l).Pairwise (· < ·)
  fits : I64 next
theorem MapA.keep {w w' : World} {F G : Nat → Prop} {mb : Option Nat} {l : List Ent} {f : Int → Hd} (h : MapA w F mb l f) (hk : ∀ g, F g → G g ∧ w'.heap[g]? = w.heap[g]?) : MapA w' G mb l f := by
  rcases h with h | ⟨b, D, rfl, hb, ⟨es, clock, hm, h'⟩, hD⟩
  · exact .inl h
  · exact .inr ⟨b, D, rfl, (hk b hb).1, ⟨es, clock, (hk b hb).2.trans hm, h'⟩, hD⟩
theorem HeapA.keep {w w' : World} {F G : Nat → Prop} {p : Nat} {mb : Option Nat} {f : Int → Hd} {l : List Ent} {next : Int} (h : HeapA w F p mb f l next) (hk : ∀ g, F g → G g ∧ w'.heap[g]? = w.heap[g]?) : HeapA w' G p mb f l next :=
  ⟨(hk p h.fp).2.trans h.top, (hk p h.fp).1, h.map.keep hk, fun e he => ⟨(h.cells e he).1.keep fun g hg => (hk g ((h.cells e he).2 g hg)).2, fun g hg => (hk g ((h.cells e he).2 g hg)).1⟩, h.apart, h.sorted, h.fits⟩
theorem HeapA.low {w w' : World} {F : Nat → Prop} {p : Nat} {mb : Option Nat} {f : Int → Hd} {l : List Ent} {next : Int} (h : HeapA w F p mb f l next) (hF : ∀ g, F g → g < w.heap.size) (hb : Below w.heap.size w w') : HeapA w' F p mb f l next :=
  h.keep fun g hg => ⟨hg, hb.block g (hF g hg)⟩
theorem MapA.look {w : World} {F : Nat → Prop} {mb : Option Nat} {l : List Ent} {f : Int → Hd} (h : MapA w F mb l f) {id : Int} (hid : I64 id) :
    (Instr.lookup 97 (.map mb) (.int .i64 id) false).run Tryz.prog w = .ok (.pointer (ptrOf l f id)) w := by
  rcases h with ⟨rfl, rfl⟩ | ⟨b, D, rfl, hb, ho, hD⟩
  · have := Maps.look_nil false intLaw Tryz.underlying97 (zeroPtr w) (key_int hid)
    simpa [ptrOf, ids] using this
  · obtain ⟨v, ps, hrun, hv⟩ := ho.lookup intLaw Tryz.underlying97 (zeroPtr w) (show ptrElem (.pointer none) = some (.nil, []) from rfl) (key_int hid)
    rw [hD.at_ id hid] at hv
    rw [hrun]
    unfold ptrOf
    split at hv
    · rename_i hm
      rw [if_pos hm, ptrElem_lit hv]
    · rename_i hm
      rw [if_neg hm, ptrElem_nil hv]
theorem number_any (n : Int) (w : World) : Calls Tryz.prog 86 #[.int .i64 n] w fun e w' => e = .returned (.agg #[.int .i64 3, .int .i64 n, .string ⟨#[]⟩]) ∧ Below w.heap.size w w' := by
  go_enter Tryz.func86, Tryz.ntmps86
  go_wp2_with fail
  (try simp only [Exit.inBlock, Exit.then])
  refine bodyPost_ret (v := .agg #[.int .i64 3, .int .i64 n, .string ⟨#[]⟩]) ?_ rfl ?_
  · exact results_cell_row rfl _ _ w.heap.size _ _ (0, 0) _ rfl (heap_alloc_new _ _) Tryz.underlying64 rfl (by kernel_rfl)
  · exact ⟨rfl, (Below.refl _ w).alloc (Nat.le_refl _) _⟩
theorem cell_any (F : Nat → Prop) (p : Nat) (mb : Option Nat) (f : Int → Hd) (l : List Ent) (next id : Int) (w : World) (h : HeapA w F p mb f l next) (hid : I64 id) :
    Calls Tryz.prog 69 #[.pointer (some ⟨p, 0, none⟩), .int .i64 id] w fun e w' => e = .returned (.pointer (ptrOf l f id)) ∧ w = w' := by
  have c0 := h.top.cell 0 _ rfl
  have L := h.map.look hid
  clear h
  go_enter Tryz.func69, Tryz.ntmps69
  go_wp2_with fail
  go_ret
  exact ⟨rfl, rfl⟩
theorem cell_nil (id : Int) (w : World) : Calls Tryz.prog 69 #[.pointer none, .int .i64 id] w fun e w' => e = .returned (.pointer none) ∧ w = w' := by
  go_enter Tryz.func69, Tryz.ntmps69
  go_wp2_with fail
  go_ret
  exact ⟨rfl, rfl⟩
/-- The cell that a value denotes, or nil. -/
def denOf (l : List Ent) (f : Int → Hd) (v : Val) : Option Addr := if v.k = 5 then ptrOf l f v.n else none
theorem denoted_any (F : Nat → Prop) (p : Nat) (mb : Option Nat) (f : Int → Hd) (l : List Ent) (next : Int) (v : Val) (w : World) (hF : ∀ g, F g → g < w.heap.size) (h : HeapA w F p mb f l next) (hid : I64 v.n) :
    Calls Tryz.prog 93 #[.pointer (some ⟨p, 0, none⟩), valV v] w fun e w' => e = .returned (.pointer (denOf l f v)) ∧ Below w.heap.size w w' := by
  obtain ⟨k, n, s⟩ := v
  unfold denOf valV
  simp only at hid ⊢
  by_cases hk : k = 5
  · subst hk
    have C := Lib.hid (fun (o : Obj) => cell_any F p mb f l next n (w.alloc o) (h.low hF ((Below.refl _ w).alloc (Nat.le_refl _) o)) hid)
    clear h
    go_enter Tryz.func93, Tryz.ntmps93
    go_wp2_with fail
    refine (C.out _).mono ?_
    rintro e w' ⟨rfl, rfl⟩
    go_wp2_with fail
    go_ret
    exact ⟨rfl, (Below.refl _ w).alloc (Nat.le_refl _) _⟩
  · have h0 : (k == 5) = false := by simp [hk]
    clear h
    rw [if_neg hk]
    clear hk
    go_enter Tryz.func93, Tryz.ntmps93
    go_wp2_with fail
    go_ret
    exact ⟨rfl, (Below.refl _ w).alloc (Nat.le_refl _) _⟩
theorem denoted_nil (v : Val) (w : World) :
    Calls Tryz.prog 93 #[.pointer none, valV v] w fun e w' => e = .returned (.pointer none) ∧ Below w.heap.size w w' := by
  obtain ⟨k, n, s⟩ := v
  unfold valV
  simp only
  by_cases hk : k = 5
  · subst hk
    go_enter Tryz.func93, Tryz.ntmps93
    go_wp2_with fail
    refine (cell_nil n _).mono ?_
    rintro e w' ⟨rfl, rfl⟩
    go_wp2_with fail
    go_ret
    exact ⟨rfl, (Below.refl _ w).alloc (Nat.le_refl _) _⟩
  · have h0 : (k == 5) = false := by simp [hk]
    clear hk
    go_enter Tryz.func93, Tryz.ntmps93
    go_wp2_with fail
    go_ret
    exact ⟨rfl, (Below.refl _ w).alloc (Nat.le_refl _) _⟩
/-- What may have turned: blocks of F; what was made is new. -/
structure Frm (F : Nat → Prop) (w w' : World) : Prop where
  os : w'.os = w.os
  tape : w'.tape = w.tape
  output : w'.output = w.output
  size : w.heap.size ≤ w'.heap.size
  block : ∀ k, k < w.heap.size → ¬ F k → w'.heap[k]? = w.heap[k]?
theorem Frm.of_below {F : Nat → Prop} {w w' : World} (h : Below w.heap.size w w') : Frm F w w' := ⟨h.os, h.tape, h.output, h.size, fun k hk _ => h.block k hk⟩
theorem Frm.mono {F G : Nat → Prop} {w w' : World} (h : Frm F w w') (hf : ∀ g, g < w.heap.size → F g → G g) : Frm G w w' := ⟨h.os, h.tape, h.output, h.size, fun k hk hg => h.block k hk fun hf' => hg (hf k hk hf')⟩
theorem Frm.trans {F G : Nat → Prop} {a b c : World} (h : Frm F a b) (h' : Frm G b c) (hg : ∀ g, g < a.heap.size → G g → F g) : Frm F a c :=
  ⟨h'.os.trans h.os, h'.tape.trans h.tape, h'.output.trans h.output, Nat.le_trans h.size h'.size, fun k hk hf => (h'.block k (Nat.lt_of_lt_of_le hk h.size) fun hg' => hf (hg k hk hg')).trans (h.block k hk hf)⟩
def New (F : Nat → Prop) (a b : Nat) : Nat → Prop := fun g => F g ∨ (a ≤ g ∧ g < b)
end Go.Proofs.YtkdpcnikgdbmaaaGreatDoor.Hp
