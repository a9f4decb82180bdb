/-
  The landed profile in memory: its map of places, its loops, its decisions.
-/
import Derived.Test.YtjoffbgfokedlaaDoorPk
import Derived.Maps.OwnSet
import Derived.Maps.OwnOps
import Derived.DeepKeys4
import Derived.Lib.LaidTab
import Derived.Lib.AppendIntMem
namespace Go.Proofs.YtjoffbgfokedlaaDoor.Pf
open Go Go.RowKit Go.Maps

def keyL (a : Plc) : Lit := .string (keyBytes [.int .i64 a.1, .int .i64 a.2])
theorem laidOutP : laidOutB Tryd.prog = true := by kernel_rfl
theorem keyRow : (43 : TypeId) < Tryd.prog.types.size := of_decide_eq_true (by kernel_rfl)
theorem keyDeep : Tryd.prog.keyType 43 = true := by kernel_rfl
theorem keyWide : (match Tryd.prog.underlying 43 with | some (.array _ _) | some (.struct _) => true | _ => false) = true := by kernel_rfl
theorem keyCells : Tryd.prog.cellsOf 43 = 2 := by kernel_rfl
theorem cells3 : Tryd.prog.cellsOf 3 = 1 := by kernel_rfl
theorem typesN : ∃ n, Tryd.prog.types.size = n + 2 := ⟨Tryd.prog.types.size - 2, by have h : (43 : Nat) < Tryd.prog.types.size := keyRow; omega⟩
set_option maxRecDepth 100000 in
theorem keyed : Maps.Keyed Tryd.prog 43 := .of_law (deep_law_laid laidOutP (m := 2) (by omega) keyRow (by kernel_rfl) keyWide)
theorem wf_int {n : Int} (h : I64 n) : (Lit.int .i64 n).wf = true := by
  obtain ⟨h1, h2⟩ := h
  simp only [Lit.wf, Bool.and_eq_true, decide_eq_true_eq]
  exact ⟨h1, h2⟩
theorem wf_of {n : Int} (h : (Lit.int .i64 n).wf = true) : I64 n := by
  simp only [Lit.wf, Bool.and_eq_true, decide_eq_true_eq] at h
  exact h
theorem keyOf_is (v : Value) : keyOf Tryd.prog 43 v = if v.formed Tryd.prog 43 = true then (Tryd.prog.keyLits (Tryd.prog.types.size + 1) 43 v.cells.toList).map fun ls => .string (keyBytes ls) else none := by
  unfold keyOf
  rw [Tryd.underlying43]
  simp only [keyDeep, Bool.true_and]
theorem keyLits_is (a b : Value) : Tryd.prog.keyLits (Tryd.prog.types.size + 1) 43 [a, b] = match a, b with
  | .int q n, .int r m => if (q = .i64 ∧ (Lit.int .i64 n).wf = true) ∧ (r = .i64 ∧ (Lit.int .i64 m).wf = true) then some [.int .i64 n, .int .i64 m] else none
  | _, _ => none := by
  obtain ⟨n, hn⟩ := typesN
  rw [hn]
  unfold Program.keyLits
  simp only [Tryd.underlying43, keyCells]
  simp [Program.keyLits, Tryd.underlying3, cells3]
  clear hn
  cases a <;> cases b <;> simp
  all_goals (try (split <;> simp_all))
  all_goals (try (split <;> simp_all))
theorem keyOf_mk {a : Plc} (h : okP a) : keyOf Tryd.prog 43 (plcV a) = some (keyL a) := by
  rw [keyOf_is, if_pos (by simp [plcV, Value.formed, Tryd.underlying43, keyCells])]
  show (Tryd.prog.keyLits _ 43 [.int .i64 a.1, .int .i64 a.2]).map _ = _
  rw [keyLits_is]
  simp only [wf_int h.1, wf_int h.2]
  rfl
theorem keyOf_inv {v : Value} {l : Lit} (h : keyOf Tryd.prog 43 v = some l) : ∃ a : Plc, v = plcV a ∧ okP a ∧ l = keyL a := by
  rw [keyOf_is] at h
  split at h
  case isFalse => cases h
  case isTrue hf =>
    cases v
    case agg cs =>
      simp [Value.formed, Tryd.underlying43, keyCells] at hf
      obtain ⟨a, b, rfl⟩ : ∃ a b, cs = #[a, b] := ⟨cs[0], cs[1], by apply Array.ext; simp [hf]; intro i h1 h2; match i, h2 with | 0, _ => rfl | 1, _ => rfl⟩
      rw [show (Value.agg #[a, b]).cells.toList = [a, b] from rfl, keyLits_is] at h
      cases a <;> cases b <;> simp at h
      obtain ⟨⟨⟨rfl, h1⟩, rfl, h2⟩, rfl⟩ := h
      exact ⟨(_, _), rfl, ⟨wf_of h1, wf_of h2⟩, rfl⟩
    all_goals simp [Value.formed, Tryd.underlying43] at hf
theorem keyL_inj {a b : Plc} (ha : okP a) (hb : okP b) (h : keyL a = keyL b) : a = b := by
  have e := keyed.inj (keyOf_mk ha) (h ▸ keyOf_mk hb)
  unfold plcV at e
  simp only [Value.agg.injEq, Array.mk.injEq, List.cons.injEq, Value.int.injEq, true_and, and_true] at e
  exact Prod.ext e.1 e.2
/-- How a pointer to a block's first cell reads: as the block's number. -/
def ptrElem : Value → Option (DataW Unit × List MemPlace)
  | .pointer none => some (.nil, [])
  | .pointer (some ⟨b, 0, none⟩) => some (.lit (.int .i64 b), [])
  | _ => none
theorem ptrElem_nil {v : Value} {ps : List MemPlace} (h : ptrElem v = some (.nil, ps)) : v = .pointer none := by
  unfold ptrElem at h
  split at h <;> simp at h
  rfl
theorem ptrElem_lit {v : Value} {b : Nat} {ps : List MemPlace} (h : ptrElem v = some (.lit (.int .i64 b), ps)) : v = .pointer (some ⟨b, 0, none⟩) := by
  unfold ptrElem at h
  split at h <;> simp at h
  obtain ⟨e, _⟩ := h
  rw [show _ = b from Int.ofNat.inj e]
theorem zeroPtr (w : World) : (zeroValue 84).run Tryd.prog w = .ok (.pointer none) w := by kernel_rfl
theorem zeroInt (w : World) : (zeroValue 3).run Tryd.prog w = .ok (.int .i64 0) w := by kernel_rfl
theorem intLaw : Keyed Tryd.prog 3 := int_keyed Tryd.underlying3
theorem key_int {i : Int} (h : I64 i) : keyOf Tryd.prog 3 (.int .i64 i) = some (Lit.int .i64 i) := keyOf_int_mk Tryd.underlying3 (wf_int h)
theorem map_keep {H : Type} {w w' : World} {P : Program} {k : TypeId} {R : Value → Option (DataW H × List MemPlace)} {b n : Nat} {D : DataW H} (h : w.ownsMap P k R b n D) (hk : w'.heap[b]? = w.heap[b]?) : w'.ownsMap P k R b n D := by
  obtain ⟨es, clock, hb, r⟩ := h
  exact ⟨es, clock, hk.trans hb, r⟩
theorem own_keep {w w' : World} {base : Nat} {e : TypeId} {size n : Nat} {v : Value} {xs : List Value} (h : w.ownsRow base e size v n xs) (hk : ∀ b, v.ownBlock = some b → w'.heap[b]? = w.heap[b]?) : w'.ownsRow base e size v n xs := by
  refine ⟨h.1, ?_⟩
  rcases h.2 with h' | ⟨g, cap, cur, rfl, hb, hg, hn, hm, hs, ht⟩
  · exact .inl h'
  · exact .inr ⟨g, cap, cur, rfl, hb, (hk g rfl).trans hg, hn, hm, hs, ht⟩
theorem own_block {w : World} {base : Nat} {e : TypeId} {size n : Nat} {v : Value} {xs : List Value} (h : w.ownsRow base e size v n xs) {g : Nat} (hg : v.ownBlock = some g) : base ≤ g ∧ ∃ cur, Bk w g cur e := by
  rcases h.2 with ⟨rfl, _⟩ | ⟨g', cap, cur, rfl, hb, hc, _⟩
  · cases hg
  · obtain rfl : g' = g := Option.some.inj hg
    exact ⟨hb, cur, hc⟩
theorem bk_ne {w : World} {b b' : Nat} {c c' : Array Value} {T T' : TypeId} (h : Bk w b c T) (h' : Bk w b' c' T') (hT : T ≠ T') : b ≠ b' := fun e => by
  subst e
  unfold Bk at h h'
  rw [h] at h'
  injection h' with h'
  injection h' with _ h'
  exact hT h'
theorem map_ne {H : Type} {w : World} {m k b : Nat} {cs : Array Value} {T : TypeId} {P : Program} {K : TypeId} {R : Value → Option (DataW H × List MemPlace)} {D : DataW H} (h : Bk w b cs T) (h' : w.ownsMap P K R m k D) : b ≠ m := fun e => by
  subst e
  obtain ⟨es, clock, hm, _⟩ := h'
  unfold Bk at h
  rw [h] at hm
  cases hm
def Pw (w : World) : Prop := Lib.TabIs Tryd.prog w "internal/strconv.uint64pow10" .u64 Lib.pow10Tab
theorem Pw.below {w w' : World} (h : Pw w) (hb : Below w.heap.size w w') : Pw w' := (Lib.tabBelow_of_tabIs h).on hb |>.here
theorem gPow : Tryd.prog.globalNamed "internal/strconv.uint64pow10" = some 0 := by kernel_rfl
theorem Pw.lt {w : World} (h : Pw w) : 0 < w.heap.size := by
  unfold Pw Lib.TabIs World.var? at h
  simp only [gPow, Option.bind_some] at h
  rcases Nat.lt_or_ge 0 w.heap.size with h' | h'
  · exact h'
  · rw [Array.getElem?_eq_none h'] at h; simp at h
theorem Pw.keep {w w' : World} (h : Pw w) (hk : w'.heap[0]? = w.heap[0]?) : Pw w' := by
  unfold Pw Lib.TabIs World.var? at *
  simp only [gPow, Option.bind_some] at h ⊢
  rw [hk]; exact h
/-- Blocks of F turned, all of them behind the tables. -/
theorem Pw.chg {F : Nat → Prop} {w w' : World} (h : Pw w) (c : Chg F w w') (hF : ∀ b, F b → 0 < b) : Pw w' := h.keep (c.block _ h.lt fun e => by have := hF _ e; omega)
/-- Where a loop lies: its block, its exits' map, the boxes that its closure has. -/
structure Ld where
  b : Nat
  m : Nat
  x0 : Nat
  x1 : Nat
  x2 : Nat
def Ld.has (d : Ld) (g : Nat) : Prop := g = d.b ∨ g = d.m ∨ g = d.x0 ∨ g = d.x1 ∨ g = d.x2
def fnV (d : Ld) : Value := .func (.func 59) #[] #[.pointer (some ⟨d.x0, 0, none⟩), .pointer (some ⟨d.x1, 0, none⟩), .pointer (some ⟨d.x2, 0, none⟩)]
def rowL (x : Spot) (d : Ld) : Array Value := #[.int .i64 x.tier, .int .i64 x.calls, .int .i64 x.count, .int .i64 x.fails, .map (some d.m), fnV d]
def ExD (D : DataW Unit) (ex : Int → Int) : Prop := ∀ i, I64 i → D.atKey (.int .i64 i) (.lit (.int .i64 0)) = .lit (.int .i64 (ex i))
structure LoopAt (w : World) (p : Nat) (a : Plc) (x : Spot) (d : Ld) : Prop where
  blk : Bk w d.b (rowL x d) 93
  map : ∃ D, w.ownsMap Tryd.prog 3 (plainElem Tryd.prog 3) d.m x.en D ∧ ExD D x.ex
  b0 : Bk w d.x0 #[.pointer (some ⟨d.b, 0, none⟩)] 84
  b1 : Bk w d.x1 #[.pointer (some ⟨p, 0, none⟩)] 26
  b2 : Bk w d.x2 #[.int .i64 a.1, .int .i64 a.2] 43
theorem Bk.keep {w w' : World} {b : Nat} {c : Array Value} {T : TypeId} (h : Bk w b c T) (hk : w'.heap[b]? = w.heap[b]?) : Bk w' b c T := by
  unfold Bk at *; rw [hk]; exact h
theorem LoopAt.keep {w w' : World} {p : Nat} {a : Plc} {x : Spot} {d : Ld} (h : LoopAt w p a x d) (hk : ∀ g, d.has g → w'.heap[g]? = w.heap[g]?) : LoopAt w' p a x d := by
  obtain ⟨D, hm, hD⟩ := h.map
  exact ⟨h.blk.keep (hk _ (.inl rfl)), ⟨D, map_keep hm (hk _ (.inr (.inl rfl))), hD⟩, h.b0.keep (hk _ (.inr (.inr (.inl rfl)))), h.b1.keep (hk _ (.inr (.inr (.inr (.inl rfl))))), h.b2.keep (hk _ (.inr (.inr (.inr (.inr rfl)))))⟩
theorem LoopAt.lt {w : World} {p : Nat} {a : Plc} {x : Spot} {d : Ld} (h : LoopAt w p a x d) : ∀ g, d.has g → g < w.heap.size := by
  obtain ⟨D, hm, _⟩ := h.map
  rintro g (rfl | rfl | rfl | rfl | rfl)
  · exact h.blk.lt
  · exact hm.lt
  · exact h.b0.lt
  · exact h.b1.lt
  · exact h.b2.lt
/-- A block of another type is none of a loop's. -/
theorem LoopAt.not_bk {w : World} {p : Nat} {a : Plc} {x : Spot} {d : Ld} (h : LoopAt w p a x d) {b : Nat} {c : Array Value} {T : TypeId} (hb : Bk w b c T) (h1 : T ≠ 93) (h2 : T ≠ 84) (h3 : T ≠ 26) (h4 : T ≠ 43) : ¬ d.has b := by
  obtain ⟨D, hm, _⟩ := h.map
  rintro (e | e | e | e | e)
  · exact bk_ne hb h.blk h1 e
  · exact map_ne hb hm e
  · exact bk_ne hb h.b0 h2 e
  · exact bk_ne hb h.b1 h3 e
  · exact bk_ne hb h.b2 h4 e
def rowP (t : Pst) (mb : Nat) (v : Value) : Array Value := #[.int .i64 t.s, .int .i64 t.w, .int .i64 t.h, .int .i64 t.c, .map (some mb), v]
def keysOf (l : List (Plc × Spot)) : List Plc := l.map (·.1)
def ptrO (l : List (Plc × Spot)) (f : Plc → Ld) (a : Plc) : Option Addr := if a ∈ l.map (·.1) then some ⟨(f a).b, 0, none⟩ else none
structure MapD (D : DataW Unit) (l : List (Plc × Spot)) (f : Plc → Ld) : Prop where
  at_ : ∀ a, okP a → D.atKey (keyL a) .nil = if a ∈ l.map (·.1) then .lit (.int .i64 (f a).b) else .nil
  has_ : ∀ a, okP a → Maps.has D (keyL a) = decide (a ∈ l.map (·.1))
structure ProfAt (w : World) (p : Nat) (t : Pst) (F : Nat → Prop) (mb : Nat) (v : Value) (f : Plc → Ld) : Prop where
  lt : ∀ b, F b → b < w.heap.size
  top : Bk w p (rowP t mb v) 67
  fp : F p
  map : ∃ D, w.ownsMap Tryd.prog 43 ptrElem mb t.L.length D ∧ MapD D t.L f
  fm : F mb
  loops : ∀ q ∈ t.L, LoopAt w p q.1 q.2 (f q.1)
  fl : ∀ q ∈ t.L, ∀ g, (f q.1).has g → F g
  apart : ∀ q ∈ t.L, ∀ r ∈ t.L, q.1 ≠ r.1 → ∀ g, (f q.1).has g → ¬ (f r.1).has g
  offm : ∀ q ∈ t.L, (f q.1).m ≠ mb
  own : w.ownsRow 0 49 4 v t.D.length (flatD t.D)
  fv : ∀ g, v.ownBlock = some g → F g
  srt : Srt t.L
  hi : ∀ b, F b → 0 < b
def ProfH (w : World) (p : Nat) (t : Pst) (F : Nat → Prop) : Prop := ∃ mb v f, ProfAt w p t F mb v f
theorem ProfAt.keep {w w' : World} {p : Nat} {t : Pst} {F : Nat → Prop} {mb : Nat} {v : Value} {f : Plc → Ld} (h : ProfAt w p t F mb v f) (hk : ∀ b, F b → w'.heap[b]? = w.heap[b]?) : ProfAt w' p t F mb v f := by
  obtain ⟨D, hm, hD⟩ := h.map
  refine ⟨fun b hb => ?_, h.top.keep (hk p h.fp), h.fp, ⟨D, map_keep hm (hk mb h.fm), hD⟩, h.fm, fun q hq => (h.loops q hq).keep fun g hg => hk g (h.fl q hq g hg), h.fl, h.apart, h.offm, own_keep h.own fun b hb => hk b (h.fv b hb), h.fv, h.srt, h.hi⟩
  have h1 := h.lt b hb
  have h2 := hk b hb
  rw [Array.getElem?_eq_getElem h1] at h2
  exact (Array.getElem?_eq_some_iff.1 h2).1
theorem ProfAt.look {w : World} {p : Nat} {t : Pst} {F : Nat → Prop} {mb : Nat} {v : Value} {f : Plc → Ld} (h : ProfAt w p t F mb v f) {a : Plc} (ha : okP a) :
    (Instr.lookup 65 (.map (some mb)) (plcV a) false).run Tryd.prog w = .ok (.pointer (ptrO t.L f a)) w := by
  obtain ⟨D, hm, hD⟩ := h.map
  obtain ⟨u, ps, hrun, hv⟩ := hm.lookup keyed Tryd.underlying65 (zeroPtr w) (show ptrElem (.pointer none) = some (.nil, []) from rfl) (keyOf_mk ha)
  rw [hD.at_ a ha] at hv
  rw [hrun]
  unfold ptrO
  split at hv
  · rename_i hx
    rw [if_pos hx, ptrElem_lit hv]
  · rename_i hx
    rw [if_neg hx, ptrElem_nil hv]
def Nw (F : Nat → Prop) (w w' : World) : Nat → Prop := fun g => F g ∨ (w.heap.size ≤ g ∧ g < w'.heap.size)
theorem ProfAt.hiN {w w' : World} {p : Nat} {t : Pst} {F : Nat → Prop} {mb : Nat} {v : Value} {f : Plc → Ld} (h : ProfAt w p t F mb v f) : ∀ b, Nw F w w' b → 0 < b := fun b hb => hb.elim (h.hi b) fun e => by
  have := h.hi p h.fp; have := h.lt p h.fp; omega
def setF (f : Plc → Ld) (a : Plc) (d : Ld) : Plc → Ld := fun b => if b = a then d else f b
theorem setF_same (f : Plc → Ld) (a : Plc) (d : Ld) : setF f a d a = d := if_pos rfl
theorem setF_other {f : Plc → Ld} {a : Plc} {d : Ld} {b : Plc} (h : b ≠ a) : setF f a d b = f b := if_neg h
theorem lk_key {a : Plc} {x : Spot} {l : List (Plc × Spot)} (h : lk a l = some x) : a ∈ l.map (·.1) := List.mem_map.2 ⟨_, lk_mem h, rfl⟩
theorem keys_same {a : Plc} {x x' : Spot} {l : List (Plc × Spot)} (h : lk a l = some x) (b : Plc) : b ∈ (ins a x' l).map (·.1) ↔ b ∈ l.map (·.1) := by
  rw [keys_ins]
  exact ⟨fun h' => h'.elim (fun e => e ▸ lk_key h) id, .inr⟩
/-- One loop turned; the map, the decisions stay. -/
theorem ProfAt.turn {w w' : World} {p : Nat} {t : Pst} {F : Nat → Prop} {mb : Nat} {v : Value} {f : Plc → Ld} (h : ProfAt w p t F mb v f) {a : Plc} {x x' : Spot} (hx : lk a t.L = some x) {d' : Ld} (hl : LoopAt w' p a x' d') (hb : d'.b = (f a).b)
    (hd : ∀ g, d'.has g → (f a).has g ∨ w.heap.size ≤ g) (hk : ∀ k, k < w.heap.size → ¬ (f a).has k → w'.heap[k]? = w.heap[k]?) (hz : w.heap.size ≤ w'.heap.size) :
    ProfAt w' p { t with L := ins a x' t.L } (Nw F w w') mb v (setF f a d') := by
  obtain ⟨D, hm, hD⟩ := h.map
  have ha := lk_mem hx
  have LA := h.loops _ ha
  have np : ¬ (f a).has p := LA.not_bk h.top (by decide) (by decide) (by decide) (by decide)
  have nm : ¬ (f a).has mb := by
    obtain ⟨D', hm', _⟩ := LA.map
    rintro (e | e | e | e | e)
    · exact map_ne LA.blk hm e.symm
    · exact h.offm _ ha e.symm
    · exact map_ne LA.b0 hm e.symm
    · exact map_ne LA.b1 hm e.symm
    · exact map_ne LA.b2 hm e.symm
  have nv : ∀ g, v.ownBlock = some g → ¬ (f a).has g := fun g hg => by
    obtain ⟨_, cur, hc⟩ := own_block h.own hg
    exact LA.not_bk hc (by decide) (by decide) (by decide) (by decide)
  have far : ∀ q ∈ t.L, q.1 ≠ a → ∀ g, (f q.1).has g → ¬ (f a).has g := fun q hq hne => h.apart q hq _ ha hne
  have hlt : ∀ q ∈ t.L, ∀ g, (f q.1).has g → g < w.heap.size := fun q hq g hg => h.lt g (h.fl q hq g hg)
  refine ⟨fun b hb' => ?_, h.top.keep (hk p (h.lt p h.fp) np), .inl h.fp, ⟨D, ?_, fun b hb' => ?_, fun b hb' => ?_⟩, .inl h.fm, fun q hq => ?_, fun q hq g hg => ?_, fun q hq r hr hne g hg => ?_, fun q hq => ?_, own_keep h.own fun g hg => hk g (h.lt g (h.fv g hg)) (nv g hg), fun g hg => .inl (h.fv g hg), srt_ins h.srt, h.hiN⟩
  · rcases hb' with hb' | hb'
    · exact Nat.lt_of_lt_of_le (h.lt b hb') hz
    · exact hb'.2
  · show w'.ownsMap _ _ _ mb (ins a x' t.L).length D
    rw [ins_len_mem h.srt (lk_key hx)]
    exact map_keep hm (hk mb (h.lt mb h.fm) nm)
  · rw [hD.at_ b hb']
    by_cases e : b ∈ t.L.map (·.1)
    · rw [if_pos e, if_pos ((keys_same hx b).2 e)]
      by_cases e' : b = a
      · subst e'; rw [setF_same, hb]
      · rw [setF_other e']
    · rw [if_neg e, if_neg (fun e' => e ((keys_same hx b).1 e'))]
  · rw [hD.has_ b hb', decide_eq_decide]
    exact (keys_same hx b).symm
  · rcases mem_ins' h.srt hq with rfl | ⟨hq, hne⟩
    · show LoopAt w' p a x' (setF f a d' a)
      rw [setF_same]; exact hl
    · rw [setF_other hne]
      exact (h.loops q hq).keep fun g hg => hk g (hlt q hq g hg) (far q hq hne g hg)
  · rcases mem_ins' h.srt hq with rfl | ⟨hq, hne⟩
    · have hg : d'.has g := by rw [setF_same] at hg; exact hg
      rcases hd g hg with hg' | hg'
      · exact .inl (h.fl _ ha g hg')
      · exact .inr ⟨hg', hl.lt g hg⟩
    · rw [setF_other hne] at hg
      exact .inl (h.fl q hq g hg)
  · rcases mem_ins' h.srt hq with rfl | ⟨hq, hq'⟩
    · rcases mem_ins' h.srt hr with rfl | ⟨hr, hr'⟩
      · exact absurd rfl hne
      · rw [setF_same] at hg
        rw [setF_other hr']
        rcases hd g hg with hg' | hg'
        · exact fun e => far r hr hr' g e hg'
        · exact fun e => by have := hlt r hr g e; omega
    · rw [setF_other hq'] at hg
      rcases mem_ins' h.srt hr with rfl | ⟨hr, hr'⟩
      · rw [setF_same]
        intro e
        rcases hd g e with hg' | hg'
        · exact far q hq hq' g hg hg'
        · have := hlt q hq g hg; omega
      · rw [setF_other hr']
        exact h.apart q hq r hr hne g hg
  · rcases mem_ins' h.srt hq with rfl | ⟨hq, hne⟩
    · rw [setF_same]
      intro e
      rcases hd d'.m (.inr (.inl rfl)) with hg' | hg'
      · rw [e] at hg'; exact nm hg'
      · have := h.lt mb h.fm; omega
    · rw [setF_other hne]; exact h.offm q hq
end Go.Proofs.YtjoffbgfokedlaaDoor.Pf
