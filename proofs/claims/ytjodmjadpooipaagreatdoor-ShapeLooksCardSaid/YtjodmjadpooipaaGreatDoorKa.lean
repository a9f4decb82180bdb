/-
  The tree of package shape in memory; its map of transitions.
  What only reads the tree: Count, Canon, layout, Names, Class, Slot, Root.
-/
import Derived.Test.YtjodmjadpooipaaGreatDoorTd
import Derived.Test.YtjodmjadpooipaaGreatDoorTf
import Derived.Maps.OwnSet
import Derived.DeepKeys4
import Derived.Test.YtjodmjadpooipaaGreatDoorShelf
namespace Go.Proofs.YtjodmjadpooipaaGreatDoor.Sh
open Go Go.RowKit

/-- Where a shape's names lie. -/
structure Ld where
  nA : Option Nat
  nc : Nat
def Ld.at (h : Ld) : Option Addr := h.nA.map fun g => ⟨g, 0, none⟩
def rowC (x : Shp) (h : Ld) : List Value := [.int .i64 x.cls, .slice h.at x.names.length h.nc, .int .i64 (aliV x)]
/-- The transitions that are kept: those of shapes that are no aliases. -/
def lkC (t : Tre) (f : Int) (nm : ByteArray) : Option Nat := if 0 ≤ f ∧ (t.sh f.toNat).ali = none then lookL nm (t.sh f.toNat).links else none
def keyV (f : Int) (nm : ByteArray) : Value := .agg #[.int .i64 f, .string nm]
def keyL (f : Int) (nm : ByteArray) : Lit := .string (keyBytes [.int .i64 f, .string nm.data.toList])
theorem laidOutP : laidOutB Tryz.prog = true := by kernel_rfl
theorem keyRow : (77 : TypeId) < Tryz.prog.types.size := of_decide_eq_true (by kernel_rfl)
theorem keyDeep : Tryz.prog.keyType 77 = true := by kernel_rfl
theorem keyWide : (match Tryz.prog.underlying 77 with | some (.array _ _) | some (.struct _) => true | _ => false) = true := by kernel_rfl
theorem keyCells : Tryz.prog.cellsOf 77 = 2 := by kernel_rfl
theorem cells3 : Tryz.prog.cellsOf 3 = 1 := by kernel_rfl
theorem cells9 : Tryz.prog.cellsOf 9 = 1 := by kernel_rfl
theorem typesN : ∃ n, Tryz.prog.types.size = n + 2 := ⟨Tryz.prog.types.size - 2, by have h : (77 : Nat) < Tryz.prog.types.size := keyRow; omega⟩
set_option maxRecDepth 100000 in
theorem keyed : Maps.Keyed Tryz.prog 77 := .of_law (deep_law_laid laidOutP (m := 2) (by omega) keyRow (by kernel_rfl) keyWide)
theorem wf_int {n : Int} (h : I64 n) : (Lit.int .i64 n).wf = true := by
  obtain ⟨h1, h2⟩ := h
  simp only [Lit.wf, Bool.and_eq_true, decide_eq_true_eq]
  exact ⟨h1, h2⟩
theorem wf_of {n : Int} (h : (Lit.int .i64 n).wf = true) : I64 n := by
  simp only [Lit.wf, Bool.and_eq_true, decide_eq_true_eq] at h
  exact h
theorem keyOf_is (v : Value) : keyOf Tryz.prog 77 v = if v.formed Tryz.prog 77 = true then (Tryz.prog.keyLits (Tryz.prog.types.size + 1) 77 v.cells.toList).map fun ls => .string (keyBytes ls) else none := by
  unfold keyOf
  rw [Tryz.underlying77]
  simp only [keyDeep, Bool.true_and]
theorem keyLits_is (a b : Value) : Tryz.prog.keyLits (Tryz.prog.types.size + 1) 77 [a, b] = match a, b with
  | .int q n, .string s => if (q = .i64 ∧ (Lit.int .i64 n).wf = true) ∧ s.size ≤ maxLen then some [.int .i64 n, .string s.data.toList] else none
  | _, _ => none := by
  obtain ⟨n, hn⟩ := typesN
  rw [hn]
  unfold Program.keyLits
  simp only [Tryz.underlying77, keyCells]
  simp [Program.keyLits, Tryz.underlying3, Tryz.underlying9, cells3, cells9]
  clear hn
  cases a <;> cases b <;> simp
  all_goals (try (split <;> simp_all))
  all_goals (try (split <;> simp_all))
theorem keyOf_mk {f : Int} {nm : ByteArray} (hf : I64 f) (hn : nm.size ≤ maxLen) : keyOf Tryz.prog 77 (keyV f nm) = some (keyL f nm) := by
  rw [keyOf_is, if_pos (by simp [keyV, Value.formed, Tryz.underlying77, keyCells])]
  show (Tryz.prog.keyLits _ 77 [.int .i64 f, .string nm]).map _ = _
  rw [keyLits_is]
  simp only [wf_int hf, hn]
  rfl
theorem keyOf_inv {v : Value} {l : Lit} (h : keyOf Tryz.prog 77 v = some l) : ∃ f nm, v = keyV f nm ∧ I64 f ∧ nm.size ≤ maxLen ∧ l = keyL f nm := by
  rw [keyOf_is] at h
  split at h
  case isFalse => cases h
  case isTrue hf =>
    cases v
    case agg cs =>
      simp [Value.formed, Tryz.underlying77, keyCells] at hf
      obtain ⟨a, b, rfl⟩ : ∃ a b, cs = #[a, b] := ⟨cs[0], cs[1], by apply Array.ext; simp [hf]; intro i h1 h2; match i, h2 with | 0, _ => rfl | 1, _ => rfl⟩
      rw [show (Value.agg #[a, b]).cells.toList = [a, b] from rfl, keyLits_is] at h
      cases a <;> cases b <;> simp at h
      obtain ⟨⟨⟨rfl, h1⟩, h2⟩, rfl⟩ := h
      exact ⟨_, _, rfl, wf_of h1, h2, rfl⟩
    all_goals simp [Value.formed, Tryz.underlying77] at hf
theorem keyL_inj {f f' : Int} {nm nm' : ByteArray} (hf : I64 f) (hn : nm.size ≤ maxLen) (hf' : I64 f') (hn' : nm'.size ≤ maxLen) (h : keyL f nm = keyL f' nm') : f = f' ∧ nm = nm' := by
  have e := keyed.inj (keyOf_mk hf hn) (h ▸ keyOf_mk hf' hn')
  unfold keyV at e
  simpa using e
/-- What the map holds. -/
def Cont (D : DataW Unit) (t : Tre) : Prop := ∀ f nm, I64 f → nm.size ≤ maxLen → Maps.has D (keyL f nm) = (lkC t f nm).isSome ∧ ∀ a : Nat, lkC t f nm = some a → ∀ zd, D.atKey (keyL f nm) zd = .lit (.int .i64 (a : Int))
def RowsC (w : World) (vL : Value) (t : Tre) (hd : Nat → Ld) : Prop :=
  ∃ xs, w.ownsRow 0 65 3 vL t.L.length xs ∧ ∀ s, s < t.L.length → ∀ i u, (rowC (t.sh s) (hd s))[i]? = some u → xs[s * 3 + i]? = some u
/-- The tree lies at p, in blocks of F. -/
structure CodeAt (w : World) (p : Nat) (t : Tre) (F : Nat → Prop) (vL vR : Value) (mb : Nat) (D : DataW Unit) (hd : Nat → Ld) : Prop where
  lt : ∀ b, F b → b < w.heap.size
  hp : Bk w p #[vL, vR, .map (some mb)] 70
  fp : F p
  rows : RowsC w vL t hd
  fL : ∀ b, vL.ownBlock = some b → F b
  roots : RootsV w vR t.roots
  fR : ∀ b, vR.ownBlock = some b → F b
  names : ∀ s, s < t.L.length → SlS w (fun b => F b ∧ isStr w b) (hd s).at (t.sh s).names
  nils : ∀ s, s < t.L.length → (hd s).nA = none → (hd s).nc = 0
  map : w.ownsMap Tryz.prog 77 (plainElem Tryz.prog 3) mb 65536 D
  cont : Cont D t
  fM : F mb
def CodeH (w : World) (p : Nat) (t : Tre) (F : Nat → Prop) : Prop := Srt t ∧ ∃ vL vR mb D hd, CodeAt w p t F vL vR mb D hd
theorem map_keep {H : Type} {w w' : World} {P : Program} {k : TypeId} {R : Value → Option (DataW H × List MemPlace)} {b n : Nat} {D : DataW H} (h : w.ownsMap P k R b n D) (hk : w'.heap[b]? = w.heap[b]?) : w'.ownsMap P k R b n D := by
  obtain ⟨es, clock, hb, r⟩ := h
  exact ⟨es, clock, hk.trans hb, r⟩
theorem CodeAt.keep {w w' : World} {p : Nat} {t : Tre} {F : Nat → Prop} {vL vR : Value} {mb : Nat} {D : DataW Unit} {hd : Nat → Ld} (h : CodeAt w p t F vL vR mb D hd) (hk : ∀ b, F b → w'.heap[b]? = w.heap[b]?) : CodeAt w' p t F vL vR mb D hd := by
  refine ⟨fun b hb => ?_, ?_, h.fp, ?_, h.fL, ?_, h.fR, fun s hs => ?_, h.nils, map_keep h.map (hk mb h.fM), h.cont, h.fM⟩
  · have h1 := h.lt b hb
    have h2 := hk b hb
    rw [Array.getElem?_eq_getElem h1] at h2
    exact (Array.getElem?_eq_some_iff.1 h2).1
  · unfold Bk; rw [hk p h.fp]; exact h.hp
  · obtain ⟨xs, h1, h2⟩ := h.rows
    exact ⟨xs, own_keep h1 fun b hb => hk b (h.fL b hb), h2⟩
  · exact own_keep h.roots fun b hb => hk b (h.fR b hb)
  · exact (h.names s hs).keep fun b hb => ⟨⟨hb.1, by obtain ⟨cs, hc⟩ := hb.2; exact ⟨cs, by rw [hk b hb.1]; exact hc⟩⟩, hk b hb.1⟩
theorem CodeH.keep {w w' : World} {p : Nat} {t : Tre} {F : Nat → Prop} (h : CodeH w p t F) (hk : ∀ b, F b → w'.heap[b]? = w.heap[b]?) : CodeH w' p t F := by
  obtain ⟨hs, vL, vR, mb, D, hd, h⟩ := h
  exact ⟨hs, vL, vR, mb, D, hd, h.keep hk⟩
theorem CodeH.lt {w : World} {p : Nat} {t : Tre} {F : Nat → Prop} (h : CodeH w p t F) (b : Nat) (hb : F b) : b < w.heap.size := by
  obtain ⟨hs, vL, vR, mb, D, hd, h⟩ := h
  exact h.lt b hb
theorem CodeH.below {w w' : World} {p : Nat} {t : Tre} {F : Nat → Prop} (h : CodeH w p t F) (hb : Below w.heap.size w w') : CodeH w' p t F := h.keep fun b hF => hb.block b (h.lt b hF)
theorem own_slice {w : World} {base : Nat} {e : TypeId} {size n : Nat} {v : Value} {xs : List Value} (h : w.ownsRow base e size v n xs) : ∃ A c, v = .slice A n c := by
  rcases h.2 with ⟨rfl, h0⟩ | ⟨g, cap, cur, rfl, _⟩
  · exact ⟨none, 0, by rw [h0]⟩
  · exact ⟨_, _, rfl⟩
theorem own_cap {w : World} {base : Nat} {e : TypeId} {size n : Nat} {v : Value} {xs : List Value} (h : w.ownsRow base e size v n xs) (hn : 0 < n) : ∃ g c, v = .slice (some ⟨g, 0, none⟩) n c ∧ n ≤ c := by
  rcases h.2 with ⟨_, h0⟩ | ⟨g, cap, cur, rfl, _, _, hc, _⟩
  · omega
  · exact ⟨g, cap, rfl, hc⟩
section
variable {w : World} {p : Nat} {t : Tre} {F : Nat → Prop} {vL vR : Value} {mb : Nat} {D : DataW Unit} {hd : Nat → Ld} (h : CodeAt w p t F vL vR mb D hd)
include h
theorem CodeAt.codeH (hs : Srt t) : CodeH w p t F := ⟨hs, vL, vR, mb, D, hd, h⟩
theorem CodeAt.c0 : w.cell? ⟨p, 0, none⟩ = some vL := h.hp.cell 0 _ rfl
theorem CodeAt.c1 : w.cell? ⟨p, 1, none⟩ = some vR := h.hp.cell 1 _ rfl
theorem CodeAt.c2 : w.cell? ⟨p, 2, none⟩ = some (.map (some mb)) := h.hp.cell 2 _ rfl
theorem CodeAt.vlen : ∃ A c, vL = .slice A t.L.length c := by
  obtain ⟨xs, h1, _⟩ := h.rows
  exact own_slice h1
theorem CodeAt.row {s : Nat} (hs : s < t.L.length) : ∃ g c, vL = .slice (some ⟨g, 0, none⟩) t.L.length c ∧ t.L.length ≤ c ∧ F g ∧ g < w.heap.size ∧ (∀ i, w.frozen? ⟨g, i, none⟩ = false) ∧
    ∀ r, r < t.L.length → w.cell? ⟨g, r * 3, none⟩ = some (.int .i64 (t.sh r).cls) ∧ w.cell? ⟨g, r * 3 + 1, none⟩ = some (.slice (hd r).at (t.sh r).names.length (hd r).nc) ∧ w.cell? ⟨g, r * 3 + 2, none⟩ = some (.int .i64 (aliV (t.sh r))) := by
  obtain ⟨xs, h1, h2⟩ := h.rows
  obtain ⟨g, c, rfl, hc⟩ := own_cap h1 (by omega)
  have fg := h.fL g rfl
  refine ⟨g, c, rfl, hc, fg, h.lt g fg, fun i => World.ownsRow.frozenAt h1 i, fun r hr => ?_⟩
  have key : ∀ i u, (rowC (t.sh r) (hd r))[i]? = some u → w.cell? ⟨g, r * 3 + i, none⟩ = some u := fun i u hu => by
    have hi : i < 3 := (List.getElem?_eq_some_iff.1 hu).1
    rw [World.ownsRow.cellAt h1 (r * 3 + i) (by omega)]; exact h2 r hr i u hu
  exact ⟨key 0 _ rfl, key 1 _ rfl, key 2 _ rfl⟩
theorem CodeAt.rootV : ∃ A c, vR = .slice A t.roots.length c ∧ ∀ k, k < t.roots.length → ∃ g, A = some ⟨g, 0, none⟩ ∧ t.roots.length ≤ c ∧ F g ∧ w.cell? ⟨g, k, none⟩ = some (.int .i64 (t.roots.getD k 0 : Nat)) ∧ w.frozen? ⟨g, k, none⟩ = false := by
  have h1 := h.roots
  obtain ⟨A, c, hv⟩ := own_slice h1
  refine ⟨A, c, hv, fun k hk => ?_⟩
  obtain ⟨g, cap, hv2, hc⟩ := own_cap h1 (by omega)
  rw [hv] at hv2
  injection hv2 with e1 _ e3
  subst e1 e3
  have fg := h.fR g (by rw [hv]; rfl)
  subst hv
  refine ⟨g, rfl, hc, fg, ?_, World.ownsRow.frozenAt h1 k⟩
  rw [World.ownsRow.cellAt h1 k (by omega), List.getElem?_map, List.getD_eq_getElem?_getD, List.getElem?_eq_getElem hk]; rfl
end
end Go.Proofs.YtjodmjadpooipaaGreatDoor.Sh
namespace Go.Proofs.YtjodmjadpooipaaGreatDoor.Sh
open Go Go.RowKit

theorem SlS.plain {w : World} {P : Nat → Prop} {A : Option Addr} {ns : List ByteArray} (h : SlS w P A ns) (hn : 0 < ns.length) : ∃ b off, A = some ⟨b, off, none⟩ ∧ P b := by
  obtain ⟨ad, rfl, hb, hc⟩ := h.get 0 hn
  obtain ⟨b, off, sp⟩ := ad
  have hs : sp = none := by simpa [Addr.add] using World.cell?_spot hc
  subst hs
  exact ⟨b, off, rfl, hb⟩
theorem SlS.cells {w : World} {P : Nat → Prop} {b off : Nat} {ns : List ByteArray} (h : SlS w P (some ⟨b, off, none⟩) ns) : ∀ j, j < ns.length → w.cell? ⟨b, off + j, none⟩ = some (.string (ns.getD j ByteArray.empty)) := fun j hj => by
  obtain ⟨ad, e, _, hc⟩ := h.get j hj
  injection e with e
  subst e
  have e2 : (⟨b, off, none⟩ : Addr).add j = ⟨b, off + j, none⟩ := by unfold Addr.add; split <;> simp_all
  rw [e2] at hc
  rw [hc, List.getD_eq_getElem?_getD, List.getElem?_eq_getElem hj]; rfl
/-- slices.Equal of lists of strings. -/
theorem equal_any (P Q : Nat → Prop) (A C : Option Addr) (xs ys : List ByteArray) (c d : Nat) (w : World) (h : SlS w P A xs) (h' : SlS w Q C ys) (hx : xs.length ≤ 8796093022208) (hy : ys.length ≤ 8796093022208) (b : Bool) (hb : decide (xs = ys) = b) :
    Calls Tryz.prog 54 #[.slice A xs.length c, .slice C ys.length d] w fun e w' => e = .returned (.bool b) ∧ ∃ q, w' = w.drewN q := by
  by_cases hl : xs.length = ys.length
  · rcases Nat.eq_zero_or_pos xs.length with h0 | h0
    · obtain rfl := List.eq_nil_of_length_eq_zero h0
      obtain rfl := List.eq_nil_of_length_eq_zero (hl.symm.trans h0)
      refine (Tryz.slices_Equal_string_empty A C c 0 d w (by omega)).mono ?_
      rintro e w' ⟨rfl, rfl⟩
      exact ⟨by rw [← hb]; simp, 0, rfl⟩
    · obtain ⟨b1, o1, rfl, _⟩ := h.plain h0
      obtain ⟨b2, o2, rfl, _⟩ := h'.plain (by omega)
      refine (Tryz.slices_Equal_string b1 o1 xs.length c b2 o2 ys.length d xs ys w (Nat.le_refl _) (Nat.le_refl _) (by omega) (by omega) h.cells h'.cells).mono ?_
      rintro e w' ⟨rfl, q, rfl⟩
      exact ⟨by rw [← hb, List.take_length, List.take_length], q, rfl⟩
  · refine (Tryz.slices_Equal_string_lens A C xs.length c ys.length d w hl).mono ?_
    rintro e w' ⟨rfl, rfl⟩
    exact ⟨by rw [← hb, decide_eq_false (fun e => hl (by rw [e]))], 0, rfl⟩
theorem contains_any (P : Nat → Prop) (A : Option Addr) (xs : List ByteArray) (c : Nat) (x : ByteArray) (w : World) (h : SlS w P A xs) (hx : xs.length ≤ 8796093022208) (b : Bool) (hb : decide (x ∈ xs) = b) :
    Calls Tryz.prog 43 #[.slice A xs.length c, .string x] w fun e w' => e = .returned (.bool b) ∧ w = w' := by
  rcases Nat.eq_zero_or_pos xs.length with h0 | h0
  · obtain rfl := List.eq_nil_of_length_eq_zero h0
    refine (Tryz.slices_Contains_string_empty A c x w).mono ?_
    rintro e w' ⟨rfl, rfl⟩
    exact ⟨by rw [← hb]; simp, rfl⟩
  · obtain ⟨b1, o1, rfl, _⟩ := h.plain h0
    refine (Tryz.slices_Contains_string b1 o1 xs.length c xs x w (Nat.le_refl _) (by omega) h.cells).mono ?_
    rintro e w' ⟨rfl, rfl⟩
    refine ⟨?_, rfl⟩
    rw [← hb, List.take_length]
    have e : Lib.containsS xs x = decide (x ∈ xs) := by rw [Bool.eq_iff_iff, Lib.containsS_iff, decide_eq_true_eq]
    rw [e]
/-- The place of a name, or -1. -/
def idxN (l : List ByteArray) (x : ByteArray) : Int := if x ∈ l then (posL x l : Int) else -1
theorem idxFrom_is (x : ByteArray) : ∀ (l : List ByteArray) (i : Nat), Lib.idxFromS l x i = if x ∈ l then ((i + posL x l : Nat) : Int) else -1
  | [], i => rfl
  | z :: l, i => by
    unfold Lib.idxFromS posL
    by_cases h : z = x
    · subst h; simp
    · have h' : ¬ x = z := fun e => h e.symm
      rw [if_neg h, if_neg h, idxFrom_is x l (i + 1)]
      by_cases hm : x ∈ l
      · rw [if_pos hm, if_pos (List.mem_cons_of_mem _ hm)]; congr 1; omega
      · rw [if_neg hm, if_neg (by simp only [List.mem_cons, not_or]; exact ⟨h', hm⟩)]
theorem idxOf_is (l : List ByteArray) (x : ByteArray) : Lib.idxOfS l x = idxN l x := by
  unfold Lib.idxOfS idxN; rw [idxFrom_is, Nat.zero_add]
theorem index_any (P : Nat → Prop) (A : Option Addr) (xs : List ByteArray) (c : Nat) (x : ByteArray) (w : World) (h : SlS w P A xs) (hx : xs.length ≤ 8796093022208) :
    Calls Tryz.prog 37 #[.slice A xs.length c, .string x] w fun e w' => e = .returned (.int .i64 (idxN xs x)) ∧ w = w' := by
  rcases Nat.eq_zero_or_pos xs.length with h0 | h0
  · obtain rfl := List.eq_nil_of_length_eq_zero h0
    refine (Tryz.slices_Index_string_empty A c x w).mono ?_
    rintro e w' ⟨rfl, rfl⟩
    exact ⟨rfl, rfl⟩
  · obtain ⟨b1, o1, rfl, _⟩ := h.plain h0
    refine (Tryz.slices_Index_string b1 o1 xs.length c xs x w (Nat.le_refl _) (by omega) h.cells).mono ?_
    rintro e w' ⟨rfl, rfl⟩
    refine ⟨?_, rfl⟩
    rw [List.take_length, idxOf_is]
theorem clone_any (P : Nat → Prop) (A : Option Addr) (xs : List ByteArray) (c : Nat) (w : World) (h : SlS w P A xs) (hx : xs.length ≤ 8796093022208) :
    Calls Tryz.prog 41 #[.slice A xs.length c] w fun e w' => ∃ v, e = .returned v ∧ OwnS w' w.heap.size v xs ∧ Below w.heap.size w w' := by
  rcases A with _ | ad
  · have h0 : xs = [] := by
      cases xs with
      | nil => rfl
      | cons x l => obtain ⟨ad, e, _⟩ := h 0 x rfl; cases e
    subst h0
    refine (Tryz.slices_Clone_string_nil 0 c w).mono ?_
    rintro e w' ⟨rfl, rfl⟩
    exact ⟨_, rfl, OwnS.nil _ _, Below.refl _ _⟩
  · rcases Nat.eq_zero_or_pos xs.length with h0 | h0
    · obtain rfl := List.eq_nil_of_length_eq_zero h0
      refine (Tryz.slices_Clone_string_zero ad c w).mono ?_
      rintro e w' ⟨v, rfl, ho, _, hb⟩
      exact ⟨v, rfl, ho, hb⟩
    · obtain ⟨b1, o1, e, _⟩ := h.plain h0
      injection e with e
      subst e
      refine (Tryz.slices_Clone_string b1 o1 xs.length c xs w (Nat.le_refl _) (by omega) h.cells).mono ?_
      rintro e w' ⟨v, rfl, ho, _, hb⟩
      rw [List.take_length] at ho
      exact ⟨v, rfl, ho, hb⟩
end Go.Proofs.YtjodmjadpooipaaGreatDoor.Sh
