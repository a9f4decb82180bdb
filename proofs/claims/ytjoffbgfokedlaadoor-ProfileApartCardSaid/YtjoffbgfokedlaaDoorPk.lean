/-
  Frames by a set of blocks; rows of decisions; what package profile does, in one word; a profile of the call's own.
-/
import Derived.Test.YtjoffbgfokedlaaDoorPm
import Derived.WalkKit
import Derived.WalkLawsBesides
import Derived.WalkSpells
import Derived.Deep.QuietTactic
import Derived.BigQuiet
import Derived.Lib.Hide
import Derived.Below
import Derived.OwnWalk
import Derived.Laws.AppendOwn
import Derived.Laws.AppendOwnNone
import Derived.Laws.OwnMore
import Derived.Deep.AppendLies
import Derived.Lib.SliceRun
import Derived.Deep.LoopGhost
namespace Go.Proofs.YtjoffbgfokedlaaDoor.Pf
open Go Go.RowKit

theorem ret_bool {a b : Bool} (h : a = b) : Ending.returned (.bool a) = .returned (.bool b) := by rw [h]
/-- Only blocks of F, and new ones, have turned. -/
structure Chg (F : Nat → Prop) (w w' : World) : Prop where
  os : w'.os = w.os
  tape : w'.tape = w.tape
  output : w'.output = w.output
  size : w.heap.size ≤ w'.heap.size
  block : ∀ k, k < w.heap.size → ¬ F k → w'.heap[k]? = w.heap[k]?
theorem Chg.refl (F : Nat → Prop) (w : World) : Chg F w w := ⟨rfl, rfl, rfl, Nat.le_refl _, fun _ _ _ => rfl⟩
theorem Chg.trans {F G : Nat → Prop} {a b c : World} (h : Chg F a b) (k : Chg G b c) (hG : ∀ x, G x → F x ∨ a.heap.size ≤ x) : Chg F a c :=
  ⟨k.os.trans h.os, k.tape.trans h.tape, k.output.trans h.output, Nat.le_trans h.size k.size, fun i hi hf =>
    (k.block i (Nat.lt_of_lt_of_le hi h.size) (fun g => (hG i g).elim hf (by omega))).trans (h.block i hi hf)⟩
theorem Chg.below {F : Nat → Prop} {w w' : World} (h : Chg F w w') {B : Nat} (hF : ∀ x, F x → B ≤ x) (hB : B ≤ w.heap.size) : Below B w w' :=
  ⟨h.os, h.tape, h.output, h.size, fun k hk => h.block k (by omega) (fun f => by have := hF k f; omega)⟩
theorem Chg.of_below {F : Nat → Prop} {w w' : World} (h : Below w.heap.size w w') : Chg F w w' := ⟨h.os, h.tape, h.output, h.size, fun k hk _ => h.block k hk⟩
theorem Chg.cell {F : Nat → Prop} {w w' : World} (h : Chg F w w') {p : Addr} (hp : p.block < w.heap.size) (hF : ¬ F p.block) : w'.cell? p = w.cell? p := World.cell?_of_block (h.block _ hp hF)
/-- The profile's blocks, and what a call may turn. -/
def Sub (F F' : Nat → Prop) (w : World) : Prop := ∀ b, F' b → F b ∨ w.heap.size ≤ b
/-- A block that is known whole. -/
def Bk (w : World) (b : Nat) (c : Array Value) (T : TypeId) : Prop := w.heap[b]? = some (.cells c T (0, 0))
theorem Bk.lt {w : World} {b : Nat} {c : Array Value} {T : TypeId} (h : Bk w b c T) : b < w.heap.size := by
  unfold Bk at h
  exact (Array.getElem?_eq_some_iff.1 h).1
theorem Bk.new (w : World) (c : Array Value) (T : TypeId) : Bk (w.alloc (.cells c T)) w.heap.size c T := heap_alloc_new w _
theorem Bk.below {w w' : World} {b C : Nat} {c : Array Value} {T : TypeId} (h : Bk w b c T) (hb : Below C w w') (hC : b < C) : Bk w' b c T := by
  unfold Bk at *
  rw [hb.block b hC]; exact h
theorem Bk.alloc {w : World} {b : Nat} {c : Array Value} {T : TypeId} (h : Bk w b c T) (o : Obj) : Bk (w.alloc o) b c T := by
  have := h.lt
  unfold Bk at *
  rw [Below.heap_alloc _ _ _ this]; exact h
theorem Bk.cell {w : World} {b : Nat} {c : Array Value} {T : TypeId} (h : Bk w b c T) (i : Nat) (v : Value) (hv : c[i]? = some v) : w.cell? ⟨b, i, none⟩ = some v := by
  rw [cell_of_row w b i c T (0, 0) h]; exact hv
theorem Bk.low {w w' : World} {b : Nat} {c : Array Value} {T : TypeId} (hb : Below w.heap.size w w') (h : Bk w b c T) : Bk w' b c T := h.below hb h.lt
theorem Bk.set {w : World} {b : Nat} {c : Array Value} {T : TypeId} (h : Bk w b c T) (i : Nat) (v : Value) : Bk (w.setCell ⟨b, i, none⟩ v) b (c.setIfInBounds i v) T := by
  unfold Bk at h ⊢
  unfold World.setCell
  simp only [Array.getElem?_modify, if_true, h]
  rfl
theorem Bk.frozen {w : World} {b : Nat} {c : Array Value} {T : TypeId} (h : Bk w b c T) (i : Nat) : w.frozen? ⟨b, i, none⟩ = false := by
  unfold Bk at h
  simp [World.frozen?, h]
theorem Chg.set {F : Nat → Prop} (w : World) (p : Addr) (v : Value) (h : F p.block) : Chg F w (w.setCell p v) :=
  ⟨rfl, rfl, rfl, by simp [World.setCell], fun k _ hf => Below.heap_setCell w p v k (fun e => hf (by rw [e]; exact h))⟩
theorem Chg.drawn {F : Nat → Prop} {w : World} (n : Nat) : Chg F w (w.drewN n) := ⟨rfl, rfl, rfl, Nat.le_refl _, fun _ _ _ => rfl⟩
theorem Sub.refl (F : Nat → Prop) (w : World) : Sub F F w := fun _ hb => .inl hb
theorem far_set (w : World) (q i : Nat) (x : Value) : ∀ b, b ≠ q → (w.setCell ⟨q, i, none⟩ x).heap[b]? = w.heap[b]? := fun b hb => Below.heap_setCell w _ _ b (fun e => hb e)
def bsL (l : List UInt8) : ByteArray := ⟨l.toArray⟩
theorem bytes_of_list {a b : ByteArray} (h : a.data.toList = b.data.toList) : a = b := WideShapes.bytes_inj h
theorem bs_list (l : List UInt8) : (bsL l).data.toList = l := by unfold bsL; simp
theorem bsL_app (a b : List UInt8) : bsL a ++ bsL b = bsL (a ++ b) := bytes_of_list (by simp [bs_list])
theorem bsL_size (a : List UInt8) : (bsL a).size = a.length := by show a.toArray.size = _; rw [List.size_toArray]
theorem bsL_of (n : ByteArray) : bsL n.data.toList = n := bytes_of_list (bs_list _)
def cellsD (d : Dec) : List Value := [.int .i64 d.plc.1, .int .i64 d.plc.2, .int .i64 d.tier, .string (bsL d.why)]
def flatD (l : List Dec) : List Value := l.flatMap cellsD
theorem flatD_snoc (l : List Dec) (d : Dec) : flatD (l ++ [d]) = flatD l ++ cellsD d := by simp [flatD]
theorem flatD_len (l : List Dec) : (flatD l).length = l.length * 4 := by
  induction l with
  | nil => rfl
  | cons x xs ih => unfold flatD at *; rw [List.flatMap_cons, List.length_append, ih]; simp [cellsD]; omega
theorem flatD_get : ∀ {l : List Dec} {k : Nat} {d : Dec}, l[k]? = some d → (flatD l)[k * 4]? = some (.int .i64 d.plc.1) ∧ (flatD l)[k * 4 + 1]? = some (.int .i64 d.plc.2) ∧ (flatD l)[k * 4 + 2]? = some (.int .i64 d.tier) ∧ (flatD l)[k * 4 + 3]? = some (.string (bsL d.why))
  | [], k, d, h => by simp at h
  | x :: l, 0, d, h => by
    simp only [List.getElem?_cons_zero, Option.some.injEq] at h
    subst h
    exact ⟨rfl, rfl, rfl, rfl⟩
  | x :: l, k + 1, d, h => by
    have ih := flatD_get (l := l) (k := k) (d := d) (by simpa using h)
    have e : flatD (x :: l) = cellsD x ++ flatD l := by unfold flatD; rw [List.flatMap_cons]
    have e4 : (cellsD x).length = 4 := rfl
    rw [e]
    refine ⟨?_, ?_, ?_, ?_⟩ <;> (rw [List.getElem?_append_right (by rw [e4]; omega), e4])
    · rw [show (k + 1) * 4 - 4 = k * 4 by omega]; exact ih.1
    · rw [show (k + 1) * 4 + 1 - 4 = k * 4 + 1 by omega]; exact ih.2.1
    · rw [show (k + 1) * 4 + 2 - 4 = k * 4 + 2 by omega]; exact ih.2.2.1
    · rw [show (k + 1) * 4 + 3 - 4 = k * 4 + 3 by omega]; exact ih.2.2.2
/-- A row of decisions of the call's own. -/
def OwnD (w : World) (base : Nat) (v : Value) (l : List Dec) : Prop := w.ownsRow base 49 4 v l.length (flatD l)
def plcV (a : Plc) : Value := .agg #[.int .i64 a.1, .int .i64 a.2]
/-- How a call ends that turns the profile. -/
def To (H : World → Nat → Pst → (Nat → Prop) → Prop) (w : World) (p : Nat) (F : Nat → Prop) (t' : Pst) (v : Value) (e : Ending) (w' : World) : Prop := ∃ F', e = .returned v ∧ H w' p t' F' ∧ Chg F w w' ∧ Sub F F' w
/-- What package profile does. -/
structure Kit where
  V : World → Prop
  vkeep : ∀ {w w'}, V w → Below w.heap.size w w' → V w'
  H : World → Nat → Pst → (Nat → Prop) → Prop
  lt : ∀ {w p t F}, H w p t F → ∀ b, F b → b < w.heap.size
  keep : ∀ {w w' p t F}, H w p t F → (∀ b, F b → w'.heap[b]? = w.heap[b]?) → H w' p t F
  new : ∀ (w : World) (s m h c : Int), V w → I64 s → I64 m → I64 h → I64 c → okLim s m h c → Calls Tryd.prog 22 #[.int .i64 s, .int .i64 m, .int .i64 h, .int .i64 c] w fun e w' =>
    ∃ p F, e = .returned (.tuple #[.pointer (some ⟨p, 0, none⟩), .int .i64 0]) ∧ H w' p (st0 s m h c) F ∧ Below w.heap.size w w' ∧ ∀ b, F b → w.heap.size ≤ b
  bad : ∀ (w : World) (s m h c : Int), I64 s → I64 m → I64 h → I64 c → ¬ okLim s m h c → Calls Tryd.prog 22 #[.int .i64 s, .int .i64 m, .int .i64 h, .int .i64 c] w fun e w' =>
    e = .returned (.tuple #[.pointer none, .int .i64 1]) ∧ Below w.heap.size w w'
  back : ∀ (w : World) (p : Nat) (t : Pst) (F : Nat → Prop) (n : Nat) (a : Plc), H w p t F → V w → t.Ok n → n ≤ 1000000 → okP a →
    Calls Tryd.prog 23 #[.pointer (some ⟨p, 0, none⟩), plcV a] w (To H w p F (t.back a).2 (.bool (t.back a).1))
  left : ∀ (w : World) (p : Nat) (t : Pst) (F : Nat → Prop) (n : Nat) (a : Plc) (x : Int), H w p t F → V w → t.Ok n → n ≤ 1000000 → okP a → I64 x →
    Calls Tryd.prog 24 #[.pointer (some ⟨p, 0, none⟩), plcV a, .int .i64 x] w (To H w p F (t.left a x).2 (.bool (t.left a x).1))
  failed : ∀ (w : World) (p : Nat) (t : Pst) (F : Nat → Prop) (n : Nat) (a : Plc) (x : Int), H w p t F → V w → t.Ok n → n ≤ 1000000 → okP a → I64 x →
    Calls Tryd.prog 26 #[.pointer (some ⟨p, 0, none⟩), plcV a, .int .i64 x] w (To H w p F (t.failed a x) (.tuple #[]))
  tier : ∀ (w : World) (p : Nat) (t : Pst) (F : Nat → Prop) (n : Nat) (a : Plc), H w p t F → t.Ok n → okP a →
    Calls Tryd.prog 18 #[.pointer (some ⟨p, 0, none⟩), plcV a] w fun e w' => e = .returned (.int .i64 (t.tier a)) ∧ Below w.heap.size w w'
  decs : ∀ (w : World) (p : Nat) (t : Pst) (F : Nat → Prop) (n : Nat), H w p t F → t.Ok n → n ≤ 1000000 →
    Calls Tryd.prog 17 #[.pointer (some ⟨p, 0, none⟩)] w fun e w' => ∃ v, e = .returned v ∧ OwnD w' w.heap.size v t.D ∧ Below w.heap.size w w'
  text : ∀ (w : World) (p : Nat) (t : Pst) (F : Nat → Prop) (n : Nat), H w p t F → V w → t.Ok n → n ≤ 1000000 →
    Calls Tryd.prog 14 #[.pointer (some ⟨p, 0, none⟩)] w fun e w' => e = .returned (.string (bsL t.text)) ∧ Below w.heap.size w w'
theorem Kit.below (K : Kit) {w w' : World} {p : Nat} {t : Pst} {F : Nat → Prop} (h : K.H w p t F) (hb : Below w.heap.size w w') : K.H w' p t F := K.keep h fun b hF => hb.block b (K.lt h b hF)
theorem Kit.alloc (K : Kit) {w : World} {p : Nat} {t : Pst} {F : Nat → Prop} (h : K.H w p t F) (o : Obj) : K.H (w.alloc o) p t F := K.keep h fun b hF => Below.heap_alloc _ _ _ (K.lt h b hF)
theorem Kit.drewN (K : Kit) {w : World} {p : Nat} {t : Pst} {F : Nat → Prop} (h : K.H w p t F) (n : Nat) : K.H (w.drewN n) p t F := K.keep h fun _ _ => rfl
/-- The profile is the call's own, which began at w0. -/
structure Tr (K : Kit) (w0 w : World) (p : Nat) (t : Pst) (F : Nat → Prop) (n : Nat) : Prop where
  h : K.H w p t F
  b : Below w0.heap.size w0 w
  f : ∀ b, F b → w0.heap.size ≤ b
  v : K.V w0
  k : t.Ok n
  s : n ≤ 100000
section
variable {K : Kit} {w0 w w' : World} {p n : Nat} {t t' : Pst} {F F' : Nat → Prop}
theorem Tr.below (h : Tr K w0 w p t F n) (hb : Below w.heap.size w w') : Tr K w0 w' p t F n := ⟨K.below h.h hb, h.b.trans (hb.mono h.b.size), h.f, h.v, h.k, h.s⟩
theorem Tr.drewN (h : Tr K w0 w p t F n) (k : Nat) : Tr K w0 (w.drewN k) p t F n := ⟨K.drewN h.h k, h.b.trans ⟨rfl, rfl, rfl, Nat.le_refl _, fun _ _ => rfl⟩, h.f, h.v, h.k, h.s⟩
theorem Tr.drew (h : Tr K w0 w p t F n) : Tr K w0 w.drew p t F n := h.drewN 1
theorem Tr.alloc (h : Tr K w0 w p t F n) (o : Obj) : Tr K w0 (w.alloc o) p t F n := ⟨K.alloc h.h o, h.b.alloc h.b.size o, h.f, h.v, h.k, h.s⟩
theorem Tr.up (h : Tr K w0 w p t F n) {m : Nat} (hm : n ≤ m) (hs : m ≤ 100000) : Tr K w0 w p t F m := ⟨h.h, h.b, h.f, h.v, h.k.up hm, hs⟩
theorem Tr.step (h : Tr K w0 w p t F n) {m : Nat} (h' : K.H w' p t' F') (c : Chg F w w') (s : Sub F F' w) (k : t'.Ok m) (hm : m ≤ 100000) : Tr K w0 w' p t' F' m :=
  ⟨h', h.b.trans (c.below h.f h.b.size), fun b hb => (s b hb).elim (h.f b) fun g => Nat.le_trans h.b.size g, h.v, k, hm⟩
theorem new_at (hv : K.V w0) (b : Below w0.heap.size w0 w) {s m l c : Int} (hl : okLim s m l c) :
    Calls Tryd.prog 22 #[.int .i64 s, .int .i64 m, .int .i64 l, .int .i64 c] w fun e w' => ∃ p F, e = .returned (.tuple #[.pointer (some ⟨p, 0, none⟩), .int .i64 0]) ∧ Tr K w0 w' p (st0 s m l c) F 0 ∧ Below w.heap.size w w' ∧ ∀ b, F b → w.heap.size ≤ b := by
  obtain ⟨h1, h2, h3, h4⟩ := id hl
  exact (K.new w s m l c (K.vkeep hv b) (by unfold I64; omega) (by unfold I64; omega) (by unfold I64; omega) (by unfold I64; omega) hl).mono fun _e _w' ⟨p, F, he, h, hb, hF⟩ => ⟨p, F, he, ⟨h, b.trans (hb.mono b.size), fun x hx => Nat.le_trans b.size (hF x hx), hv, ok0 hl 0, by omega⟩, hb, hF⟩
theorem back_at (h : Tr K w0 w p t F n) (hn : n < 100000) {a : Plc} {o : Bool} (ha : okP a) (r : t.back a = (o, t')) :
    Calls Tryd.prog 23 #[.pointer (some ⟨p, 0, none⟩), plcV a] w fun e w' => ∃ F', e = .returned (.bool o) ∧ Tr K w0 w' p t' F' (n + 1) ∧ Chg F w w' ∧ Sub F F' w :=
  (K.back w p t F n a h.h (K.vkeep h.v h.b) h.k (by omega) ha).mono fun e w' ⟨F', he, h', c, s'⟩ => by
    have k := back_ok h.k ha
    rw [r] at he h' k
    exact ⟨F', he, h.step h' c s' k (by omega), c, s'⟩
theorem left_at (h : Tr K w0 w p t F n) (hn : n < 100000) {a : Plc} {x : Int} {o : Bool} (ha : okP a) (hx : I64 x) (r : t.left a x = (o, t')) :
    Calls Tryd.prog 24 #[.pointer (some ⟨p, 0, none⟩), plcV a, .int .i64 x] w fun e w' => ∃ F', e = .returned (.bool o) ∧ Tr K w0 w' p t' F' (n + 1) ∧ Chg F w w' ∧ Sub F F' w :=
  (K.left w p t F n a x h.h (K.vkeep h.v h.b) h.k (by omega) ha hx).mono fun e w' ⟨F', he, h', c, s'⟩ => by
    have k := left_ok h.k (by omega) ha hx
    rw [r] at he h' k
    exact ⟨F', he, h.step h' c s' k (by omega), c, s'⟩
theorem failed_at (h : Tr K w0 w p t F n) (hn : n < 100000) {a : Plc} {x : Int} (ha : okP a) (hx : I64 x) (r : t.failed a x = t') :
    Calls Tryd.prog 26 #[.pointer (some ⟨p, 0, none⟩), plcV a, .int .i64 x] w fun e w' => ∃ F', e = .returned (.tuple #[]) ∧ Tr K w0 w' p t' F' (n + 1) ∧ Chg F w w' ∧ Sub F F' w :=
  (K.failed w p t F n a x h.h (K.vkeep h.v h.b) h.k (by omega) ha hx).mono fun e w' ⟨F', he, h', c, s'⟩ => by
    have k := failed_ok h.k ha hx
    rw [r] at h' k
    exact ⟨F', he, h.step h' c s' k (by omega), c, s'⟩
theorem tier_at (h : Tr K w0 w p t F n) {a : Plc} (ha : okP a) {x : Int} (r : t.tier a = x) :
    Calls Tryd.prog 18 #[.pointer (some ⟨p, 0, none⟩), plcV a] w fun e w' => e = .returned (.int .i64 x) ∧ Tr K w0 w' p t F n ∧ Below w.heap.size w w' :=
  (K.tier w p t F n a h.h h.k ha).mono fun e w' ⟨he, hb⟩ => by rw [r] at he; exact ⟨he, h.below hb, hb⟩
theorem decs_at (h : Tr K w0 w p t F n) {l : List Dec} (r : t.D = l) :
    Calls Tryd.prog 17 #[.pointer (some ⟨p, 0, none⟩)] w fun e w' => ∃ v, e = .returned v ∧ OwnD w' w.heap.size v l ∧ Tr K w0 w' p t F n ∧ Below w.heap.size w w' :=
  (K.decs w p t F n h.h h.k (by have := h.s; omega)).mono fun e w' ⟨v, he, ho, hb⟩ => by rw [r] at ho; exact ⟨v, he, ho, h.below hb, hb⟩
theorem text_at (h : Tr K w0 w p t F n) {x : ByteArray} (r : t.text = x.data.toList) :
    Calls Tryd.prog 14 #[.pointer (some ⟨p, 0, none⟩)] w fun e w' => e = .returned (.string x) ∧ Tr K w0 w' p t F n ∧ Below w.heap.size w w' :=
  (K.text w p t F n h.h (K.vkeep h.v h.b) h.k (by have := h.s; omega)).mono fun e w' ⟨he, hb⟩ => by rw [r, bsL_of] at he; exact ⟨he, h.below hb, hb⟩
/-- A row of decisions: whatever it owns, what it reads as. -/
def SlD (w : World) (P : Nat → Prop) (A : Option Addr) (l : List Dec) : Prop :=
  ∀ j d, l[j]? = some d → ∃ g, A = some ⟨g, 0, none⟩ ∧ P g ∧ w.cell? ⟨g, j * 4, none⟩ = some (.int .i64 d.plc.1) ∧ w.cell? ⟨g, j * 4 + 1, none⟩ = some (.int .i64 d.plc.2) ∧ w.cell? ⟨g, j * 4 + 2, none⟩ = some (.int .i64 d.tier) ∧ w.cell? ⟨g, j * 4 + 3, none⟩ = some (.string (bsL d.why))
theorem SlD.low {P : Nat → Prop} {A : Option Addr} {l : List Dec} (h : SlD w P A l) (hP : ∀ b, P b → b < w.heap.size) (hb : Below w.heap.size w w') : SlD w' P A l := fun j x hx => by
  obtain ⟨g, hA, hg, h0, h1, h2, h3⟩ := h j x hx
  exact ⟨g, hA, hg, (hb.cell (p := ⟨g, _, none⟩) (hP g hg)).trans h0, (hb.cell (p := ⟨g, _, none⟩) (hP g hg)).trans h1, (hb.cell (p := ⟨g, _, none⟩) (hP g hg)).trans h2, (hb.cell (p := ⟨g, _, none⟩) (hP g hg)).trans h3⟩
theorem OwnD.form {w : World} {base : Nat} {v : Value} {l : List Dec} (h : OwnD w base v l) :
    ∃ A c, v = .slice A l.length c ∧ (A = none → c = 0) ∧ l.length ≤ c ∧ SlD w (fun b => base ≤ b ∧ b < w.heap.size) A l := by
  rcases h.2 with ⟨rfl, h0⟩ | ⟨g, cap, cur, rfl, hb, hg, hn, hm, hs, ht⟩
  · have : l = [] := List.eq_nil_of_length_eq_zero h0
    subst this
    exact ⟨none, 0, rfl, fun _ => rfl, by simp, fun j x hx => by simp at hx⟩
  · refine ⟨_, _, rfl, (fun e => by cases e), hn, fun j z hz => ?_⟩
    have hl := (List.getElem?_eq_some_iff.1 hz).1
    obtain ⟨e0, e1, e2, e3⟩ := flatD_get hz
    have key : ∀ (i : Nat) (x : Value), (flatD l)[i]? = some x → w.cell? ⟨g, i, none⟩ = some x := fun i x hx => by
      have := h.cells (g := g) rfl i x hx
      rw [← this]
      congr 1
      unfold Addr.add
      split
      · rename_i e; rw [← e]
      · simp
    exact ⟨_, rfl, ⟨hb, h.lt g rfl |>.2⟩, key _ _ e0, key _ _ e1, key _ _ e2, key _ _ e3⟩
end
end Go.Proofs.YtjoffbgfokedlaaDoor.Pf
