/-
  Frames by a set of blocks; rows of ints; what a package of caches does, in one word; a site of the call's own.
-/
import Derived.Test.YtpgjmmlgaanelaaDoorCm
import Derived.WalkKit
import Derived.WalkLawsBesides
import Derived.WalkSpells
import Derived.Deep.QuietTactic
import Derived.BigQuiet
import Derived.Lib.Hide
import Derived.Below
import Derived.OwnWalk
import Derived.Laws.AppendOwn
import Derived.Laws.AppendOwnNone
import Derived.Laws.OwnMore
import Derived.Deep.AppendLies
import Derived.Lib.SliceRun
import Derived.Deep.LoopGhost
namespace Go.Proofs.YtpgjmmlgaanelaaDoor.Ch
open Go Go.RowKit

theorem ret_bool {a b : Bool} (h : a = b) : Ending.returned (.bool a) = .returned (.bool b) := by rw [h]
/-- Only blocks of F, and new ones, have turned. -/
structure Chg (F : Nat → Prop) (w w' : World) : Prop where
  os : w'.os = w.os
  tape : w'.tape = w.tape
  output : w'.output = w.output
  size : w.heap.size ≤ w'.heap.size
  block : ∀ k, k < w.heap.size → ¬ F k → w'.heap[k]? = w.heap[k]?
theorem Chg.refl (F : Nat → Prop) (w : World) : Chg F w w := ⟨rfl, rfl, rfl, Nat.le_refl _, fun _ _ _ => rfl⟩
theorem Chg.trans {F G : Nat → Prop} {a b c : World} (h : Chg F a b) (k : Chg G b c) (hG : ∀ x, G x → F x ∨ a.heap.size ≤ x) : Chg F a c :=
  ⟨k.os.trans h.os, k.tape.trans h.tape, k.output.trans h.output, Nat.le_trans h.size k.size, fun i hi hf =>
    (k.block i (Nat.lt_of_lt_of_le hi h.size) (fun g => (hG i g).elim hf (by omega))).trans (h.block i hi hf)⟩
theorem Chg.below {F : Nat → Prop} {w w' : World} (h : Chg F w w') {B : Nat} (hF : ∀ x, F x → B ≤ x) (hB : B ≤ w.heap.size) : Below B w w' :=
  ⟨h.os, h.tape, h.output, h.size, fun k hk => h.block k (by omega) (fun f => by have := hF k f; omega)⟩
theorem Chg.of_below {F : Nat → Prop} {w w' : World} (h : Below w.heap.size w w') : Chg F w w' := ⟨h.os, h.tape, h.output, h.size, fun k hk _ => h.block k hk⟩
theorem Chg.cell {F : Nat → Prop} {w w' : World} (h : Chg F w w') {p : Addr} (hp : p.block < w.heap.size) (hF : ¬ F p.block) : w'.cell? p = w.cell? p := World.cell?_of_block (h.block _ hp hF)
/-- The site's blocks, and what a call may turn. -/
def Sub (F F' : Nat → Prop) (w : World) : Prop := ∀ b, F' b → F b ∨ w.heap.size ≤ b
def OwnI (w : World) (base : Nat) (v : Value) (ns : List Int) : Prop := w.ownsRow base 3 1 v ns.length (ns.map (Value.int .i64))
/-- A block that is known whole. -/
def Bk (w : World) (b : Nat) (c : Array Value) (T : TypeId) : Prop := w.heap[b]? = some (.cells c T (0, 0))
theorem Bk.lt {w : World} {b : Nat} {c : Array Value} {T : TypeId} (h : Bk w b c T) : b < w.heap.size := by
  unfold Bk at h
  exact (Array.getElem?_eq_some_iff.1 h).1
theorem Bk.new (w : World) (c : Array Value) (T : TypeId) : Bk (w.alloc (.cells c T)) w.heap.size c T := heap_alloc_new w _
theorem Bk.below {w w' : World} {b C : Nat} {c : Array Value} {T : TypeId} (h : Bk w b c T) (hb : Below C w w') (hC : b < C) : Bk w' b c T := by
  unfold Bk at *
  rw [hb.block b hC]; exact h
theorem Bk.alloc {w : World} {b : Nat} {c : Array Value} {T : TypeId} (h : Bk w b c T) (o : Obj) : Bk (w.alloc o) b c T := by
  have := h.lt
  unfold Bk at *
  rw [Below.heap_alloc _ _ _ this]; exact h
theorem Bk.cell {w : World} {b : Nat} {c : Array Value} {T : TypeId} (h : Bk w b c T) (i : Nat) (v : Value) (hv : c[i]? = some v) : w.cell? ⟨b, i, none⟩ = some v := by
  rw [cell_of_row w b i c T (0, 0) h]; exact hv
theorem Bk.low {w w' : World} {b : Nat} {c : Array Value} {T : TypeId} (hb : Below w.heap.size w w') (h : Bk w b c T) : Bk w' b c T := h.below hb h.lt
/-- How a call ends that turns the site. -/
def To (H : World → Nat → Ste → (Nat → Prop) → Prop) (w : World) (p : Nat) (F : Nat → Prop) (t' : Ste) (v : Value) (e : Ending) (w' : World) : Prop := ∃ F', e = .returned v ∧ H w' p t' F' ∧ Chg F w w' ∧ Sub F F' w
/-- What package cache does. -/
structure Kit where
  V : World → Prop
  vkeep : ∀ {w w'}, V w → Below w.heap.size w w' → V w'
  H : World → Nat → Ste → (Nat → Prop) → Prop
  lt : ∀ {w p t F}, H w p t F → ∀ b, F b → b < w.heap.size
  keep : ∀ {w w' p t F}, H w p t F → (∀ b, F b → w'.heap[b]? = w.heap[b]?) → H w' p t F
  new : ∀ (w : World), Calls Tryd.prog 11 #[] w fun e w' => ∃ p F, e = .returned (.pointer (some ⟨p, 0, none⟩)) ∧ H w' p st0 F ∧ Below w.heap.size w w' ∧ ∀ b, F b → w.heap.size ≤ b
  find : ∀ (w : World) (p : Nat) (t : Ste) (F : Nat → Prop) (n : Nat) (s : Int), H w p t F → t.Ok n → n ≤ 4611686018427387904 → I64 s →
    Calls Tryd.prog 18 #[.pointer (some ⟨p, 0, none⟩), .int .i64 s] w (To H w p F (t.find s).2 (.tuple #[.int .i64 (t.find s).1.1, .bool (t.find s).1.2]))
  learn : ∀ (w : World) (p : Nat) (t : Ste) (F : Nat → Prop) (n : Nat) (s v : Int), H w p t F → t.Ok n → I64 s → I64 v →
    Calls Tryd.prog 15 #[.pointer (some ⟨p, 0, none⟩), .int .i64 s, .int .i64 v] w (To H w p F (t.learn s v).2 (.int .i64 (t.learn s v).1))
  forget : ∀ (w : World) (p : Nat) (t : Ste) (F : Nat → Prop) (n : Nat) (s : Int), H w p t F → t.Ok n → I64 s →
    Calls Tryd.prog 16 #[.pointer (some ⟨p, 0, none⟩), .int .i64 s] w (To H w p F (t.forget s).2 (.bool (t.forget s).1))
  state : ∀ (w : World) (p : Nat) (t : Ste) (F : Nat → Prop) (n : Nat), H w p t F → t.Ok n →
    Calls Tryd.prog 17 #[.pointer (some ⟨p, 0, none⟩)] w fun e w' => e = .returned (.int .i64 t.state) ∧ Below w.heap.size w w'
  shapes : ∀ (w : World) (p : Nat) (t : Ste) (F : Nat → Prop) (n : Nat), H w p t F → t.Ok n →
    Calls Tryd.prog 19 #[.pointer (some ⟨p, 0, none⟩)] w fun e w' => ∃ v, e = .returned v ∧ OwnI w' w.heap.size v t.shapes ∧ Below w.heap.size w w'
  counts : ∀ (w : World) (p : Nat) (t : Ste) (F : Nat → Prop) (n : Nat), H w p t F → t.Ok n →
    Calls Tryd.prog 25 #[.pointer (some ⟨p, 0, none⟩)] w fun e w' => e = .returned (.tuple #[.int .i64 t.hits, .int .i64 t.miss]) ∧ Below w.heap.size w w'
  text : ∀ (w : World) (p : Nat) (t : Ste) (F : Nat → Prop) (n : Nat), H w p t F → V w → t.Ok n →
    Calls Tryd.prog 20 #[.pointer (some ⟨p, 0, none⟩)] w fun e w' => e = .returned (.string ⟨t.text.toArray⟩) ∧ Below w.heap.size w w'
theorem Kit.below (K : Kit) {w w' : World} {p : Nat} {t : Ste} {F : Nat → Prop} (h : K.H w p t F) (hb : Below w.heap.size w w') : K.H w' p t F := K.keep h fun b hF => hb.block b (K.lt h b hF)
theorem Kit.alloc (K : Kit) {w : World} {p : Nat} {t : Ste} {F : Nat → Prop} (h : K.H w p t F) (o : Obj) : K.H (w.alloc o) p t F := K.keep h fun b hF => Below.heap_alloc _ _ _ (K.lt h b hF)
theorem Kit.drewN (K : Kit) {w : World} {p : Nat} {t : Ste} {F : Nat → Prop} (h : K.H w p t F) (n : Nat) : K.H (w.drewN n) p t F := K.keep h fun _ _ => rfl
/-- The site is the call's own, which began at w0. -/
structure Tr (K : Kit) (w0 w : World) (p : Nat) (t : Ste) (F : Nat → Prop) (n : Nat) : Prop where
  h : K.H w p t F
  b : Below w0.heap.size w0 w
  f : ∀ b, F b → w0.heap.size ≤ b
  v : K.V w0
  k : t.Ok n
  s : n ≤ 1000
section
variable {K : Kit} {w0 w w' : World} {p n : Nat} {t t' : Ste} {F F' : Nat → Prop}
theorem Tr.below (h : Tr K w0 w p t F n) (hb : Below w.heap.size w w') : Tr K w0 w' p t F n := ⟨K.below h.h hb, h.b.trans (hb.mono h.b.size), h.f, h.v, h.k, h.s⟩
theorem Tr.drewN (h : Tr K w0 w p t F n) (k : Nat) : Tr K w0 (w.drewN k) p t F n := ⟨K.drewN h.h k, h.b.trans ⟨rfl, rfl, rfl, Nat.le_refl _, fun _ _ => rfl⟩, h.f, h.v, h.k, h.s⟩
theorem Tr.drew (h : Tr K w0 w p t F n) : Tr K w0 w.drew p t F n := h.drewN 1
theorem Tr.alloc (h : Tr K w0 w p t F n) (o : Obj) : Tr K w0 (w.alloc o) p t F n := ⟨K.alloc h.h o, h.b.alloc h.b.size o, h.f, h.v, h.k, h.s⟩
theorem Tr.up (h : Tr K w0 w p t F n) {m : Nat} (hm : n ≤ m) (hs : m ≤ 1000) : Tr K w0 w p t F m := ⟨h.h, h.b, h.f, h.v, h.k.up hm, hs⟩
theorem Tr.step (h : Tr K w0 w p t F n) {m : Nat} (h' : K.H w' p t' F') (c : Chg F w w') (s : Sub F F' w) (k : t'.Ok m) (hm : m ≤ 1000) : Tr K w0 w' p t' F' m :=
  ⟨h', h.b.trans (c.below h.f h.b.size), fun b hb => (s b hb).elim (h.f b) fun g => Nat.le_trans h.b.size g, h.v, k, hm⟩
theorem new_at (hv : K.V w0) (b : Below w0.heap.size w0 w) :
    Calls Tryd.prog 11 #[] w fun e w' => ∃ p F, e = .returned (.pointer (some ⟨p, 0, none⟩)) ∧ Tr K w0 w' p st0 F 0 ∧ Below w.heap.size w w' ∧ ∀ b, F b → w.heap.size ≤ b :=
  (K.new w).mono fun _e _w' ⟨p, F, he, h, hb, hF⟩ => ⟨p, F, he, ⟨h, b.trans (hb.mono b.size), fun x hx => Nat.le_trans b.size (hF x hx), hv, ok0, by omega⟩, hb, hF⟩
theorem find_at (h : Tr K w0 w p t F n) (hn : n < 1000) {s a : Int} {b : Bool} (hs : I64 s) (r : t.find s = ((a, b), t')) :
    Calls Tryd.prog 18 #[.pointer (some ⟨p, 0, none⟩), .int .i64 s] w fun e w' => ∃ F', e = .returned (.tuple #[.int .i64 a, .bool b]) ∧ Tr K w0 w' p t' F' (n + 1) ∧ Chg F w w' ∧ Sub F F' w :=
  (K.find w p t F n s h.h h.k (by omega) hs).mono fun e w' ⟨F', he, h', c, s'⟩ => by
    have k := find_ok h.k s
    rw [r] at he h' k
    exact ⟨F', he, h.step h' c s' k (by omega), c, s'⟩
theorem learn_at (h : Tr K w0 w p t F n) {s v a : Int} (hs : I64 s) (hv : I64 v) (r : t.learn s v = (a, t')) :
    Calls Tryd.prog 15 #[.pointer (some ⟨p, 0, none⟩), .int .i64 s, .int .i64 v] w fun e w' => ∃ F', e = .returned (.int .i64 a) ∧ Tr K w0 w' p t' F' n ∧ Chg F w w' ∧ Sub F F' w :=
  (K.learn w p t F n s v h.h h.k hs hv).mono fun e w' ⟨F', he, h', c, s'⟩ => by
    have k := learn_ok h.k hs hv
    rw [r] at he h' k
    exact ⟨F', he, h.step h' c s' k h.s, c, s'⟩
theorem forget_at (h : Tr K w0 w p t F n) {s : Int} {a : Bool} (hs : I64 s) (r : t.forget s = (a, t')) :
    Calls Tryd.prog 16 #[.pointer (some ⟨p, 0, none⟩), .int .i64 s] w fun e w' => ∃ F', e = .returned (.bool a) ∧ Tr K w0 w' p t' F' n ∧ Chg F w w' ∧ Sub F F' w :=
  (K.forget w p t F n s h.h h.k hs).mono fun e w' ⟨F', he, h', c, s'⟩ => by
    have k := forget_ok h.k s
    rw [r] at he h' k
    exact ⟨F', he, h.step h' c s' k h.s, c, s'⟩
theorem state_at (h : Tr K w0 w p t F n) {a : Int} (r : t.state = a) :
    Calls Tryd.prog 17 #[.pointer (some ⟨p, 0, none⟩)] w fun e w' => e = .returned (.int .i64 a) ∧ Tr K w0 w' p t F n ∧ Below w.heap.size w w' :=
  (K.state w p t F n h.h h.k).mono fun e w' ⟨he, hb⟩ => by rw [r] at he; exact ⟨he, h.below hb, hb⟩
theorem counts_at (h : Tr K w0 w p t F n) {a b : Int} (r : t.hits = a) (r' : t.miss = b) :
    Calls Tryd.prog 25 #[.pointer (some ⟨p, 0, none⟩)] w fun e w' => e = .returned (.tuple #[.int .i64 a, .int .i64 b]) ∧ Tr K w0 w' p t F n ∧ Below w.heap.size w w' :=
  (K.counts w p t F n h.h h.k).mono fun e w' ⟨he, hb⟩ => by rw [r, r'] at he; exact ⟨he, h.below hb, hb⟩
theorem text_at (h : Tr K w0 w p t F n) {x : ByteArray} (r : t.text = x.data.toList) :
    Calls Tryd.prog 20 #[.pointer (some ⟨p, 0, none⟩)] w fun e w' => e = .returned (.string x) ∧ Tr K w0 w' p t F n ∧ Below w.heap.size w w' :=
  (K.text w p t F n h.h (K.vkeep h.v h.b) h.k).mono fun e w' ⟨he, hb⟩ => by rw [r] at he; exact ⟨he, h.below hb, hb⟩
/-- A row of ints: whatever it owns, what it reads as. -/
def SlI (w : World) (P : Nat → Prop) (A : Option Addr) (ns : List Int) : Prop :=
  ∀ j x, ns[j]? = some x → ∃ g, A = some ⟨g, 0, none⟩ ∧ P g ∧ w.cell? ⟨g, j, none⟩ = some (.int .i64 x)
theorem SlI.low {P : Nat → Prop} {A : Option Addr} {ns : List Int} (h : SlI w P A ns) (hP : ∀ b, P b → b < w.heap.size) (hb : Below w.heap.size w w') : SlI w' P A ns := fun j x hx => by
  obtain ⟨g, hA, hg, hc⟩ := h j x hx
  exact ⟨g, hA, hg, (hb.cell (p := ⟨g, j, none⟩) (hP g hg)).trans hc⟩
theorem OwnI.form {w : World} {base : Nat} {v : Value} {ns : List Int} (h : OwnI w base v ns) :
    ∃ A c, v = .slice A ns.length c ∧ (A = none → c = 0) ∧ ns.length ≤ c ∧ SlI w (fun b => base ≤ b ∧ b < w.heap.size) A ns := by
  rcases h.2 with ⟨rfl, h0⟩ | ⟨g, cap, cur, rfl, hb, hg, hn, hm, hs, ht⟩
  · have : ns = [] := List.eq_nil_of_length_eq_zero h0
    subst this
    exact ⟨none, 0, rfl, fun _ => rfl, by simp, fun j x hx => by simp at hx⟩
  · refine ⟨_, _, rfl, (fun e => by cases e), hn, fun j z hz => ⟨_, rfl, ⟨hb, h.lt g rfl |>.2⟩, ?_⟩⟩
    have := h.cells (g := g) rfl j (.int .i64 z) (by rw [List.getElem?_map, hz]; rfl)
    rw [← this]
    congr 1
    unfold Addr.add
    split
    · rename_i e; rw [← e]
    · simp
theorem shapes_at (h : Tr K w0 w p t F n) {l : List Int} (r : t.shapes = l) :
    Calls Tryd.prog 19 #[.pointer (some ⟨p, 0, none⟩)] w fun e w' => ∃ v, e = .returned v ∧ OwnI w' w.heap.size v l ∧ Tr K w0 w' p t F n ∧ Below w.heap.size w w' :=
  (K.shapes w p t F n h.h h.k).mono fun e w' ⟨v, he, ho, hb⟩ => by rw [r] at ho; exact ⟨v, he, ho, h.below hb, hb⟩
end
end Go.Proofs.YtpgjmmlgaanelaaDoor.Ch
