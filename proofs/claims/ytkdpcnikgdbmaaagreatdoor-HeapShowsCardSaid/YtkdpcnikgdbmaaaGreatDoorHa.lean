/-
  Layer 4: values and cells as data; which are right; rows of values in memory.
-/
import Derived.Test.YtkdpcnikgdbmaaaGreatDoorVa
import Derived.Test.YtkdpcnikgdbmaaaGreatDoorVb
import Derived.WalkLawsBesides
import Derived.WalkSpells
import Derived.Deep.QuietTactic
import Derived.BigQuiet
import Derived.Lib.Hide
import Derived.Below
import Derived.OwnWalk
import Derived.Laws.AppendOwn
import Derived.Laws.AppendOwnNone
import Derived.Laws.OwnMore
import Derived.Deep.AppendLies
import Derived.Lib.SliceRun
import Derived.Deep.LoopGhost
namespace Go.Proofs.YtkdpcnikgdbmaaaGreatDoor.Hp
open Go Go.RowKit Va

def I64 (n : Int) : Prop := -9223372036854775808 ≤ n ∧ n ≤ 9223372036854775807
structure Val where
  k : Int
  n : Int
  s : ByteArray
structure Cel where
  kind : Int
  cls : Int
  fn : Int
  ten : Int
  names : List ByteArray
  items : List Val
def Val.right (v : Val) : Bool := rightB v.k v.n v.s
def okB (v : Val) : Bool := !decide (v.k = 0) && v.right
def storB (l : List Val) : Bool := decide (l.length ≤ 64) && l.all okB
def targB : List Val → Bool
  | [v] => (decide (v.k = 1) || decide (v.k = 5)) && okB v
  | _ => false
def eachB (ns : List ByteArray) (m : Nat) : Bool := decide (ns.length = m) && decide (ns.Nodup) && ns.all fun s => decide (s.size ≠ 0)
def Cel.right (c : Cel) : Bool :=
  decide (0 ≤ c.ten ∧ c.ten < 4) &&
    if c.kind = 1 then decide (0 ≤ c.cls) && decide (c.fn = 0) && storB c.items && eachB c.names c.items.length
    else if c.kind = 2 then decide (c.cls = 0) && decide (c.fn = 0) && storB c.items && c.names.isEmpty
    else if c.kind = 3 then decide (c.cls = 0) && decide (0 ≤ c.fn) && storB c.items && c.names.isEmpty
    else if c.kind = 4 then decide (c.cls = 0) && decide (c.fn = 0) && targB c.items && c.names.isEmpty
    else false
/-- What fits into memory: ints of 64 bits, strings that are no longer than strings are. -/
def Val.Fits (v : Val) : Prop := I64 v.k ∧ I64 v.n ∧ v.s.size ≤ maxLen
def valV (v : Val) : Value := .agg #[.int .i64 v.k, .int .i64 v.n, .string v.s]
def flatV (l : List Val) : List Value := l.flatMap fun v => [.int .i64 v.k, .int .i64 v.n, .string v.s]
/-- A row of values that is read; its cells lie in blocks of P. -/
def ValsAt (w : World) (P : Nat → Prop) (A : Option Addr) (l : List Val) : Prop :=
  ∀ j v, l[j]? = some v → ∃ b o, A = some ⟨b, o, none⟩ ∧ P b ∧ w.cell? ⟨b, o + j * 3, none⟩ = some (.int .i64 v.k) ∧ w.cell? ⟨b, o + j * 3 + 1, none⟩ = some (.int .i64 v.n) ∧ w.cell? ⟨b, o + j * 3 + 2, none⟩ = some (.string v.s)
theorem ValsAt.keep {w w' : World} {P Q : Nat → Prop} {A : Option Addr} {l : List Val} (h : ValsAt w P A l) (hk : ∀ b, P b → Q b ∧ w'.heap[b]? = w.heap[b]?) : ValsAt w' Q A l := fun j v hv => by
  obtain ⟨b, o, rfl, hb, h0, h1, h2⟩ := h j v hv
  have e : ∀ i, w'.cell? ⟨b, i, none⟩ = w.cell? ⟨b, i, none⟩ := fun i => World.cell?_of_block (a := ⟨b, i, none⟩) (hk b hb).2
  exact ⟨b, o, rfl, (hk b hb).1, (e _).trans h0, (e _).trans h1, (e _).trans h2⟩
theorem ValsAt.low {w w' : World} {P : Nat → Prop} {A : Option Addr} {l : List Val} (h : ValsAt w P A l) (hP : ∀ b, P b → b < w.heap.size) (hb : Below w.heap.size w w') : ValsAt w' P A l :=
  h.keep fun b h' => ⟨h', hb.block b (hP b h')⟩
/-- A block that is known whole. -/
def Bk (w : World) (b : Nat) (c : Array Value) (T : TypeId) : Prop := w.heap[b]? = some (.cells c T (0, 0))
theorem Bk.lt {w : World} {b : Nat} {c : Array Value} {T : TypeId} (h : Bk w b c T) : b < w.heap.size := by
  unfold Bk at h
  exact (Array.getElem?_eq_some_iff.1 h).1
theorem Bk.new (w : World) (c : Array Value) (T : TypeId) : Bk (w.alloc (.cells c T)) w.heap.size c T := heap_alloc_new w _
theorem Bk.below {w w' : World} {b C : Nat} {c : Array Value} {T : TypeId} (h : Bk w b c T) (hb : Below C w w') (hC : b < C) : Bk w' b c T := by
  unfold Bk at *
  rw [hb.block b hC]; exact h
theorem Bk.alloc {w : World} {b : Nat} {c : Array Value} {T : TypeId} (h : Bk w b c T) (o : Obj) : Bk (w.alloc o) b c T := by
  have := h.lt
  unfold Bk at *
  rw [Below.heap_alloc _ _ _ this]; exact h
theorem Bk.cell {w : World} {b : Nat} {c : Array Value} {T : TypeId} (h : Bk w b c T) (i : Nat) (v : Value) (hv : c[i]? = some v) : w.cell? ⟨b, i, none⟩ = some v := by
  rw [cell_of_row w b i c T (0, 0) h]; exact hv
theorem Bk.low {w w' : World} {b : Nat} {c : Array Value} {T : TypeId} (hb : Below w.heap.size w w') (h : Bk w b c T) : Bk w' b c T := h.below hb h.lt
theorem Bk.set {w : World} {b : Nat} {c : Array Value} {T : TypeId} (h : Bk w b c T) (i : Nat) (v : Value) : Bk (w.setCell ⟨b, i, none⟩ v) b (c.setIfInBounds i v) T := by
  unfold Bk at h ⊢
  unfold World.setCell
  simp only [Array.getElem?_modify, if_true, h]
  rfl
theorem Bk.frozen {w : World} {b : Nat} {c : Array Value} {T : TypeId} (h : Bk w b c T) (i : Nat) : w.frozen? ⟨b, i, none⟩ = false := by
  unfold Bk at h
  simp [World.frozen?, h]
end Go.Proofs.YtkdpcnikgdbmaaaGreatDoor.Hp
