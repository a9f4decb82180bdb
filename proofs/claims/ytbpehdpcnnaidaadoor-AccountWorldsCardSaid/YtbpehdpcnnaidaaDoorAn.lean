/-
  Slices of entries that are read; what Sums does.
-/
import Derived.Test.YtbpehdpcnnaidaaDoorAs
namespace Go.Proofs.YtbpehdpcnnaidaaDoor.Ac
open Go Go.RowKit

/-- An entry as its seven cells. -/
structure En where
  id : Int
  kind : Int
  cls : Int
  fn : Int
  ten : Int
  nA : Option Addr
  nn : Nat
  nc : Nat
  iA : Option Addr
  m : Nat
  ic : Nat
def En.cells (e : En) : List Value := [.int .i64 e.id, .int .i64 e.kind, .int .i64 e.cls, .int .i64 e.fn, .int .i64 e.ten, .slice e.nA e.nn e.nc, .slice e.iA e.m e.ic]
/-- The slice that begins at A reads as these entries, below block B. -/
def Se (w : World) (B : Nat) (A : Option Addr) (es : List En) : Prop :=
  ∀ j e, es[j]? = some e → ∃ g, A = some ⟨g, 0, none⟩ ∧ g < B ∧ ∀ i u, e.cells[i]? = some u → w.cell? ⟨g, j * 7 + i, none⟩ = some u
def sumOf (t : Int) : List En → Int
  | [] => 0
  | e :: es => (if e.ten = t then 16 + 8 * (e.m : Int) else 0) + sumOf t es
def sumsL (es : List En) (n : Int) : List Int := if 1 ≤ n ∧ n ≤ 4 then (List.range n.toNat).map (fun t : Nat => sumOf t es) else []
def Few (es : List En) : Prop := es.length ≤ 1000 ∧ ∀ e ∈ es, e.m ≤ 1000
theorem Few.one (e : En) (h : e.m ≤ 1000) : Few [e] := ⟨by simp, fun f hf => by simp at hf; subst hf; exact h⟩
/-- How a call of Sums ends. -/
def SumsTo (es : List En) (n : Int) (w : World) (e : Ending) (w' : World) : Prop :=
  ∃ v, e = .returned v ∧ OwnI w' w.heap.size v (sumsL es n) ∧ Below w.heap.size w w'
theorem sumOf_bd (t : Int) (es : List En) (h : ∀ e ∈ es, e.m ≤ 1000) : 0 ≤ sumOf t es ∧ sumOf t es ≤ 8016 * es.length := by
  induction es with
  | nil => simp [sumOf]
  | cons e es ih =>
    have h1 := ih (fun f hf => h f (List.mem_cons_of_mem _ hf))
    have h2 := h e List.mem_cons_self
    simp only [sumOf, List.length_cons]
    split <;> omega
theorem sumOf_append (t : Int) (es fs : List En) : sumOf t (es ++ fs) = sumOf t es + sumOf t fs := by
  induction es with
  | nil => simp [sumOf]
  | cons e es ih => simp only [List.cons_append, sumOf, ih]; omega
theorem make_any (N : Nat) (h1 : 1 ≤ N) (h4 : N ≤ 4) : ∀ w : World, (Instr.makeSlice 22 (.int .i64 N) (.int .i64 N)).run Tryd.prog w = .ok (.slice (some ⟨w.heap.size, 0, none⟩) N N) (w.alloc (.cells (Array.replicate N (.int .i64 0)) 3)) := by
  rcases (show N = 1 ∨ N = 2 ∨ N = 3 ∨ N = 4 by omega) with rfl | rfl | rfl | rfl
  all_goals
    intro w
    kernel_rfl
end Go.Proofs.YtbpehdpcnnaidaaDoor.Ac
