/-
  Maps of ints to bools, read and written; ranges over sets of ids.
-/
import Derived.Test.YtkdpcnikgdbmaaaGreatDoorPb
namespace Go.Proofs.YtkdpcnikgdbmaaaGreatDoor.Hp
open Go Go.RowKit Go.Maps Go.Sort Go.Shelf Va

/-- Block b is a map of ints to bools of at most n keys, which reads as Q. -/
def RsnI (w : World) (b n : Nat) (Q : Int → Bool) : Prop :=
  ∃ D : DataW Unit, w.ownsMap Tryz.prog 3 (plainElem Tryz.prog 4) b n D ∧ ∀ i, I64 i → D.atKey (.int .i64 i) (.lit (.bool false)) = .lit (.bool (Q i))
theorem RsnI.lt {w : World} {b n : Nat} {Q : Int → Bool} (h : RsnI w b n Q) : b < w.heap.size := by obtain ⟨_, h, _⟩ := h; exact h.lt
theorem RsnI.keep {w w' : World} {b n : Nat} {Q : Int → Bool} (h : RsnI w b n Q) (hk : w'.heap[b]? = w.heap[b]?) : RsnI w' b n Q := by
  obtain ⟨D, ⟨es, clock, hm, h'⟩, h2⟩ := h
  exact ⟨D, ⟨es, clock, hk.trans hm, h'⟩, h2⟩
theorem RsnI.made (w : World) : RsnI (w.alloc (.map #[] 0)) w.heap.size 0 fun _ => false :=
  ⟨_, World.ownsMap_made w _ _ _, fun i _ => by simp [DataW.atKey]⟩
theorem RsnI.congr {w : World} {b n : Nat} {Q Q' : Int → Bool} (h : RsnI w b n Q) (e : ∀ i, Q i = Q' i) : RsnI w b n Q' := by
  obtain ⟨D, h1, h2⟩ := h
  exact ⟨D, h1, fun i hi => by rw [h2 i hi, e i]⟩
set_option maxRecDepth 100000 in
theorem RsnI.look {w : World} {b n : Nat} {Q : Int → Bool} (h : RsnI w b n Q) {i : Int} (hi : I64 i) : (Instr.lookup 62 (.map (some b)) (.int .i64 i) false).run Tryz.prog w = .ok (.bool (Q i)) w := by
  obtain ⟨D, ho, hD⟩ := h
  obtain ⟨v, ps, hrun, hv⟩ := ho.lookup intLaw Tryz.underlying62 (zeroBool w) (plainElem_bool Tryz.underlying4 false) (key_int hi)
  rw [hD i hi] at hv
  rw [hrun]
  congr 1
  unfold plainElem at hv
  rw [Tryz.underlying4] at hv
  cases v <;> simp at hv
  rw [hv.1]
theorem RsnI.put {w1 : World} {b n : Nat} {Q : Int → Bool} {D : DataW Unit} {i : Int} {v : Bool} (ht : Tidy D) (hi : I64 i) (h1 : ∀ i, I64 i → D.atKey (.int .i64 i) (.lit (.bool false)) = .lit (.bool (Q i)))
    (h : w1.ownsMap Tryz.prog 3 (plainElem Tryz.prog 4) b (n + 1) (D.put (.int .i64 i) (.lit (.bool v)))) : RsnI w1 b (n + 1) fun x => if x = i then v else Q x := by
  have hI := ht.isMap
  refine ⟨_, h, fun x hx => ?_⟩
  by_cases e : x = i
  · subst e
    rw [atKey_put_same hI (by trivial)]
    simp
  · rw [atKey_put_other (fun h => e (Lit.int.inj h).2), h1 x hx]
    simp [e]
def idV (v : Value) : Value := v
theorem idV_inv (v : Value) (y : DataW Unit × List MemPlace) (_ : plainElem Tryz.prog 4 v = some y) : ∃ c, v = idV c := ⟨v, rfl⟩
theorem vals_take {w : World} {P : Nat → Prop} {A : Option Addr} {l : List Val} (k : Nat) (h : ValsAt w P A l) : ValsAt w P A (l.take k) := fun j v hv => by
  rw [List.getElem?_take] at hv
  split at hv
  · exact h j v hv
  · cases hv
theorem St2.far {w0 w w' : World} {t p : Nat} {l : List Ent} {next : Int} (h : St2 w0 t w p l next) (hk : ∀ g, g < t → w'.heap[g]? = w.heap[g]?) (hs : w.heap.size ≤ w'.heap.size) (hb : Below w0.heap.size w0 w') : St2 w0 t w' p l next := by
  obtain ⟨F, b, f, h, ht⟩ := h
  exact ⟨F, b, f, ⟨h.heap.keep fun g hg => ⟨hg, hk g (ht g hg)⟩, fun g hg => ⟨(h.own g hg).1, Nat.lt_of_lt_of_le (h.own g hg).2 hs⟩, hb, h.bnd⟩, ht⟩
end Go.Proofs.YtkdpcnikgdbmaaaGreatDoor.Hp
