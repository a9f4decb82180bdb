/-
  A map of the call's own, of places to numbers, as a function.
-/
import Derived.Test.YtjoffbgfokedlaaDoorMe
import Derived.Test.YtjoffbgfokedlaaDoorPk
namespace Go.Proofs.YtjoffbgfokedlaaDoor.Pf
open Go Go.RowKit Go.Maps

/-- Block b is a map that reads as g, nought where nothing is. -/
def MI (w : World) (b n : Nat) (g : Plc → Int) : Prop := ∃ D, w.ownsMap Tryd.prog 43 (plainElem (H := Unit) Tryd.prog 3) b n D ∧ ∀ a, okP a → D.atKey (keyL a) (.lit (.int .i64 0)) = .lit (.int .i64 (g a))
theorem MI.made (w : World) : MI (w.alloc (.map #[] 0)) w.heap.size 0 fun _ => 0 := ⟨_, World.ownsMap_made w _ _ _, fun a _ => by simp [DataW.atKey]⟩
theorem MI.keep {w w' : World} {b n : Nat} {g : Plc → Int} (h : MI w b n g) (hk : w'.heap[b]? = w.heap[b]?) : MI w' b n g := by
  obtain ⟨D, h1, h2⟩ := h
  exact ⟨D, map_keep h1 hk, h2⟩
theorem MI.lt {w : World} {b n : Nat} {g : Plc → Int} (h : MI w b n g) : b < w.heap.size := by
  obtain ⟨D, h1, h2⟩ := h
  exact h1.lt
theorem MI.low {w w' : World} {b n : Nat} {g : Plc → Int} (h : MI w b n g) (hb : Below w.heap.size w w') : MI w' b n g := h.keep (hb.block b h.lt)
theorem MI.look {w : World} {b n : Nat} {g : Plc → Int} (h : MI w b n g) {a : Plc} (ha : okP a) :
    (Instr.lookup 47 (.map (some b)) (plcV a) false).run Tryd.prog w = .ok (.int .i64 (g a)) w := by
  obtain ⟨D, h1, h2⟩ := h
  obtain ⟨c, l1, l2, _⟩ := h1.lookup_int keyed Tryd.underlying47 Tryd.underlying3 (zeroInt w) (keyOf_mk ha)
  rw [h2 a ha] at l2
  simp only [DataW.lit.injEq, Lit.int.injEq, true_and] at l2
  rw [l1, l2]
theorem MI.put {w : World} {b n : Nat} {g : Plc → Int} (h : MI w b n g) (hn : n + 1 < maxLen) {a : Plc} (ha : okP a) {x : Int} (hx : I64 x) :
    ∃ w', (Instr.mapUpdate 47 (.map (some b)) (plcV a) (.int .i64 x)).run Tryd.prog w = .ok () w' ∧ MI w' b (n + 1) (fun c => if c = a then x else g c) ∧ w.grownBy w' (some b) := by
  obtain ⟨D, h1, h2⟩ := h
  obtain ⟨w', u1, u2, u3⟩ := h1.update keyed Tryd.underlying47 (by omega) (keyOf_mk ha) (plainElem_int (H := Unit) Tryd.underlying3 (wf_int hx))
  refine ⟨w', u1, ⟨_, u2, fun c hc => ?_⟩, u3⟩
  by_cases e : c = a
  · subst e
    rw [atKey_put_same h1.isMap (keyed.key (keyOf_mk ha))]; simp
  · rw [atKey_put_other (fun e2 => e (keyL_inj hc ha e2)), h2 c hc]; simp [e]
theorem MI.inc {w : World} {b n : Nat} {g : Plc → Int} (h : MI w b n g) (hn : n + 1 < maxLen) {a : Plc} (ha : okP a) (hx : I64 (g a + 1)) :
    ∃ st w1 w2, (Instr.mapEntry 47 (.map (some b)) (plcV a)).run Tryd.prog w = .ok (.tuple #[.int .i64 (g a), .int .i64 st]) w1 ∧ w.grownBy w1 (some b) ∧
      (Instr.lookup 47 (.map (some b)) (plcV a) false).run Tryd.prog w1 = .ok (.int .i64 (g a)) w1 ∧
      (Instr.entryStore 47 (.map (some b)) (.int .i64 st) (.int .i64 (g a + 1))).run Tryd.prog w1 = .ok () w2 ∧ MI w2 b (n + 1) (fun c => if c = a then g a + 1 else g c) ∧ w.grownBy w2 (some b) := by
  obtain ⟨D, h1, h2⟩ := h
  obtain ⟨c, st, w1, l1, l2, _, m1, m2, _, m4, m5⟩ := own_inc h1 hn ha
  rw [h2 a ha] at l2
  simp only [DataW.lit.injEq, Lit.int.injEq, true_and] at l2
  subst l2
  obtain ⟨w2, s1, s2, s3⟩ := m5 _ hx
  refine ⟨st, w1, w2, m1, m2, m4, s1, ⟨_, s2, fun e he => ?_⟩, s3⟩
  by_cases e' : e = a
  · subst e'
    rw [atKey_put_same h1.isMap (keyed.key (keyOf_mk ha))]; simp
  · rw [atKey_put_other (fun e2 => e' (keyL_inj he ha e2)), h2 e he]; simp [e']
theorem MI.grown {w w' : World} {b c n : Nat} {g : Plc → Int} (h : MI w b n g) (hg : w.grownBy w' (some c)) (hne : b ≠ c) : MI w' b n g := h.keep (hg.block b h.lt fun e => hne (Option.some.inj e))
theorem MI.to {w : World} {b n m : Nat} {g g' : Plc → Int} (h : MI w b n g) (hm : n ≤ m) (hg : ∀ a, g a = g' a) : MI w b m g' := by
  obtain ⟨D, h1, h2⟩ := h
  exact ⟨D, h1.mono hm, fun a ha => by rw [h2 a ha, hg a]⟩
section
variable {K : Kit} {w0 w w' : World} {p n : Nat} {t : Pst} {F : Nat → Prop}
theorem Tr.grown (h : Tr K w0 w p t F n) {b : Nat} (hg : w.grownBy w' (some b)) (hF : ¬ F b) (hb : w0.heap.size ≤ b) : Tr K w0 w' p t F n :=
  ⟨K.keep h.h fun x hx => hg.block x (K.lt h.h x hx) fun e => hF (Option.some.inj e ▸ hx), ⟨hg.os.trans h.b.os, hg.tape.trans h.b.tape, hg.output.trans h.b.output, Nat.le_trans h.b.size hg.size, fun k hk => (hg.block k (Nat.lt_of_lt_of_le hk h.b.size) (fun e => by have := Option.some.inj e; omega)).trans (h.b.block k hk)⟩, h.f, h.v, h.k, h.s⟩
theorem Bk.grown {b c : Nat} {cs : Array Value} {T : TypeId} (h : Bk w b cs T) (hg : w.grownBy w' (some c)) (hne : b ≠ c) : Bk w' b cs T := by
  have hl := h.lt
  unfold Bk at *
  rw [hg.block b hl fun e => hne (Option.some.inj e)]; exact h
theorem SlD.keepP {P : Nat → Prop} {A : Option Addr} {l : List Dec} (h : SlD w P A l) (hk : ∀ b, P b → w'.heap[b]? = w.heap[b]?) : SlD w' P A l := fun j x hx => by
  obtain ⟨g, hA, hg, h0, h1, h2, h3⟩ := h j x hx
  exact ⟨g, hA, hg, (World.cell?_of_block (hk g hg)).trans h0, (World.cell?_of_block (hk g hg)).trans h1, (World.cell?_of_block (hk g hg)).trans h2, (World.cell?_of_block (hk g hg)).trans h3⟩
theorem below_grown {c : World} {b : Nat} (h : Below w.heap.size w w') (k : w'.grownBy c (some b)) (hb : w.heap.size ≤ b) : Below w.heap.size w c :=
  ⟨k.os.trans h.os, k.tape.trans h.tape, k.output.trans h.output, Nat.le_trans h.size k.size, fun i hi => (k.block i (Nat.lt_of_lt_of_le hi h.size) (fun e => by have := Option.some.inj e; omega)).trans (h.block i hi)⟩
theorem grownBy_of_below (h : Below w.heap.size w w') : w.grownBy w' none := ⟨h.os, h.tape, h.output, h.size, fun i hi _ => h.block i hi⟩
end
end Go.Proofs.YtjoffbgfokedlaaDoor.Pf
