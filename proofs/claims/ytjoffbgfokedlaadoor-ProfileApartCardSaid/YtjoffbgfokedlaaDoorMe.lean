/-
  'm[place]++' on a map of the call's own: places to numbers.
-/
import Derived.Test.YtjoffbgfokedlaaDoorSa
import Derived.WideKeyEntry
import Derived.Maps.RangeWalk
namespace Go.Proofs.YtjoffbgfokedlaaDoor.Pf
open Go Go.RowKit Go.Maps Go.ChangeShapes Go.WideShapes Go.MapKept Go.ChangeMaps
open Go.WideElems (Fit)
open Go.WideMaps (KeyLaw)

section
variable {H : Type} {P : Program} {w : World} {t k e : TypeId} {R : Value → Option (DataW H × List MemPlace)} {b : Nat} {es : Array MapEntry} {clock : Nat}
/-- The entry that 'm[k] op= x' lays is what laying the looked-up value would lay. -/
theorem entry_all (K : KeyLaw P k) (ht : P.underlying t = some (.map k e)) {z : Value} (hz : ∀ u : World, (zeroValue e).run P u = .ok z u) (hb : w.heap[b]? = some (.map es clock)) (F : Fit P k R es clock) {key : Value} {kl : Lit} (hkey : keyOf P k key = some kl) :
    ∃ (v0 : Value) (st : Nat) (es1 : Array MapEntry) (c1 : Nat), (Instr.mapEntry t (.map (some b)) key).run P w = .ok (.tuple #[v0, goInt st]) (setBlock w b (.map es1 c1)) ∧ (Instr.lookup t (.map (some b)) key false).run P w = .ok v0 w ∧
      (Instr.mapUpdate t (.map (some b)) key v0).run P w = .ok () (setBlock w b (.map es1 c1)) := by
  rcases K.find w hkey es.toList F.keys with ⟨h1, _⟩ | ⟨j, e0, h1, h2, h3⟩
  · refine ⟨z, clock, es.push ⟨key, z, clock⟩, clock + 1, ?_, ?_, ?_⟩
    · simp [Instr.mapEntry, run_underlying ht, MapKept.run_getObj_map hb, K.check w false hkey, h1, hz, MapKept.run_setObj_map _ hb, Result.andThen, setBlock]
    · simp [Instr.lookup, run_underlying ht, MapKept.run_getObj_map hb, K.check w _ hkey, h1, hz, Result.andThen]
    · simp [Instr.mapUpdate, run_underlying ht, MapKept.run_getObj_map hb, K.check w false hkey, h1, MapKept.run_setObj_map _ hb, Result.andThen, setBlock]
  · have hj : es[j]? = some e0 := by simpa using h2
    have two : ∀ f : MapEntry → MapEntry, f e0 = e0 → es.modify j f = es := fun f hf => by
      apply Array.ext'
      rw [Array.toList_modify]
      apply List.ext_getElem?
      intro i
      rw [List.getElem?_modify]
      by_cases hi : j = i
      · subst hi; simp [h2, hf]
      · simp [hi]
    have s1 := two (fun e => { e with key := key }) (by rw [← h3])
    have s2 := two (fun e' => { e' with key := key, val := e0.val }) (by rw [← h3])
    refine ⟨e0.val, e0.born, es, clock, ?_, ?_, ?_⟩
    · simp [Instr.mapEntry, run_underlying ht, MapKept.run_getObj_map hb, K.check w false hkey, h1, hj, h3, K.stays w hkey, s1, MapKept.run_setObj_map _ hb, Result.andThen, setBlock]
    · simp [Instr.lookup, run_underlying ht, MapKept.run_getObj_map hb, K.check w _ hkey, h1, Result.andThen]
    · simp [Instr.mapUpdate, run_underlying ht, MapKept.run_getObj_map hb, K.check w false hkey, h1, hj, h3, K.stays w hkey, s2, MapKept.run_setObj_map _ hb, Result.andThen, setBlock]
end
set_option maxRecDepth 100000 in
theorem keyLaw : KeyLaw Tryd.prog 43 := deep_law_laid laidOutP (m := 2) (by omega) keyRow (by kernel_rfl) keyWide
local notation "PInt" => (plainElem (H := Unit) Tryd.prog 3)
set_option maxRecDepth 100000 in
theorem own_inc {w : World} {b n : Nat} {D : DataW Unit} (h : w.ownsMap Tryd.prog 43 PInt b n D) (hn : n + 1 < maxLen) {a : Plc} (ha : okP a) :
    ∃ c st w1, (Instr.lookup 47 (.map (some b)) (plcV a) false).run Tryd.prog w = .ok (.int .i64 c) w ∧ D.atKey (keyL a) (.lit (.int .i64 0)) = .lit (.int .i64 c) ∧ (Lit.int .i64 c).wf = true ∧
      (Instr.mapEntry 47 (.map (some b)) (plcV a)).run Tryd.prog w = .ok (.tuple #[.int .i64 c, .int .i64 st]) w1 ∧ w.grownBy w1 (some b) ∧ w1.heap.size = w.heap.size ∧
      (Instr.lookup 47 (.map (some b)) (plcV a) false).run Tryd.prog w1 = .ok (.int .i64 c) w1 ∧
      ∀ x, I64 x → ∃ w2, (Instr.entryStore 47 (.map (some b)) (.int .i64 st) (.int .i64 x)).run Tryd.prog w1 = .ok () w2 ∧ w2.ownsMap Tryd.prog 43 PInt b (n + 1) (D.put (keyL a) (.lit (.int .i64 x))) ∧ w.grownBy w2 (some b) := by
  have hu := Tryd.underlying47
  have hi := Tryd.underlying3
  obtain ⟨c, l1, l2, l3⟩ := h.lookup_int keyed hu hi (zeroInt w) (keyOf_mk ha)
  obtain ⟨es, clock, hb, F, hs, hD⟩ := id h
  obtain ⟨v0, st, es1, c1, m1, m2, m3⟩ := entry_all keyLaw hu zeroInt hb F (keyOf_mk ha)
  have hv : v0 = .int .i64 c := by rw [l1] at m2; injection m2 with m2; exact m2.symm
  subst hv
  obtain ⟨v0', st', es1', c1', m4, _, m6⟩ := WideElems.entry_then_store keyLaw hu zeroInt hb F (keyOf_mk ha)
  rw [m1] at m4
  injection m4 with e1 e2
  injection e1 with e1
  have e3 : (goInt st : Value) = goInt st' := by
    have := congrArg (fun a : Array Value => a[1]?) e1
    simpa using this
  obtain ⟨w1, u1, u2, u3⟩ := h.update keyed hu (by omega) (keyOf_mk ha) (plainElem_int (H := Unit) hi l3)
  rw [u1] at m3
  injection m3 with _ m3
  have hw1 : (setBlock w b (.map es1 c1)).heap[b]? = some (.map es1 c1) := heap_setBlock_same hb _
  refine ⟨c, st, setBlock w b (.map es1 c1), l1, l2, l3, m1, m3 ▸ u3, by simp [setBlock], ?_, fun x hx => ?_⟩
  · rw [m3] at u2
    obtain ⟨c', q1, q2, _⟩ := u2.lookup_int keyed hu hi (zeroInt _) (keyOf_mk ha)
    rw [q1]
    rw [atKey_put_same h.isMap (keyed.key (keyOf_mk ha))] at q2
    simp only [DataW.lit.injEq, Lit.int.injEq, true_and] at q2
    rw [q2]
  · obtain ⟨es2, c2, s1, s2⟩ := m6 (setBlock w b (.map es1 c1)) (.int .i64 x) (e2 ▸ heap_setBlock_same hb _)
    obtain ⟨w2, u4, u5, u6⟩ := h.update keyed hu (by omega) (keyOf_mk ha) (plainElem_int (H := Unit) hi (wf_int hx))
    rw [u4] at s2
    injection s2 with _ s2
    refine ⟨w2, ?_, u5, u6⟩
    rw [show (Value.int .i64 (st : Int)) = goInt st' from e3, s1, s2]
    congr 1
    simp [setBlock]
end Go.Proofs.YtjoffbgfokedlaaDoor.Pf
