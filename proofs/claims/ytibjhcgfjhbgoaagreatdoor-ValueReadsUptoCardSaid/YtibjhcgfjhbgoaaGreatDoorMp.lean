/-
  Laws on maps keyed by ints that the call itself makes: a literal's entries, a look-up. No dump is imported.
-/
import Derived.WalkKit
import Derived.MapKept
namespace Go.Proofs.YtibjhcgfjhbgoaaGreatDoor.Mp
open Go Go.RowKit

def keyIs (k : Int) (v : Value) : Bool := match v with | .int .i64 a => a == k | _ => false
def keyNot (k : Int) (v : Value) : Bool := match v with | .int .i64 a => !(a == k) | _ => false
def freeIn (es : List MapEntry) (k : Int) : Bool := es.all fun e => keyNot k e.key
def freeAt (w : World) (b : Nat) (k : Int) : Bool := match w.heap[b]? with | some (.map es _) => freeIn es.toList k | _ => false
def ins (w : World) (b : Nat) (k : Int) (v : Value) : World :=
  { w with heap := w.heap.modify b fun | .map es c => .map (es.push ⟨.int .i64 k, v, c⟩) (c + 1) | o => o }
def getIn (es : List MapEntry) (k : Int) : Option Value := (es.find? fun e => keyIs k e.key).map (·.val)
def intKeys (es : List MapEntry) : Bool := es.all fun e => match e.key with | .int .i64 _ => true | _ => false

theorem findNow_free (k : Int) : ∀ (es : List MapEntry) (i : Nat), freeIn es k = true → Instr.findNow (.int .i64) (.int .i64 k) es i = some none
  | [], _, _ => rfl
  | e :: es, i, h => by
    obtain ⟨key, val, born⟩ := e
    simp only [freeIn, List.all_cons, Bool.and_eq_true] at h
    cases key with
    | int q a =>
      obtain ⟨h0, h2⟩ := h
      cases q <;> simp [keyNot] at h0
      simp only [Instr.findNow, Instr.sameNow]
      rw [if_pos trivial]
      have : (k == a) = false := by simpa using fun e => h0 e.symm
      rw [this]
      exact findNow_free k es (i + 1) h2
    | _ => simp [keyNot] at h
theorem findNow_get (k : Int) : ∀ (es : List MapEntry) (i : Nat), intKeys es = true → ∃ r, Instr.findNow (.int .i64) (.int .i64 k) es i = some r ∧ r.map (·.2) = getIn es k
  | [], _, _ => ⟨none, rfl, rfl⟩
  | e :: es, i, h => by
    obtain ⟨key, val, born⟩ := e
    simp only [intKeys, List.all_cons, Bool.and_eq_true] at h
    cases key with
    | int q a =>
      cases q <;> simp at h
      obtain ⟨r, h1, h2⟩ := findNow_get k es (i + 1) (by simpa [intKeys] using h)
      by_cases hka : k = a
      · subst hka
        exact ⟨some (i, val), by simp [Instr.findNow, Instr.sameNow], by simp [getIn, keyIs]⟩
      · refine ⟨r, ?_, ?_⟩
        · simp only [Instr.findNow, Instr.sameNow]
          rw [if_pos trivial]
          have : (k == a) = false := by simpa using hka
          rw [this]
          exact h1
        · rw [h2]
          have : (a == k) = false := by simpa using fun e => hka e.symm
          simp [getIn, keyIs, this]
    | _ => simp at h

theorem run_ins {P : Program} {t kt et : TypeId} (ht : P.underlying t = some (.map kt et)) (hk : P.underlying kt = some (.int .i64)) (w : World) (b : Nat) (k : Int) (v : Value)
    (hf : freeAt w b k = true) : (Instr.mapUpdate t (.map (some b)) (.int .i64 k) v).run P w = .ok () (ins w b k v) := by
  unfold freeAt at hf
  split at hf
  · rename_i es c hb
    have hfind := findNow_free k es.toList 0 hf
    simp [Instr.mapUpdate, run_underlying ht, MapKept.run_getObj_map hb, MapKept.run_checkKey hk (k := .int .i64 k) (by simp [MapKept.IsKey]), MapKept.run_findKey hk hfind, MapKept.run_setObj_map _ hb, Result.andThen]
    unfold ins
    congr 1
    apply Array.ext_getElem?
    intro i
    simp only [Array.getElem?_modify, Array.getElem?_setIfInBounds]
    by_cases hi : b = i
    · subst hi
      have hlt : b < w.heap.size := (Array.getElem?_eq_some_iff.1 hb).1
      have hb' : w.heap[b] = .map es c := (Array.getElem?_eq_some_iff.1 hb).2
      simp [hlt, hb']
    · simp [hi]
  · simp at hf
/-- The run itself, under a name that simp does not open. -/
def slowIns (P : Program) (t : TypeId) (w : World) (b : Nat) (k : Int) (v : Value) : Result Unit := (Instr.mapUpdate t (.map (some b)) (.int .i64 k) v).run P w
theorem run_ins_if {P : Program} {t kt et : TypeId} (ht : P.underlying t = some (.map kt et)) (hk : P.underlying kt = some (.int .i64)) (w : World) (b : Nat) (k : Int) (v : Value) :
    (Instr.mapUpdate t (.map (some b)) (.int .i64 k) v).run P w = if freeAt w b k = true then .ok () (ins w b k v) else slowIns P t w b k v := by
  split
  · rename_i h; exact run_ins ht hk w b k v h
  · rfl
theorem run_look {P : Program} {t kt et : TypeId} {z : Value} (ht : P.underlying t = some (.map kt et)) (hk : P.underlying kt = some (.int .i64)) (w : World) (hz : (zeroValue et).run P w = .ok z w) (b : Nat) (k : Int)
    (es : Array MapEntry) (c : Nat) (hb : w.heap[b]? = some (.map es c)) (hes : intKeys es.toList = true) :
    (Instr.lookup t (.map (some b)) (.int .i64 k) true).run P w = .ok (.tuple #[(getIn es.toList k).getD z, .bool (getIn es.toList k).isSome]) w := by
  obtain ⟨r, h1, h2⟩ := findNow_get k es.toList 0 hes
  cases r with
  | none =>
    have : getIn es.toList k = none := by rw [← h2]; rfl
    simp [Instr.lookup, run_underlying ht, MapKept.run_getObj_map hb, MapKept.run_checkKey hk (k := .int .i64 k) (by simp [MapKept.IsKey]), MapKept.run_findKey hk h1, hz, this, Result.andThen]
  | some p =>
    obtain ⟨i, v⟩ := p
    have : getIn es.toList k = some v := by rw [← h2]; rfl
    simp [Instr.lookup, run_underlying ht, MapKept.run_getObj_map hb, MapKept.run_checkKey hk (k := .int .i64 k) (by simp [MapKept.IsKey]), MapKept.run_findKey hk h1, this, Result.andThen]
theorem run_look_nil {P : Program} {t kt et : TypeId} {z : Value} (ht : P.underlying t = some (.map kt et)) (hk : P.underlying kt = some (.int .i64)) (w : World) (hz : (zeroValue et).run P w = .ok z w) (k : Int) :
    (Instr.lookup t (.map none) (.int .i64 k) true).run P w = .ok (.tuple #[z, .bool false]) w := by
  have h1 : Instr.findNow (.int .i64) (.int .i64 k) [] 0 = some none := rfl
  simp [Instr.lookup, run_underlying ht, MapKept.run_checkKey hk (k := .int .i64 k) (by simp [MapKept.IsKey]), MapKept.run_findKey hk h1, hz, Result.andThen]

@[go_sem] theorem freeIn_nil (k : Int) : freeIn [] k = true := rfl
@[go_sem] theorem freeIn_cons (e : MapEntry) (es : List MapEntry) (k : Int) : freeIn (e :: es) k = (keyNot k e.key && freeIn es k) := rfl
@[go_sem] theorem keyNot_int (a k : Int) : keyNot k (.int .i64 a) = !(a == k) := rfl
section
variable (w : World)
@[go_sem] theorem freeAt_at (es : Array MapEntry) (c n : Nat) (k : Int) (hn : n = w.heap.size) : freeAt (w.alloc (.map es c)) n k = freeIn es.toList k := by
  subst hn; unfold freeAt World.alloc; simp
@[go_sem] theorem freeAt_past (o : Obj) (n : Nat) (k : Int) (hn : n < w.heap.size) : freeAt (w.alloc o) n k = freeAt w n k := by
  unfold freeAt; rw [Below.heap_alloc _ _ _ hn]
@[go_sem] theorem ins_at (es : Array MapEntry) (c n : Nat) (k : Int) (v : Value) (hn : n = w.heap.size) : ins (w.alloc (.map es c)) n k v = w.alloc (.map (es.push ⟨.int .i64 k, v, c⟩) (c + 1)) := by
  subst hn
  unfold ins World.alloc
  congr 1
  apply Array.ext_getElem?
  intro i
  simp only [Array.getElem?_modify, Array.getElem?_push]
  by_cases hi : w.heap.size = i
  · subst hi; simp
  · simp [hi, Ne.symm hi]
@[go_sem] theorem ins_past (o : Obj) (n : Nat) (k : Int) (v : Value) (hn : n < w.heap.size) : ins (w.alloc o) n k v = (ins w n k v).alloc o := by
  unfold ins World.alloc
  congr 1
  apply Array.ext_getElem?
  intro i
  simp only [Array.getElem?_modify, Array.getElem?_push, Array.size_modify]
  by_cases hi : n = i
  · subst hi; simp [Nat.ne_of_lt hn]
  · simp [hi]
@[go_sem] theorem ins_size (n : Nat) (k : Int) (v : Value) : (ins w n k v).heap.size = w.heap.size := by unfold ins; simp
end
end Go.Proofs.YtibjhcgfjhbgoaaGreatDoor.Mp
