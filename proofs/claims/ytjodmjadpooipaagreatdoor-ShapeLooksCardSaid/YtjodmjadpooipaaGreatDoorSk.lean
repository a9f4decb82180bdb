/-
  Frames by a set of blocks; slices of strings; what a package of shapes does, in one word.
-/
import Derived.Test.YtjodmjadpooipaaGreatDoorSp
import Derived.WalkKit
import Derived.WalkLawsBesides
import Derived.WalkSpells
import Derived.Deep.QuietTactic
import Derived.BigQuiet
import Derived.Lib.Hide
import Derived.Below
import Derived.OwnWalk
import Derived.Laws.AppendOwn
import Derived.Laws.AppendOwnNone
import Derived.Laws.OwnMore
import Derived.Deep.AppendLies
import Derived.Lib.SliceRun
import Derived.Deep.LoopGhost
namespace Go.Proofs.YtjodmjadpooipaaGreatDoor.Sh
open Go Go.RowKit

def I64 (n : Int) : Prop := -9223372036854775808 ≤ n ∧ n ≤ 9223372036854775807
theorem ret_bool {a b : Bool} (h : a = b) : Ending.returned (.bool a) = .returned (.bool b) := by rw [h]
/-- Only blocks of F, and new ones, have turned. -/
structure Chg (F : Nat → Prop) (w w' : World) : Prop where
  os : w'.os = w.os
  tape : w'.tape = w.tape
  output : w'.output = w.output
  size : w.heap.size ≤ w'.heap.size
  block : ∀ k, k < w.heap.size → ¬ F k → w'.heap[k]? = w.heap[k]?
theorem Chg.refl (F : Nat → Prop) (w : World) : Chg F w w := ⟨rfl, rfl, rfl, Nat.le_refl _, fun _ _ _ => rfl⟩
theorem Chg.trans {F G : Nat → Prop} {a b c : World} (h : Chg F a b) (k : Chg G b c) (hG : ∀ x, G x → F x ∨ a.heap.size ≤ x) : Chg F a c :=
  ⟨k.os.trans h.os, k.tape.trans h.tape, k.output.trans h.output, Nat.le_trans h.size k.size, fun i hi hf =>
    (k.block i (Nat.lt_of_lt_of_le hi h.size) (fun g => (hG i g).elim hf (by omega))).trans (h.block i hi hf)⟩
theorem Chg.below {F : Nat → Prop} {w w' : World} (h : Chg F w w') {B : Nat} (hF : ∀ x, F x → B ≤ x) (hB : B ≤ w.heap.size) : Below B w w' :=
  ⟨h.os, h.tape, h.output, h.size, fun k hk => h.block k (by omega) (fun f => by have := hF k f; omega)⟩
theorem Chg.of_below {F : Nat → Prop} {w w' : World} (h : Below w.heap.size w w') : Chg F w w' := ⟨h.os, h.tape, h.output, h.size, fun k hk _ => h.block k hk⟩
theorem Chg.cell {F : Nat → Prop} {w w' : World} (h : Chg F w w') {p : Addr} (hp : p.block < w.heap.size) (hF : ¬ F p.block) : w'.cell? p = w.cell? p := World.cell?_of_block (h.block _ hp hF)
/-- The tree's blocks, and what a call may turn. -/
def Sub (F F' : Nat → Prop) (w : World) : Prop := ∀ b, F' b → F b ∨ w.heap.size ≤ b
/-- A slice of strings that is read; its cells lie in blocks of P. -/
def SlS (w : World) (P : Nat → Prop) (A : Option Addr) (ns : List ByteArray) : Prop :=
  ∀ j x, ns[j]? = some x → ∃ ad, A = some ad ∧ P ad.block ∧ w.cell? (ad.add j) = some (.string x)
def OwnS (w : World) (base : Nat) (v : Value) (ns : List ByteArray) : Prop := w.ownsRow base 9 1 v ns.length (ns.map Value.string)
theorem blk_add (a : Addr) (j : Nat) : (a.add j).block = a.block := by unfold Addr.add; split <;> rfl
theorem SlS.nil (w : World) (P : Nat → Prop) (A : Option Addr) : SlS w P A [] := fun j z h => by simp at h
theorem SlS.keep {w w' : World} {P Q : Nat → Prop} {A : Option Addr} {ns : List ByteArray} (h : SlS w P A ns) (hk : ∀ b, P b → Q b ∧ w'.heap[b]? = w.heap[b]?) : SlS w' Q A ns := fun j z hz => by
  obtain ⟨ad, rfl, hb, hc⟩ := h j z hz
  exact ⟨ad, rfl, (hk _ hb).1, (World.cell?_of_block (a := ad.add j) (by rw [blk_add]; exact (hk _ hb).2) : w'.cell? (ad.add j) = w.cell? (ad.add j)).trans hc⟩
theorem SlS.get {w : World} {P : Nat → Prop} {A : Option Addr} {ns : List ByteArray} (h : SlS w P A ns) (k : Nat) (hk : k < ns.length) : ∃ ad, A = some ad ∧ P ad.block ∧ w.cell? (ad.add k) = some (.string ns[k]) :=
  h k _ (List.getElem?_eq_getElem hk)
theorem OwnS.form {w : World} {base : Nat} {v : Value} {ns : List ByteArray} (h : OwnS w base v ns) :
    ∃ A c, v = .slice A ns.length c ∧ (A = none → c = 0) ∧ SlS w (fun b => base ≤ b ∧ b < w.heap.size) A ns := by
  rcases h.2 with ⟨rfl, h0⟩ | ⟨g, cap, cur, rfl, hb, hg, hn, hm, hs, ht⟩
  · have : ns = [] := List.eq_nil_of_length_eq_zero h0
    subst this
    exact ⟨none, 0, rfl, fun _ => rfl, SlS.nil _ _ _⟩
  · refine ⟨_, _, rfl, (fun e => by cases e), fun j z hz => ⟨_, rfl, ⟨hb, h.lt g rfl |>.2⟩, ?_⟩⟩
    exact h.cells (g := g) rfl j _ (by rw [List.getElem?_map, hz]; rfl)
theorem OwnS.cap {w : World} {base : Nat} {A : Option Addr} {n c : Nat} {ns : List ByteArray} (h : OwnS w base (.slice A n c) ns) : ns.length ≤ c := by
  rcases h.2 with ⟨e, h0⟩ | ⟨g, cap, cur, e, _, _, hn, _⟩
  · omega
  · injection e with _ _ e; omega
theorem OwnS.mono {w : World} {base base' : Nat} {v : Value} {ns : List ByteArray} (h : OwnS w base v ns) (hb : base' ≤ base) : OwnS w base' v ns := by
  refine ⟨h.1, ?_⟩
  rcases h.2 with h | ⟨g, cap, cur, e, h1, h2⟩
  · exact .inl h
  · exact .inr ⟨g, cap, cur, e, by omega, h2⟩
/-- Classes that are read: the fields of each. -/
def Cls (w : World) (B : Nat) (A : Option Addr) (fl : List (List ByteArray)) : Prop :=
  ∀ j ns, fl[j]? = some ns → ∃ ad nm D c M mn mc, A = some ad ∧ ad.block < B ∧ w.cell? (ad.add (3 * j)) = some (.string nm) ∧ w.cell? (ad.add (3 * j + 1)) = some (.slice D ns.length c) ∧ w.cell? (ad.add (3 * j + 2)) = some (.slice M mn mc) ∧ SlS w (· < B) D ns ∧ (D = none → c = 0) ∧ ns.length ≤ c
def newT (fl : List (List ByteArray)) : Tre := ⟨fl.mapIdx fun k ns => ⟨k, none, ns, []⟩, List.range fl.length⟩
def digits (n : Nat) : List UInt8 := (Nat.toDigits 10 n).map fun c => UInt8.ofNat c.toNat
def textSh (k : Nat) (x : Shp) : List UInt8 :=
  digits k ++ [32] ++ digits x.cls ++ x.names.flatMap (fun n => 32 :: n.data.toList) ++
    (match x.ali with | some a => [32, 61, 32] ++ digits a | none => [32, 62] ++ x.links.flatMap (fun p => 32 :: p.1.data.toList ++ [58] ++ digits p.2)) ++ [10]
def Tre.text (t : Tre) : List UInt8 :=
  [114, 111, 111, 116, 115] ++ t.roots.flatMap (fun r => 32 :: digits r) ++ [10] ++ (t.L.mapIdx textSh).flatten
/-- What package shape does. -/
structure Kit where
  V : World → Prop
  vkeep : ∀ {w w'}, V w → Below w.heap.size w w' → V w'
  H : World → Nat → Tre → (Nat → Prop) → Prop
  lt : ∀ {w p t F}, H w p t F → ∀ b, F b → b < w.heap.size
  keep : ∀ {w w' p t F}, H w p t F → (∀ b, F b → w'.heap[b]? = w.heap[b]?) → H w' p t F
  new : ∀ (w : World) (A : Option Addr) (fl : List (List ByteArray)) (c : Nat), Cls w w.heap.size A fl → fl.length ≤ 12 → (∀ ns ∈ fl, ns.length ≤ 64) →
    Calls Tryz.prog 24 #[.slice A fl.length c] w fun e w' => ∃ p F, e = .returned (.pointer (some ⟨p, 0, none⟩)) ∧ H w' p (newT fl) F ∧ Below w.heap.size w w' ∧ ∀ b, F b → w.heap.size ≤ b
  add : ∀ (w : World) (p : Nat) (t : Tre) (F : Nat → Prop) (m : Nat) (s : Int) (nm : ByteArray), H w p t F → t.WF m → I64 s → nm.size ≤ maxLen →
    Calls Tryz.prog 25 #[.pointer (some ⟨p, 0, none⟩), .int .i64 s, .string nm] w fun e w' => ∃ F', e = .returned (.tuple #[.int .i64 (t.add s nm).1.1, .int .i64 (t.add s nm).1.2]) ∧ H w' p (t.add s nm).2 F' ∧ Chg F w w' ∧ Sub F F' w
  merge : ∀ (w : World) (p : Nat) (t : Tre) (F : Nat → Prop) (m : Nat) (a b : Int), H w p t F → t.WF m → I64 a → I64 b →
    Calls Tryz.prog 27 #[.pointer (some ⟨p, 0, none⟩), .int .i64 a, .int .i64 b] w fun e w' => ∃ F', e = .returned (.int .i64 (t.merge a b).1) ∧ H w' p (t.merge a b).2 F' ∧ Chg F w w' ∧ Sub F F' w
  split : ∀ (w : World) (p : Nat) (t : Tre) (F : Nat → Prop) (m : Nat) (a : Int), H w p t F → t.WF m → I64 a →
    Calls Tryz.prog 26 #[.pointer (some ⟨p, 0, none⟩), .int .i64 a] w fun e w' => ∃ F', e = .returned (.tuple #[.int .i64 (t.split a).1.1, .int .i64 (t.split a).1.2]) ∧ H w' p (t.split a).2 F' ∧ Chg F w w' ∧ Sub F F' w
  make : ∀ (w : World) (p : Nat) (t : Tre) (F : Nat → Prop) (m : Nat) (k : Int) (A : Option Addr) (ns : List ByteArray) (c : Nat), H w p t F → t.WF m → I64 k → SlS w (fun b => b < w.heap.size ∧ ¬ F b) A ns → ns.length ≤ 8796093022208 → (∀ x ∈ ns, x.size ≤ maxLen) → ns.length ≤ c → (A = none → c = 0) →
    Calls Tryz.prog 29 #[.pointer (some ⟨p, 0, none⟩), .int .i64 k, .slice A ns.length c] w fun e w' => ∃ F', e = .returned (.tuple #[.int .i64 (t.make k ns).1.1, .int .i64 (t.make k ns).1.2]) ∧ H w' p (t.make k ns).2 F' ∧ Chg F w w' ∧ Sub F F' w
  find : ∀ (w : World) (p : Nat) (t : Tre) (F : Nat → Prop) (m : Nat) (k : Int) (A : Option Addr) (ns : List ByteArray) (c : Nat), H w p t F → t.WF m → I64 k → SlS w (· < w.heap.size) A ns → ns.length ≤ 8796093022208 → (∀ x ∈ ns, x.size ≤ maxLen) →
    Calls Tryz.prog 13 #[.pointer (some ⟨p, 0, none⟩), .int .i64 k, .slice A ns.length c] w fun e w' => e = .returned (.tuple #[.int .i64 (t.findI k ns).1, .bool (t.findI k ns).2]) ∧ Below w.heap.size w w'
  names : ∀ (w : World) (p : Nat) (t : Tre) (F : Nat → Prop) (m : Nat) (s : Int), H w p t F → t.WF m → I64 s →
    Calls Tryz.prog 23 #[.pointer (some ⟨p, 0, none⟩), .int .i64 s] w fun e w' => ∃ v, e = .returned v ∧ OwnS w' w.heap.size v (t.namesI s) ∧ Below w.heap.size w w'
  slot : ∀ (w : World) (p : Nat) (t : Tre) (F : Nat → Prop) (m : Nat) (s : Int) (nm : ByteArray), H w p t F → t.WF m → I64 s → nm.size ≤ maxLen →
    Calls Tryz.prog 10 #[.pointer (some ⟨p, 0, none⟩), .int .i64 s, .string nm] w fun e w' => e = .returned (.tuple #[.int .i64 (slotL (t.namesI s) nm).1, .bool (slotL (t.namesI s) nm).2]) ∧ Below w.heap.size w w'
  cls : ∀ (w : World) (p : Nat) (t : Tre) (F : Nat → Prop) (m : Nat) (s : Int), H w p t F → t.WF m → I64 s →
    Calls Tryz.prog 18 #[.pointer (some ⟨p, 0, none⟩), .int .i64 s] w fun e w' => e = .returned (.int .i64 (t.clsI s)) ∧ Below w.heap.size w w'
  canon : ∀ (w : World) (p : Nat) (t : Tre) (F : Nat → Prop) (m : Nat) (s : Int), H w p t F → t.WF m → I64 s →
    Calls Tryz.prog 16 #[.pointer (some ⟨p, 0, none⟩), .int .i64 s] w fun e w' => e = .returned (.int .i64 (t.canonI s)) ∧ Below w.heap.size w w'
  root : ∀ (w : World) (p : Nat) (t : Tre) (F : Nat → Prop) (m : Nat) (k : Int), H w p t F → t.WF m → I64 k →
    Calls Tryz.prog 20 #[.pointer (some ⟨p, 0, none⟩), .int .i64 k] w fun e w' => e = .returned (.int .i64 (t.rootI k)) ∧ Below w.heap.size w w'
  count : ∀ (w : World) (p : Nat) (t : Tre) (F : Nat → Prop) (m : Nat), H w p t F → t.WF m →
    Calls Tryz.prog 31 #[.pointer (some ⟨p, 0, none⟩)] w fun e w' => e = .returned (.int .i64 (t.L.length : Nat)) ∧ Below w.heap.size w w'
  text : ∀ (w : World) (p : Nat) (t : Tre) (F : Nat → Prop) (m : Nat), H w p t F → V w → t.WF m → t.L ≠ [] → (∀ s, ∀ x ∈ (t.sh s).names, x.size ≤ 1) →
    Calls Tryz.prog 28 #[.pointer (some ⟨p, 0, none⟩)] w fun e w' => e = .returned (.string ⟨t.text.toArray⟩) ∧ Below w.heap.size w w'
theorem Kit.below (K : Kit) {w w' : World} {p : Nat} {t : Tre} {F : Nat → Prop} (h : K.H w p t F) (hb : Below w.heap.size w w') : K.H w' p t F := K.keep h fun b hF => hb.block b (K.lt h b hF)
theorem Kit.alloc (K : Kit) {w : World} {p : Nat} {t : Tre} {F : Nat → Prop} (h : K.H w p t F) (o : Obj) : K.H (w.alloc o) p t F := K.keep h fun b hF => Below.heap_alloc _ _ _ (K.lt h b hF)
theorem Kit.drewN (K : Kit) {w : World} {p : Nat} {t : Tre} {F : Nat → Prop} (h : K.H w p t F) (n : Nat) : K.H (w.drewN n) p t F := K.keep h fun _ _ => rfl
end Go.Proofs.YtjodmjadpooipaaGreatDoor.Sh
