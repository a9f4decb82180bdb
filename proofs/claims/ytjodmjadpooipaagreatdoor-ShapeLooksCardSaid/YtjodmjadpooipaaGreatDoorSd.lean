/-
  Classes; one act.
-/
import Derived.Test.YtjodmjadpooipaaGreatDoorSl
namespace Go.Proofs.YtjodmjadpooipaaGreatDoor.Sh
open Go Go.RowKit

/-- A block that is known whole. -/
def Bk (w : World) (b : Nat) (c : Array Value) (T : TypeId) : Prop := w.heap[b]? = some (.cells c T (0, 0))
theorem Bk.lt {w : World} {b : Nat} {c : Array Value} {T : TypeId} (h : Bk w b c T) : b < w.heap.size := by
  unfold Bk at h
  exact (Array.getElem?_eq_some_iff.1 h).1
theorem Bk.new (w : World) (c : Array Value) (T : TypeId) : Bk (w.alloc (.cells c T)) w.heap.size c T := heap_alloc_new w _
theorem Bk.below {w w' : World} {b C : Nat} {c : Array Value} {T : TypeId} (h : Bk w b c T) (hb : Below C w w') (hC : b < C) : Bk w' b c T := by
  unfold Bk at *
  rw [hb.block b hC]; exact h
theorem Bk.alloc {w : World} {b : Nat} {c : Array Value} {T : TypeId} (h : Bk w b c T) (o : Obj) : Bk (w.alloc o) b c T := by
  have := h.lt
  unfold Bk at *
  rw [Below.heap_alloc _ _ _ this]; exact h
theorem Bk.cell {w : World} {b : Nat} {c : Array Value} {T : TypeId} (h : Bk w b c T) (i : Nat) (v : Value) (hv : c[i]? = some v) : w.cell? ⟨b, i, none⟩ = some v := by
  rw [cell_of_row w b i c T (0, 0) h]; exact hv
theorem Bk.low {w w' : World} {b : Nat} {c : Array Value} {T : TypeId} (hb : Below w.heap.size w w') (h : Bk w b c T) : Bk w' b c T := h.below hb h.lt
def xs1 : List ByteArray := [⟨#[120]⟩]
def clsAll : List (List ByteArray) := [xs1, [], xs1]
def clsOf (n : Int) : List (List ByteArray) := clsAll.take (1 + (n % 3).toNat)
theorem clsOf_len (n : Int) : 1 ≤ (clsOf n).length ∧ (clsOf n).length ≤ 3 := by
  unfold clsOf; rw [List.length_take]; show 1 ≤ min _ 3 ∧ min _ 3 ≤ 3; omega
theorem clsOf_mem (n : Int) : ∀ ns ∈ clsOf n, ns = xs1 ∨ ns = [] := by
  intro ns h
  have := List.mem_of_mem_take h
  simp only [clsAll, List.mem_cons, List.not_mem_nil, or_false] at this
  rcases this with h | h | h
  · exact .inl h
  · exact .inr h
  · exact .inl h
theorem SlS.one {w : World} {b : Nat} {P : Nat → Prop} (h : Bk w b #[.string ⟨#[120]⟩] 9) (hb : P b) : SlS w P (some ⟨b, 0, none⟩) xs1 := by
  intro j x hx
  rcases j with _ | j
  · injection hx with hx; subst hx
    exact ⟨_, rfl, hb, h.cell 0 _ rfl⟩
  · simp [xs1] at hx
/-- The block of all classes. -/
def clsRow (w : World) : Array Value := #[.string ⟨#[80]⟩, .slice (some ⟨w.heap.size, 0, none⟩) 1 1, .slice none 0 0, .string ⟨#[81]⟩, .slice none 0 0, .slice none 0 0, .string ⟨#[82]⟩, .slice (some ⟨w.heap.size + 1, 0, none⟩) 1 1, .slice none 0 0]
theorem cls_of (n : Int) (w w' : World) (h0 : Bk w' w.heap.size #[.string ⟨#[120]⟩] 9) (h1 : Bk w' (w.heap.size + 1) #[.string ⟨#[120]⟩] 9) (h2 : Bk w' (w.heap.size + 2) (clsRow w) 59) :
    Cls w' w'.heap.size (some ⟨w.heap.size + 2, 0, none⟩) (clsOf n) := by
  intro j ns hj
  unfold clsOf at hj
  rw [List.getElem?_take] at hj
  split at hj
  · rcases j with _ | _ | _ | j
    · injection hj with hj; subst hj
      exact ⟨_, _, _, _, _, _, _, rfl, h2.lt, h2.cell 0 _ rfl, h2.cell 1 _ rfl, h2.cell 2 _ rfl, SlS.one h0 h0.lt, (fun e => by cases e), Nat.le_refl _⟩
    · injection hj with hj; subst hj
      exact ⟨_, _, _, _, _, _, _, rfl, h2.lt, h2.cell 3 _ rfl, h2.cell 4 _ rfl, h2.cell 5 _ rfl, SlS.nil _ _ _, (fun _ => rfl), Nat.le_refl _⟩
    · injection hj with hj; subst hj
      exact ⟨_, _, _, _, _, _, _, rfl, h2.lt, h2.cell 6 _ rfl, h2.cell 7 _ rfl, h2.cell 8 _ rfl, SlS.one h1 h1.lt, (fun e => by cases e), Nat.le_refl _⟩
    · simp [clsAll] at hj
  · cases hj
theorem classes_any (n : Int) (hn : I64 n) (w : World) :
    Calls Tryz.prog 7 #[.int .i64 n] w fun e w' => ∃ g, e = .returned (.slice (some ⟨g, 0, none⟩) (clsOf n).length 3) ∧ w.heap.size ≤ g ∧ Cls w' w'.heap.size (some ⟨g, 0, none⟩) (clsOf n) ∧ Below w.heap.size w w' := by
  obtain ⟨hn1, hn2⟩ := hn
  obtain ⟨t, ht, h1, h2, e⟩ := tm n 3 (by omega)
  have E := Lib.hid e
  have B := Lib.hid ((((Below.refl w.heap.size w).alloc (Nat.le_refl _) (.cells #[.string ⟨#[120]⟩] 9)).alloc (by simp) (.cells #[.string ⟨#[120]⟩] 9)).alloc (by simp; omega) (.cells (clsRow w) 59))
  have X0 := Lib.hid (((Bk.new w #[.string ⟨#[120]⟩] 9).alloc (.cells #[.string ⟨#[120]⟩] 9)).alloc (.cells (clsRow w) 59))
  have X1 := Lib.hid ((Bk.new (w.alloc (.cells #[.string ⟨#[120]⟩] 9)) #[.string ⟨#[120]⟩] 9).alloc (.cells (clsRow w) 59))
  have X2 := Lib.hid (Bk.new ((w.alloc (.cells #[.string ⟨#[120]⟩] 9)).alloc (.cells #[.string ⟨#[120]⟩] 9)) (clsRow w) 59)
  have L : Hid ((clsOf n).length = 1 + ((t + 3) % 3).toNat) := Lib.hid (by unfold clsOf; rw [List.length_take]; show min _ 3 = _; rw [← e]; omega)
  clear e
  rcases (show t = -2 ∨ t = -1 ∨ t = 0 ∨ t = 1 ∨ t = 2 by omega) with rfl | rfl | rfl | rfl | rfl
  all_goals
    clear h1 h2
    go_enter Tryz.func7, Tryz.ntmps7
    go_wp2
    go_ret
    have X1 := X1.out
    have X2 := X2.out
    simp only [World.size_alloc] at X1 X2
    exact ⟨w.heap.size + 2, by rw [L.out]; rfl, by omega, cls_of n w _ X0.out X1 X2, B.out⟩
structure Act where
  what : Int
  a : Int
  b : Int
  nm : Int
structure Act.OK (x : Act) : Prop where
  what : I64 x.what
  a : I64 x.a
  b : I64 x.b
  nm : I64 x.nm
def xOf (a b m : Int) : Int := a % m - 1 + b % 2
def doT (t : Tre) (x : Act) (m : Int) : (Int × Int) × Tre :=
  if x.what % 7 = 4 then ((0, (t.merge (xOf x.a x.b m) (xOf x.b x.a m)).1), (t.merge (xOf x.a x.b m) (xOf x.b x.a m)).2)
  else if x.what % 7 = 5 then t.split (xOf x.a x.b m)
  else if x.what % 7 = 6 then t.make (x.b.tmod 3) (someOf x.a)
  else t.add (xOf x.a x.b m) (nameOf x.nm)
theorem and_one (x : Int) : bits .and .i64 x 1 = x % 2 := by
  have h : bits .and .i64 x 1 = IntKind.i64.wrap ((BitVec.ofInt 64 x &&& BitVec.ofInt 64 1).toNat : Int) := rfl
  have e : (BitVec.ofInt 64 x &&& BitVec.ofInt 64 1).toNat = (x % 18446744073709551616).toNat % 2 := by
    rw [BitVec.toNat_and, show (BitVec.ofInt 64 1).toNat = 1 from rfl, Nat.and_one_is_mod, BitVec.toNat_ofInt]; rfl
  rw [h, e, IntWalk.i64_in _ ⟨by omega, by omega⟩]
  omega
/-- What becomes of a tree in a call of do. -/
def DoTo (K : Kit) (w : World) (p : Nat) (F : Nat → Prop) (r : (Int × Int) × Tre) (e : Ending) (w' : World) : Prop :=
  ∃ F', e = .returned (.tuple #[.int .i64 r.1.1, .int .i64 r.1.2]) ∧ K.H w' p r.2 F' ∧ Chg F w w' ∧ Sub F F' w
theorem DoTo.of {K : Kit} {w w1 w' : World} {p : Nat} {F F' : Nat → Prop} {r : (Int × Int) × Tre} (hb : Below w.heap.size w w1) (h : K.H w' p r.2 F') (c : Chg F w1 w') (s : Sub F F' w1) : DoTo K w p F r (.returned (.tuple #[.int .i64 r.1.1, .int .i64 r.1.2])) w' :=
  ⟨F', rfl, h, (Chg.of_below hb).trans c fun _x hx => .inl hx, fun b hF => (s b hF).imp_right fun h => Nat.le_trans hb.size h⟩
end Go.Proofs.YtjodmjadpooipaaGreatDoor.Sh
