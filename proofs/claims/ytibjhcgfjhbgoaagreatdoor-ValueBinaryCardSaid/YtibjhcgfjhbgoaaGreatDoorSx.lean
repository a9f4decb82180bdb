/-
  What a law's walk carries along, for blocks of any shape; lengths of what Made makes.
-/
import Derived.Test.YtibjhcgfjhbgoaaGreatDoorRa
namespace Go.Proofs.YtibjhcgfjhbgoaaGreatDoor.Va
open Go Go.RowKit Mp

structure Sx (W : World) (L : List (Nat × Array Value × TypeId)) (w : World) : Prop where
  gl : Gl w
  be : Below W.heap.size W w
  own : ∀ p, p ∈ L → Own w p.1 p.2.1 p.2.2
theorem Sx.init {W : World} (h : Gl W) : Sx W [] W := ⟨h, Below.refl _ _, fun _ h => by cases h⟩
theorem Sx.step {W : World} {L : List (Nat × Array Value × TypeId)} {w w' : World} (h : Sx W L w) (hb : Below w.heap.size w w') : Sx W L w' :=
  ⟨h.gl.below hb, h.be.trans (hb.mono h.be.size), fun p hp => (h.own p hp).below hb (h.own p hp).lt⟩
theorem Sx.add {W : World} {L : List (Nat × Array Value × TypeId)} {w : World} (h : Sx W L w) (c : Array Value) (T : TypeId) : Sx W ((w.heap.size, c, T) :: L) (w.alloc (.cells c T)) := by
  have hb : Below w.heap.size w (w.alloc (.cells c T)) := (Below.refl _ _).alloc (Nat.le_refl _) _
  refine ⟨h.gl.below hb, h.be.trans (hb.mono h.be.size), fun p hp => ?_⟩
  rcases List.mem_cons.1 hp with rfl | hp
  · exact Own.new _ _ _
  · exact (h.own p hp).below hb (h.own p hp).lt
theorem Sx.alloc {W : World} {L : List (Nat × Array Value × TypeId)} {w : World} (h : Sx W L w) (o : Obj) : Sx W L (w.alloc o) := h.step ((Below.refl _ _).alloc (Nat.le_refl _) _)
theorem Sx.drew {W : World} {L : List (Nat × Array Value × TypeId)} {w : World} (h : Sx W L w) : Sx W L w.drew := h.step (Below.refl _ _).drew
theorem Sx.drop {W : World} {L L' : List (Nat × Array Value × TypeId)} {w : World} (h : Sx W L w) (hs : ∀ p, p ∈ L' → p ∈ L) : Sx W L' w := ⟨h.gl, h.be, fun p hp => h.own p (hs p hp)⟩
theorem Sx.cell {W : World} {L : List (Nat × Array Value × TypeId)} {w : World} (h : Sx W L w) (b : Nat) (c : Array Value) (T : TypeId) (hp : (b, c, T) ∈ L) (j : Nat) (v : Value) (hv : c[j]? = some v) : w.cell? ⟨b, j, none⟩ = some v := by
  rw [(h.own _ hp).cell j]; exact hv
theorem Sx.c3 {W : World} {L : List (Nat × Array Value × TypeId)} {w : World} (h : Sx W L w) (b : Nat) (x y z : Value) (T : TypeId) (hp : (b, #[x, y, z], T) ∈ L) :
    w.cell? ⟨b, 0, none⟩ = some x ∧ w.cell? ⟨b, 1, none⟩ = some y ∧ w.cell? ⟨b, 2, none⟩ = some z := ⟨h.cell b _ T hp 0 x rfl, h.cell b _ T hp 1 y rfl, h.cell b _ T hp 2 z rfl⟩
theorem Sx.lt {W : World} {L : List (Nat × Array Value × TypeId)} {w : World} (h : Sx W L w) (b : Nat) (c : Array Value) (T : TypeId) (hp : (b, c, T) ∈ L) : b < w.heap.size := (h.own _ hp).lt
theorem run_vrefl (k n : Int) (s : ByteArray) (w : World) : (Op.equalIn 10000 23 (.agg #[.int .i64 k, .int .i64 n, .string s]) (.agg #[.int .i64 k, .int .i64 n, .string s])).run Tryz.prog w = .ok true w := by
  rw [run_veq]; congr 1; exact v3eq_refl (k, n, s)
theorem pick_len (l : List (List UInt8)) (hl : ∀ x, x ∈ l → x.length ≤ 100) (k : Int) : (pick l k).size ≤ 100 := by
  have h : (pick l k).size = (l.getD k.toNat []).length := by unfold pick bs; simp [ByteArray.size]
  rw [h]
  by_cases hk : k.toNat < l.length
  · have : l.getD k.toNat [] = l[k.toNat] := by simp [List.getD, hk]
    rw [this]; exact hl _ (List.getElem_mem hk)
  · have : l.getD k.toNat [] = [] := by simp [List.getD, List.getElem?_eq_none (Nat.le_of_not_lt hk)]
    rw [this]; exact Nat.zero_le _
theorem made_len (n : Int) : (made3 n).2.2.size ≤ maxLen := by
  have h8 : ∀ k, (pick words8 k).size ≤ 100 := pick_len _ (by decide)
  have h6 : ∀ k, (pick strs6 k).size ≤ 100 := pick_len _ (by decide)
  have hc : ∀ m, (const3 m).2.2.size ≤ maxLen := by
    intro m
    unfold const3
    repeat' split
    all_goals first | exact es_le | exact small _ (h6 _) | exact small _ (h8 _)
  unfold made3
  repeat' split
  all_goals first | exact es_le | exact hc _
end Go.Proofs.YtibjhcgfjhbgoaaGreatDoor.Va
