/-
  What the laws' walks carry along; results of Binary that are told by one equation.
-/
import Derived.Test.YtibjhcgfjhbgoaaGreatDoorVo
namespace Go.Proofs.YtibjhcgfjhbgoaaGreatDoor.Va
open Go Go.RowKit Mp

/-- What a law's walk carries: the variables, old memory, its own structs. -/
structure St (W : World) (L : List (Nat × Value × Value × Value)) (w : World) : Prop where
  gl : Gl w
  be : Below W.heap.size W w
  own : ∀ p, p ∈ L → Own w p.1 #[p.2.1, p.2.2.1, p.2.2.2] 23
theorem St.init {W : World} (h : Gl W) : St W [] W := ⟨h, Below.refl _ _, fun _ h => by cases h⟩
theorem St.step {W : World} {L : List (Nat × Value × Value × Value)} {w w' : World} (h : St W L w) (hb : Below w.heap.size w w') : St W L w' :=
  ⟨h.gl.below hb, h.be.trans (hb.mono h.be.size), fun p hp => (h.own p hp).below hb (h.own p hp).lt⟩
theorem St.add {W : World} {L : List (Nat × Value × Value × Value)} {w : World} (h : St W L w) (x y z : Value) : St W ((w.heap.size, x, y, z) :: L) (w.alloc (.cells #[x, y, z] 23)) := by
  have hb : Below w.heap.size w (w.alloc (.cells #[x, y, z] 23)) := (Below.refl _ _).alloc (Nat.le_refl _) _
  refine ⟨h.gl.below hb, h.be.trans (hb.mono h.be.size), fun p hp => ?_⟩
  rcases List.mem_cons.1 hp with rfl | hp
  · exact Own.new _ _ _
  · exact (h.own p hp).below hb (h.own p hp).lt
theorem St.alloc {W : World} {L : List (Nat × Value × Value × Value)} {w : World} (h : St W L w) (o : Obj) : St W L (w.alloc o) :=
  h.step ((Below.refl _ _).alloc (Nat.le_refl _) _)
theorem St.facts {W : World} {L : List (Nat × Value × Value × Value)} {w : World} (h : St W L w) (b : Nat) (x y z : Value) (hp : (b, x, y, z) ∈ L) :
    w.cell? ⟨b, 0, none⟩ = some x ∧ w.cell? ⟨b, 1, none⟩ = some y ∧ w.cell? ⟨b, 2, none⟩ = some z ∧ (∀ j, w.frozen? ⟨b, j, none⟩ = false) ∧ b < w.heap.size := (h.own _ hp).facts

theorem St.cells {W : World} {L : List (Nat × Value × Value × Value)} {w : World} (h : St W L w) (b : Nat) (x y z : Value) (hp : (b, x, y, z) ∈ L) :
    w.cell? ⟨b, 0, none⟩ = some x ∧ w.cell? ⟨b, 1, none⟩ = some y ∧ w.cell? ⟨b, 2, none⟩ = some z := ⟨(h.own _ hp).cell 0, (h.own _ hp).cell 1, (h.own _ hp).cell 2⟩
theorem St.drew {W : World} {L : List (Nat × Value × Value × Value)} {w : World} (h : St W L w) : St W L w.drew := h.step (Below.refl _ _).drew

theorem v3eq_refl (a : V3) : v3eq a a = true := by unfold v3eq veq; simp
theorem same_refl (a : ByteArray) : same a a = true := by unfold same; simp
theorem gives_of {op : Int} {a b c : V3} {f : ByteArray} (h : bin op a b = (c, f)) : gives3 op a b c f = true := by
  unfold gives3; rw [h]; simp [v3eq_refl, same_refl]
/-- 'gives', where Binary's result is known by an equation. -/
theorem gives_eq (op ka na : Int) (sa : ByteArray) (kb nb : Int) (sb : ByteArray) (kc nc : Int) (sc fault : ByteArray) (w : World) (hG : Gl w) (hma : sa.size ≤ maxLen) (hmb : sb.size ≤ maxLen)
    (h : bin op (ka, na, sa) (kb, nb, sb) = ((kc, nc, sc), fault)) :
    Calls Tryz.prog 21 #[.int .i64 op, vv ka na sa, vv kb nb sb, vv kc nc sc, .string fault] w fun e w' => e = .returned (.bool true) ∧ Below w.heap.size w w' :=
  gives_lit op ka na sa kb nb sb kc nc sc fault w hG hma hmb (gives_of h)
theorem right_i {n : Int} (h : ok15 n = true) : rightB 3 n es = true := by
  unfold ok15 at h; simp at h; unfold rightB bndB es prtB allB; simp; omega
theorem bin_ints {op a b : Int} (ha : ok15 a = true) (hb : ok15 b = true) (ho : op ≠ 11) : bin op (3, a, es) (3, b, es) = ints3 op a b := by
  unfold bin right3
  simp only
  rw [if_neg (by decide), if_neg (by rw [right_i ha, right_i hb]; decide), if_neg ho, if_neg (by simp), if_neg (by decide), if_pos trivial]
end Go.Proofs.YtibjhcgfjhbgoaaGreatDoor.Va
