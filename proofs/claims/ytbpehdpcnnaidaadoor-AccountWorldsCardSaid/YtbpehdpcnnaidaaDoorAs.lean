/-
  What Spend does.
-/
import Derived.Test.YtbpehdpcnnaidaaDoorAy
namespace Go.Proofs.YtbpehdpcnnaidaaDoor.Ac
open Go Go.RowKit

def okB (zs : List Int) (k m : Int) : Bool := decide (0 ≤ m ∧ 0 ≤ k ∧ k < zs.length ∧ m ≤ zs.getD k.toNat 0)
def afterL (zs : List Int) (k m : Int) : List Int := if okB zs k m = true then zs.set k.toNat (zs.getD k.toNat 0 - m) else []
/-- How a call of Spend ends. -/
def SpendTo (zs : List Int) (k m : Int) (w : World) (e : Ending) (w' : World) : Prop :=
  ∃ v, e = .returned (.tuple #[v, .bool (okB zs k m)]) ∧ OwnI w' w.heap.size v (afterL zs k m) ∧ Below w.heap.size w w'
theorem spend_not {zs : List Int} {k m : Int} {w : World} (h : okB zs k m = false) : SpendTo zs k m w (.returned (.tuple #[.slice none 0 0, .bool false])) w := by
  refine ⟨_, by rw [h], ?_, Below.refl _ _⟩
  unfold afterL
  rw [if_neg (by rw [h]; decide)]
  exact World.ownsRow_nil _ _ _ _
theorem map_getD (zs : List Int) (k : Nat) (h : k < zs.length) : zs.getD k 0 = zs[k] := by simp [h]
theorem OwnI.set {w : World} {base : Nat} {g c : Nat} {zs : List Int} (h : OwnI w base (.slice (some ⟨g, 0, none⟩) zs.length c) zs) (k : Nat) (z : Int) :
    OwnI (w.setCell ⟨g, k, none⟩ (.int .i64 z)) base (.slice (some ⟨g, 0, none⟩) zs.length c) (zs.set k z) ∧ w.grownBy (w.setCell ⟨g, k, none⟩ (.int .i64 z)) (some g) := by
  have := World.ownsRow.stored h k (.int .i64 z)
  unfold OwnI
  rw [List.map_set, List.length_set]
  exact this
theorem OwnI.full {w : World} {base : Nat} {v : Value} {zs : List Int} (h : OwnI w base v zs) (hn : 0 < zs.length) :
    ∃ g c, v = .slice (some ⟨g, 0, none⟩) zs.length c ∧ base ≤ g ∧ g < w.heap.size ∧ zs.length ≤ c ∧ (∀ j, w.frozen? ⟨g, j, none⟩ = false) ∧ (∀ j (hj : j < zs.length), w.cell? ⟨g, j, none⟩ = some (.int .i64 zs[j])) := by
  obtain ⟨g, cap, rfl, hb, hlt⟩ := World.ownsRow.form h hn
  refine ⟨g, cap, rfl, hb, hlt, ?_, World.ownsRow.frozenAt h, fun j hj => ?_⟩
  · rcases h.2 with ⟨h', _⟩ | ⟨g', cap', cur, h', _, _, hnc, _⟩
    · simp at h'
    · simp only [Value.slice.injEq] at h'; omega
  · rw [World.ownsRow.cellAt h j (by omega), List.getElem?_map, List.getElem?_eq_getElem hj]; rfl
theorem oneNew (w : World) (y : Int) : ∀ j u, [Value.int .i64 y][j]? = some u → (w.alloc (.cells #[.int .i64 y] 3)).cell? ((⟨w.heap.size, 0, none⟩ : Addr).add j) = some u := by
  intro j u h
  rcases j with _ | j
  · injection h with h; subst h
    show (w.alloc _).cell? ⟨w.heap.size, 0, none⟩ = _
    rw [World.cell?_alloc_new]; rfl
  · simp at h
theorem ownBlock_ge {w : World} {base : Nat} {v : Value} {zs : List Int} (h : OwnI w base v zs) : ∀ k, v.ownBlock = some k → base ≤ k := fun k hk => (h.lt k hk).1
theorem own_next {w : World} {base : Nat} {v : Value} {zs : List Int} {j : Nat} {y : Int} (hj : j < zs.length) (hy : zs[j] = y) (h : w.ownsRow base 3 1 v (j + 1) ((zs.map (Value.int .i64)).take j ++ [.int .i64 y])) : OwnI w base v (zs.take (j + 1)) := by
  have e : zs.take (j + 1) = zs.take j ++ [y] := by rw [take_next _ _ hj, hy]
  unfold OwnI
  rw [e, List.map_append, List.length_append, List.map_take, List.length_take, Nat.min_eq_left (by omega)]
  exact h
/-- What Spend of package account does. -/
theorem spend_any (A : Option Addr) (zs : List Int) (c B : Nat) (k m : Int) (w : World) (h : Sl w B A zs) (hB : B ≤ w.heap.size) (hl : zs.length ≤ 17592186044404) (hk : I64 k) (hm : I64 m) (hz : ∀ z ∈ zs, I64 z) :
    Calls Tryd.prog 9 #[.slice A zs.length c, .int .i64 k, .int .i64 m] w (SpendTo zs k m w) := by
  obtain ⟨hk1, hk2⟩ := hk
  obtain ⟨hm1, hm2⟩ := hm
  by_cases h2 : k < 0
  · have G := Lib.hid (spend_not (w := w) (zs := zs) (k := k) (m := m) (by unfold okB; rw [decide_eq_false_iff_not]; omega))
    go_enter Tryd.func9, Tryd.ntmps9
    go_wp2
    go_ret2
    exact G.out
  · by_cases h3 : (zs.length : Int) ≤ k
    · have G := Lib.hid (spend_not (w := w) (zs := zs) (k := k) (m := m) (by unfold okB; rw [decide_eq_false_iff_not]; omega))
      go_enter Tryd.func9, Tryd.ntmps9
      go_wp2
      go_ret2
      exact G.out
    · by_cases h1 : m < 0
      · have G := Lib.hid (spend_not (w := w) (zs := zs) (k := k) (m := m) (by unfold okB; rw [decide_eq_false_iff_not]; omega))
        go_enter Tryd.func9, Tryd.ntmps9
        go_wp2
        go_ret2
        exact G.out
      · obtain ⟨k, rfl⟩ := Int.eq_ofNat_of_zero_le (show 0 ≤ k by omega)
        have hk : k < zs.length := by omega
        obtain ⟨ad, rfl, hb, hc⟩ := h.get k hk
        have hz1 := hz _ (List.getElem_mem hk)
        obtain ⟨hz1, hz2⟩ := hz1
        by_cases h4 : zs[k] < m
        · have G := Lib.hid (spend_not (w := w) (zs := zs) (k := k) (m := m) (by unfold okB; rw [decide_eq_false_iff_not, Int.toNat_natCast, map_getD _ _ hk]; omega))
          clear h
          generalize zs[k] = z at *
          go_enter Tryd.func9, Tryd.ntmps9
          go_wp2
          go_ret2
          exact G.out
        · have OK := Lib.hid (show okB zs k m = true by unfold okB; rw [decide_eq_true_eq, Int.toNat_natCast, map_getD _ _ hk]; omega)
          have H := Lib.hid h
          obtain ⟨z, hzk⟩ : ∃ z, zs[k] = z := ⟨_, rfl⟩
          rw [hzk] at hz1 hz2 h4 hc
          have HZ := Lib.hid hzk
          clear h hzk hz
          go_enter Tryd.func9, Tryd.ntmps9
          go_wp2_with fail
          refine (clone_some ad zs c B _ H.out (by omega) hl).mono ?_
          rintro e w1 ⟨v, rfl, ho, hb1⟩
          obtain ⟨g, c', rfl, hg, hg', hcc, hf, hcell⟩ := ho.full (by omega)
          have hcell := hcell k hk
          rw [HZ.out] at hcell
          have hf := hf k
          have HS := Lib.hid (ho.set k (z - m))
          have HB := Lib.hid (hb1.setCell (p := ⟨g, k, none⟩) hg (.int .i64 (z - m)))
          clear ho hb1 hc
          go_wp2
          go_ret2
          have E : wrap64 (zs[k] - m) = z - m := by rw [HZ.out]; exact IntWalk.wrap64_in _ ⟨by omega, by omega⟩
          rw [E]
          refine ⟨.slice (some ⟨g, 0, none⟩) zs.length c', by rw [OK.out]; rfl, ?_, HB.out⟩
          unfold afterL
          rw [if_pos OK.out, Int.toNat_natCast, map_getD _ _ hk, HZ.out]
          have := HS.out.1
          unfold OwnI at this ⊢
          rw [List.length_set] at this ⊢
          exact this
end Go.Proofs.YtbpehdpcnnaidaaDoor.Ac
