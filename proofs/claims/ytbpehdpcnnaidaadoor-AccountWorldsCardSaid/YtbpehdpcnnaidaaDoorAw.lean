/-
  Slices of ints that are read, or are a call's own; the contract of slices.Equal at []int.
-/
import Derived.Test.YtbpehdpcnnaidaaDoorAi
import Derived.Below
import Derived.OwnWalk
import Derived.Laws.AppendOwn
import Derived.Laws.AppendOwnNone
import Derived.Laws.OwnMore
import Derived.Deep.AppendLies
import Derived.Lib.SliceRun
import Derived.Deep.LoopGhost
namespace Go.Proofs.YtbpehdpcnnaidaaDoor.Ac
open Go Go.RowKit

/-- The slice that begins at A reads as zs, below block B. -/
def Sl (w : World) (B : Nat) (A : Option Addr) (zs : List Int) : Prop :=
  ∀ j z, zs[j]? = some z → ∃ ad, A = some ad ∧ ad.block < B ∧ w.cell? (ad.add j) = some (.int .i64 z)
/-- The slice is the call's own. -/
def OwnI (w : World) (base : Nat) (v : Value) (zs : List Int) : Prop := w.ownsRow base 3 1 v zs.length (zs.map (Value.int .i64))
theorem blk_add (a : Addr) (j : Nat) : (a.add j).block = a.block := by unfold Addr.add; split <;> rfl
theorem Sl.nil (w : World) (B : Nat) (A : Option Addr) : Sl w B A [] := fun j z h => by simp at h
theorem Sl.keep {w w' : World} {B : Nat} {A : Option Addr} {zs : List Int} (h : Sl w B A zs) (hk : ∀ p : Addr, p.block < B → w'.cell? p = w.cell? p) : Sl w' B A zs := fun j z hz => by
  obtain ⟨ad, rfl, hb, hc⟩ := h j z hz
  exact ⟨ad, rfl, hb, by rw [hk _ (by rw [blk_add]; exact hb)]; exact hc⟩
theorem Sl.below {w w' : World} {B C : Nat} {A : Option Addr} {zs : List Int} (h : Sl w B A zs) (hb : Below C w w') (hB : B ≤ C) : Sl w' B A zs := h.keep fun _ hp => hb.cell (by omega)
theorem Sl.up {w : World} {B B' : Nat} {A : Option Addr} {zs : List Int} (h : Sl w B A zs) (hB : B ≤ B') : Sl w B' A zs := fun j z hz => by
  obtain ⟨ad, rfl, hb, hc⟩ := h j z hz
  exact ⟨ad, rfl, by omega, hc⟩
theorem Sl.drewN {w : World} {B : Nat} {A : Option Addr} {zs : List Int} (h : Sl w B A zs) (n : Nat) : Sl (w.drewN n) B A zs := h
theorem Sl.get {w : World} {B : Nat} {A : Option Addr} {zs : List Int} (h : Sl w B A zs) (k : Nat) (hk : k < zs.length) : ∃ ad, A = some ad ∧ ad.block < B ∧ w.cell? (ad.add k) = some (.int .i64 zs[k]) :=
  h k _ (List.getElem?_eq_getElem hk)
theorem Sl.take {w : World} {B : Nat} {A : Option Addr} {zs : List Int} (h : Sl w B A zs) (k : Nat) : Sl w B A (zs.take k) := fun j z hz => by
  rw [List.getElem?_take] at hz; split at hz
  · exact h j z hz
  · cases hz
theorem OwnI.form {w : World} {base : Nat} {v : Value} {zs : List Int} (h : OwnI w base v zs) :
    ∃ A c, v = .slice A zs.length c ∧ Sl w w.heap.size A zs := by
  rcases h.2 with ⟨rfl, h0⟩ | ⟨g, cap, cur, rfl, hb, hg, hn, hm, hs, ht⟩
  · have : zs = [] := List.eq_nil_of_length_eq_zero h0
    subst this
    exact ⟨none, 0, rfl, Sl.nil _ _ _⟩
  · refine ⟨_, _, rfl, fun j z hz => ⟨_, rfl, h.lt g rfl |>.2, ?_⟩⟩
    exact h.cells (g := g) rfl j _ (by rw [List.getElem?_map, hz]; rfl)
theorem OwnI.below {w w' : World} {base C : Nat} {v : Value} {zs : List Int} (h : OwnI w base v zs) (hb : Below C w w') (hC : w.heap.size ≤ C) : OwnI w' base v zs :=
  h.kept (row := none) ⟨hb.os, hb.tape, hb.output, hb.size, fun i hi _ => hb.block i (by omega)⟩ (by cases hv : v.ownBlock <;> simp)
theorem OwnI.mono {w : World} {base base' : Nat} {v : Value} {zs : List Int} (h : OwnI w base v zs) (hb : base' ≤ base) : OwnI w base' v zs := by
  refine ⟨h.1, ?_⟩
  rcases h.2 with h | ⟨g, cap, cur, e, h1, h2⟩
  · exact .inl h
  · exact .inr ⟨g, cap, cur, e, by omega, h2⟩
/-- A block that is known whole. -/
def Bk (w : World) (b : Nat) (c : Array Value) (T : TypeId) : Prop := w.heap[b]? = some (.cells c T (0, 0))
theorem Bk.lt {w : World} {b : Nat} {c : Array Value} {T : TypeId} (h : Bk w b c T) : b < w.heap.size := by
  unfold Bk at h
  exact (Array.getElem?_eq_some_iff.1 h).1
theorem Bk.new (w : World) (c : Array Value) (T : TypeId) : Bk (w.alloc (.cells c T)) w.heap.size c T := heap_alloc_new w _
theorem Bk.below {w w' : World} {b C : Nat} {c : Array Value} {T : TypeId} (h : Bk w b c T) (hb : Below C w w') (hC : b < C) : Bk w' b c T := by
  unfold Bk at *
  rw [hb.block b hC]; exact h
theorem Bk.cell {w : World} {b : Nat} {c : Array Value} {T : TypeId} (h : Bk w b c T) (i : Nat) (v : Value) (hv : c[i]? = some v) : w.cell? ⟨b, i, none⟩ = some v := by
  rw [cell_of_row w b i c T (0, 0) h]; exact hv
theorem Bk.far {w : World} {b : Nat} {c : Array Value} {T : TypeId} (h : Bk w b c T) {p : Addr} (hp : b ≠ p.block) (u : Value) : Bk (w.setCell p u) b c T := by
  unfold Bk at *
  rw [Below.heap_setCell w p u b hp]; exact h
theorem Bk.set {w : World} {b : Nat} {c : Array Value} {T : TypeId} (h : Bk w b c T) (i : Nat) (v : Value) : Bk (w.setCell ⟨b, i, none⟩ v) b (c.setIfInBounds i v) T := by
  unfold Bk at h ⊢
  unfold World.setCell
  simp only [Array.getElem?_modify, if_true, h]
  rfl
theorem Bk.frozen {w : World} {b : Nat} {c : Array Value} {T : TypeId} (h : Bk w b c T) (i : Nat) : w.frozen? ⟨b, i, none⟩ = false := by
  unfold Bk at h
  simp [World.frozen?, h]
theorem infoI : (Tryd.prog.info? 3).map (fun i => (i.zero, i.size, i.bytes)) = some (some (.int .i64 0), 1, 8) := by kernel_rfl
theorem ones (zs : List Int) : ∀ u ∈ zs.map (Value.int .i64), u.oneCell' = true := by
  intro u hu; obtain ⟨z, _, rfl⟩ := List.mem_map.1 hu; rfl

theorem take_next (l : List Int) (k : Nat) (h : k < l.length) : l.take (k + 1) = l.take k ++ [l[k]] := by rw [List.take_succ_eq_append_getElem h]
theorem equal_any (A D : Option Addr) (zs ys : List Int) (c d B : Nat) (w : World) (h : Sl w B A zs) (h' : Sl w B D ys) (hm : zs.length ≤ 17592186044404) (hm' : ys.length ≤ 17592186044404) :
    Calls Tryd.prog 13 #[.slice A zs.length c, .slice D ys.length d] w fun e w' => e = .returned (.bool (decide (zs = ys))) ∧ ∃ n, w' = w.drewN n := by
  by_cases hl : zs.length = ys.length
  · have H := Lib.hid h
    have H' := Lib.hid h'
    have HL := Lib.hid hl
    have hl1 : zs.length ≤ ys.length := by omega
    have hl2 : ys.length ≤ zs.length := by omega
    have hb : ((zs.length : Int) != (ys.length : Int)) = false := by simp [hl]
    clear h h' hl
    go_enter Tryd.func13, Tryd.ntmps13
    go_wp2
    clear hb
    go_loopw [13] (fun i wr => ∃ k : Nat, k ≤ zs.length ∧ i = .int .i64 k ∧ Hid (zs.take k = ys.take k) ∧ Hid (∃ n, wr = w.drewN n)) (fun i _ => zs.length - (intOf i).toNat)
    case atStart => exact ⟨0, by omega, rfl, Lib.hid (by simp), Lib.hid ⟨0, rfl⟩⟩
    case round =>
      obtain ⟨k, hk, rfl, ht, hw⟩ := hrel
      obtain ⟨n, rfl⟩ := hw.out
      by_cases hlt : k < zs.length
      · obtain ⟨ad, rfl, _, hc⟩ := H.out.get k hlt
        obtain ⟨ad', rfl, _, hc'⟩ := H'.out.get k (by omega)
        have h3 : (k : Int) < zs.length := by omega
        have h4 : (k : Int) < ys.length := by omega
        generalize hz : zs[k] = z at hc
        generalize hy : ys[k] = y at hc'
        have HZ := Lib.hid hz
        have HY := Lib.hid hy
        clear hz hy
        by_cases hzy : z = y
        · have hb : (z != y) = false := by simp [hzy]
          have HZY := Lib.hid hzy
          clear hzy
          go_wp2
          go_quiet (fail)
          clear hb
          go_wp2
          go_roundw
          case rel => exact ⟨k + 1, by omega, by go_num, Lib.hid (by rw [take_next _ _ hlt, take_next _ _ (show k < ys.length by omega), ht.out, HZ.out, HY.out, HZY.out]), Lib.hid ⟨_, rfl⟩⟩
          case measure => simp [intOf]; omega
        · have hb : (z != y) = true := by simp [hzy]
          have HZY := Lib.hid hzy
          clear hzy
          go_wp2
          go_quiet (fail)
          clear hb
          go_wp2
          go_ret
          refine ⟨ret_bool ?_, _, World.drewN_drewN _ _ _⟩
          symm; rw [decide_eq_false_iff_not]
          intro e
          refine HZY.out ?_
          rw [← HZ.out, ← HY.out]; simp only [e]
      · go_wp2
        go_ret
        refine ⟨ret_bool ?_, _, rfl⟩
        symm; rw [decide_eq_true_eq]
        have := ht.out
        rwa [List.take_of_length_le (by omega), List.take_of_length_le (by omega)] at this
  · have hb : ((zs.length : Int) != (ys.length : Int)) = true := by simp; omega
    go_enter Tryd.func13, Tryd.ntmps13
    go_wp2
    go_ret
    refine ⟨ret_bool ?_, 0, rfl⟩
    symm; rw [decide_eq_false_iff_not]
    rintro rfl
    exact hl rfl
end Go.Proofs.YtbpehdpcnnaidaaDoor.Ac
