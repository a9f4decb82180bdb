/-
  The iterator of package account over the cells of an account's tenants.
-/
import Derived.RangeFuncNested
import Derived.RangeFuncBound
import Derived.RangeFuncCalls
import Derived.RangeFuncLeaves
import Derived.Shelf.Abstract
import Derived.Shelf.RegionOpen
import Derived.OwnWalkIn
import Derived.TacticsInMore
import Derived.LoopNIn
import Derived.LoopIn
import Derived.Test.YtbpehdpcnnaidaaDoorAn
namespace Go.Proofs.YtbpehdpcnnaidaaDoor.Ac
open Go Go.RowKit Go.Shelf

attribute [local go_sem] Oper.semAt_some

def encC (e : En) : Value := .agg #[.int .i64 e.kind, .int .i64 e.cls, .int .i64 e.fn, .int .i64 e.ten, .slice e.nA e.nn e.nc, .slice e.iA e.m e.ic]
def ownedB (n : Int) (e : En) : Bool := decide (0 ≤ e.ten ∧ e.ten < n)
/-- A cell of one of the tenants. -/
abbrev EnO (n : Int) := { e : En // ownedB n e = true ∧ e.m ≤ 1000 }
/-- All blocks but block g, and those behind N, are as they were. -/
def Kx (g N : Nat) (W W' : World) : Prop := Below g W W' ∧ ∀ i, g < i → i < N → W'.heap[i]? = W.heap[i]?
theorem Kx.trans {g N : Nat} {A B C : World} (h : Kx g N A B) (k : Kx g N B C) : Kx g N A C := ⟨h.1.trans k.1, fun i h1 h2 => (k.2 i h1 h2).trans (h.2 i h1 h2)⟩
theorem Kx.refl (g N : Nat) (W : World) : Kx g N W W := ⟨Below.refl _ _, fun _ _ _ => rfl⟩
theorem Kx.b {g N : Nat} {w : World} (hg : g < N) (hN : N ≤ w.heap.size) (W : World) (l : Nat) (o o' : Obj) (hl : w.heap.size ≤ l) (h : W.heap[l]? = some o) (_ : o.isCells = false) (_ : o.isWalk = false) : Kx g N W (W.putObj l o') :=
  ⟨(Below.refl g W).grown (grownBy_putObj' W l o') (by have := (Array.getElem?_eq_some_iff.1 h).1; omega) (fun k e => by cases e; omega), fun i _ h2 => World.putObj_heap_other (by omega)⟩
theorem Kx.bk {g N : Nat} {A B : World} (h : Kx g N A B) {b : Nat} {c : Array Value} {T : TypeId} (hb : Bk A b c T) (h1 : g < b) (h2 : b < N) : Bk B b c T := (h.2 b h1 h2).trans hb
theorem Kx.alloc {g N : Nat} {A B : World} (h : Kx g N A B) (hg : g ≤ B.heap.size) (hN : N ≤ B.heap.size) (o : Obj) : Kx g N A (B.alloc o) :=
  ⟨h.1.alloc hg o, fun i h1 h2 => (Below.heap_alloc B o i (by omega)).trans (h.2 i h1 h2)⟩
theorem Se.below {w w' : World} {B C : Nat} {A : Option Addr} {es : List En} (h : Se w B A es) (hb : Below C w w') (hB : B ≤ C) : Se w' B A es := fun j e he => by
  obtain ⟨g, rfl, hl, hc⟩ := h j e he
  exact ⟨g, rfl, hl, fun i u hu => by rw [hb.cell (show g < C by omega)]; exact hc i u hu⟩
theorem Se.up {w : World} {B B' : Nat} {A : Option Addr} {es : List En} (h : Se w B A es) (hB : B ≤ B') : Se w B' A es := fun j e he => by
  obtain ⟨g, rfl, hl, hc⟩ := h j e he
  exact ⟨g, rfl, by omega, hc⟩
theorem filter_le (es : List En) (k : Nat) (p : En → Bool) : ((es.take k).filter p).length ≤ k := by
  have h1 := List.length_filter_le p (es.take k)
  have h2 : (es.take k).length ≤ k := List.length_take_le _ _
  omega
theorem filter_next (es : List En) (k : Nat) (p : En → Bool) (h : k < es.length) : (es.take (k + 1)).filter p = (es.take k).filter p ++ (if p es[k] = true then [es[k]] else []) := by
  rw [List.take_succ_eq_append_getElem h, List.filter_append]
  by_cases hp : p es[k] = true
  · rw [if_pos hp, List.filter_cons_of_pos hp]; rfl
  · rw [if_neg hp, List.filter_cons_of_neg hp]; rfl

set_option maxRecDepth 100000 in
set_option maxHeartbeats 2000000 in
theorem cells1_in (F : Fence) (m : Nat) (hF : F.fn 30) (hro : F.round = none) (hm : 1 ≤ m) (l : Nat) (A : Option Addr) (es : List En) (c g N Bl Bt : Nat) (n : Int) (J Jx : List (EnO n) → World → Prop)
    (hY : ∀ pre x W, J pre W → pre.length < es.length → YieldAt F (m - 1) Tryd.prog l #[encC x.1] W fun e W' =>
      (e = .returned (.bool true) ∧ J (pre ++ [x]) W' ∧ Kx g N W W') ∨ (e = .returned (.bool false) ∧ Jx (pre ++ [x]) W'))
    (W : World) (hJ : AbidesFrom W.heap.size J) (hN : N ≤ W.heap.size) (hl : Bk W Bl #[.slice A es.length c] 44) (ht : Bk W Bt #[.int .i64 n] 3) (ht1 : g < Bt) (ht2 : Bt < N) (hE : Se W g A es) (hf : Few es) (h0 : J [] W) :
    CallsIn F m Tryd.prog 30 #[.func (.yield l) #[] #[], .pointer (some ⟨Bl, 0, none⟩), .pointer (some ⟨Bt, 0, none⟩)] W fun e W' => (∃ v, e = .returned v) ∧
      ((∃ ys : List (EnO n), ys.map Subtype.val = es.filter (ownedB n) ∧ J ys W') ∨ (∃ pre, Jx pre W')) := by
  have HL := Lib.hid hl
  have HT := Lib.hid ht
  have HE := Lib.hid hE
  have cl := hl.cell 0 _ rfl
  clear hl ht hE
  refine callsIn_of_wp Tryd.func30 rfl hF ?_ hro
  simp only [Tryd.ntmps30, List.size_toArray, List.length_cons, List.length_nil, Nat.reduceAdd, Nat.reduceSub, Array.replicate_succ, Array.replicate_zero, List.push_toArray, List.append_toArray, List.nil_append, List.cons_append]
  have HY := Lib.hid hY
  have HJ := Lib.hid hJ
  clear hY hJ
  gi_wp2
  gi_loopw [9] (fun i wr => ∃ (k : Nat) (ys : List (EnO n)), k ≤ es.length ∧ i = .int .i64 k ∧ Hid (ys.map Subtype.val = (es.take k).filter (ownedB n)) ∧ Hid (J ys wr) ∧ Hid (Kx g N W wr)) (fun i _ => es.length - (intOf i).toNat)
  case atStart => exact ⟨0, [], by omega, rfl, Lib.hid (by simp), Lib.hid h0, Lib.hid (Kx.refl _ _ _)⟩
  case round =>
    clear cl h0
    obtain ⟨k, ys, hk, rfl, hys, hJs, hK⟩ := hrel
    have hes : es.length ≤ 1000 := hf.1
    by_cases hlt : k < es.length
    · have hlt' : (k : Int) < es.length := by omega
      obtain ⟨gg, rfl, hgg, hc⟩ := (HE.out.below hK.out.1 (Nat.le_refl _)) k _ (List.getElem?_eq_getElem hlt)
      have hm1 : (es[k]).m ≤ 1000 := hf.2 _ (List.getElem_mem hlt)
      have hnx := Lib.hid (filter_next es k (ownedB n) hlt)
      have hlen : ys.length ≤ k := by
        have h1 := congrArg List.length hys.out
        rw [List.length_map] at h1
        have := filter_le es k (ownedB n)
        omega
      have hsz := Lib.hid (show N ≤ wr.heap.size by have := hK.out.1.size; omega)
      have BT := Lib.hid (hK.out.bk HT.out ht1 ht2)
      generalize es[k] = e at *
      obtain ⟨id, kind, cls, fn, ten, nA, nn, nc, iA, mm, ic⟩ := e
      have y0 : wr.cell? ⟨gg, k * 7, none⟩ = some (.int .i64 id) := hc 0 _ rfl
      have y1 := hc 1 _ rfl
      have y2 := hc 2 _ rfl
      have y3 := hc 3 _ rfl
      have y4 := hc 4 _ rfl
      have y5 := hc 5 _ rfl
      have y6 := hc 6 _ rfl
      clear hc
      have bt : (wr.alloc (.cells #[.int .i64 id, .int .i64 kind, .int .i64 cls, .int .i64 fn, .int .i64 ten, .slice nA nn nc, .slice iA mm ic] 43)).cell? ⟨Bt, 0, none⟩ = some (.int .i64 n) := (BT.out.below ((Below.refl wr.heap.size wr).alloc (Nat.le_refl _) (.cells #[.int .i64 id, .int .i64 kind, .int .i64 cls, .int .i64 fn, .int .i64 ten, .slice nA nn nc, .slice iA mm ic] 43)) (by have := hsz.out; omega)).cell 0 _ rfl
      by_cases ho : 0 ≤ ten ∧ ten < n
      · obtain ⟨ho1, ho2⟩ := ho
        have HO : ownedB n ⟨id, kind, cls, fn, ten, nA, nn, nc, iA, mm, ic⟩ = true := decide_eq_true ⟨ho1, ho2⟩
        have HN := Lib.hid (show (ys ++ [(⟨⟨id, kind, cls, fn, ten, nA, nn, nc, iA, mm, ic⟩, HO, hm1⟩ : EnO n)]).map Subtype.val = (es.take (k + 1)).filter (ownedB n) by
          rw [hnx.out, if_pos HO, List.map_append, hys.out]; rfl)
        obtain ⟨fn', tmps', assign', body', hy, hR⟩ := HY.out ys ⟨⟨id, kind, cls, fn, ten, nA, nn, nc, iA, mm, ic⟩, HO, hm1⟩ (wr.alloc (.cells #[.int .i64 id, .int .i64 kind, .int .i64 cls, .int .i64 fn, .int .i64 ten, .slice nA nn nc, .slice iA mm ic] 43)) (HJ.out ys wr _ none hJs.out (World.grownBy_alloc _ _ _) (by simp)) (by omega)
        dsimp only [encC] at hy
        gi_wp2
        refine hR.mono ?_
        rintro e W3 (⟨rfl, hJ3, hk3⟩ | ⟨rfl, hJx3⟩)
        · have HJ3 := Lib.hid hJ3
          have HK3 := Lib.hid ((hK.out.alloc (by have := hsz.out; omega) hsz.out _).trans hk3)
          clear hJ3 hk3
          gi_wp2
          go_roundw
          case rel => exact ⟨k + 1, _, by omega, by go_num, HN, HJ3, HK3⟩
          case measure => simp [intOf]; omega
        · have HX := Lib.hid hJx3
          clear hJx3
          gi_wp2
          refine bodyPost_ret (results_none rfl _ _ _) rfl ?_
          exact ⟨⟨_, rfl⟩, .inr ⟨_, HX.out⟩⟩
      · have HO : ownedB n ⟨id, kind, cls, fn, ten, nA, nn, nc, iA, mm, ic⟩ = false := decide_eq_false ho
        have HN := Lib.hid (show ys.map Subtype.val = (es.take (k + 1)).filter (ownedB n) by
          rw [hnx.out, if_neg (by rw [HO]; decide), List.append_nil, hys.out])
        have HJ3 := Lib.hid (HJ.out ys wr _ none hJs.out (World.grownBy_alloc wr (.cells #[.int .i64 id, .int .i64 kind, .int .i64 cls, .int .i64 fn, .int .i64 ten, .slice nA nn nc, .slice iA mm ic] 43) _) (by simp))
        have HK3 := Lib.hid (hK.out.alloc (by have := hsz.out; omega) hsz.out (.cells #[.int .i64 id, .int .i64 kind, .int .i64 cls, .int .i64 fn, .int .i64 ten, .slice nA nn nc, .slice iA mm ic] 43))
        clear HO
        rcases (show ten < 0 ∨ (0 ≤ ten ∧ n ≤ ten) by omega) with ho1 | ⟨ho1, ho2⟩
        all_goals
          clear ho
          gi_wp2
          refine ⟨fun _ h => (by cases h), ?_⟩
          gi_wp2
          go_roundw
          case rel => exact ⟨k + 1, _, by omega, by go_num, HN, HJ3, HK3⟩
          case measure => simp [intOf]; omega
    · have hge : (es.length : Int) ≤ k := by omega
      gi_wp2
      go_end0
      exact ⟨⟨_, rfl⟩, .inl ⟨ys, by rw [hys.out, List.take_of_length_le (by omega)], hJs.out⟩⟩
end Go.Proofs.YtbpehdpcnnaidaaDoor.Ac
