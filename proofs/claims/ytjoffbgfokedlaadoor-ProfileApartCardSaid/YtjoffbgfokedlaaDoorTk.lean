/-
  A range over an iterator that reads what the rounds write: the caller's invariant says what the iterator needs.
  maps.Keys over the map of places.
  slices.AppendSeq of the keys.
-/
import Derived.Test.YtjoffbgfokedlaaDoorSa
import Derived.RangeFuncNested
import Derived.RangeFuncBound
import Derived.RangeFuncCalls
import Derived.RangeFuncLeaves
import Derived.Maps.AppendAt
import Derived.Shelf.Abstract
import Derived.Shelf.RegionOpen
import Derived.Sort.MapsRangeIn
import Derived.OwnWalkIn
import Derived.TacticsInMore
import Derived.LoopNIn
import Derived.LoopIn
namespace Go.Proofs.YtjoffbgfokedlaaDoor.Pf
open Go Go.RowKit

/-- An iterator whose rounds are asked with what their caller keeps (Rel), for what may come (Sq). -/
def SeqRel {α : Type} (F : Fence) (n : Nat) (P : Program) (g : Nat) (lb : Array Value) (encs : α → Array Value) (Rel : List α → World → Prop) (Kp : World → World → Prop) (Sq S : List α → Prop) (w : World) : Prop :=
  ∀ (l : Nat) (J : List α → World → Prop) (W : World), Below w.heap.size w W → AbidesFrom W.heap.size J → (∀ pre X, J pre X → Rel pre X) →
    (∀ pre x X, J pre X → Sq (pre ++ [x]) → YieldAt F (n - 1) P l (encs x) X fun e Y => e = .returned (.bool true) ∧ J (pre ++ [x]) Y ∧ Kp X Y) →
    J [] W → CallsIn F n P g (#[.func (.yield l) #[] #[]] ++ lb) W fun e Y => (∃ v, e = .returned v) ∧ ∃ xs, S xs ∧ J xs Y
def relPost {α : Type} (B : Nat) (Kp : World → World → Prop) (I : List α → World → Prop) (xs : List α) (W : World) : Exit → Go.Act → World → Prop
  | .normal, _, Y => KeepsFrom B W Y ∧ Kp W Y ∧ I xs Y
  | _, _, _ => False
/-- What the loop has laid of its own: its record, as it stands, and the block for what rounds put off. -/
def LoopLies (W : World) (b : Nat) (r : Loop) : Prop := W.heap[b + 1]? = some (.loop r) ∧ W.heap[b]? = some (.deferred (some []))
theorem LoopLies.from {W Y : World} {b : Nat} {r : Loop} (h : LoopLies W b r) (hk : KeepsFrom b W Y) : LoopLies Y b r := ⟨hk.same _ _ (by omega) h.1 rfl, hk.same _ _ (Nat.le_refl _) h.2 rfl⟩
theorem LoopLies.turn {W : World} {b : Nat} {r : Loop} (h : LoopLies W b r) (r' : Loop) : LoopLies (W.putObj (b + 1) (.loop r')) b r' :=
  ⟨World.putObj_heap_same (Array.getElem?_eq_some_iff.1 h.1).1, (World.putObj_heap_other (by omega)).trans h.2⟩
theorem LoopLies.walked {W Y : World} {b : Nat} {r : Loop} {row : Option Nat} (h : LoopLies W b r) (hg : W.grownBy Y row) (hr : ∀ k, row = some k → ∃ o : Obj, W.heap[k]? = some o ∧ o.isWalk = true) : LoopLies Y b r :=
  ⟨(grownBy_keeps hg hr h.1 rfl).trans h.1, (grownBy_keeps hg hr h.2 rfl).trans h.2⟩
theorem wp_rangeRel {F : Fence} {n : Nat} {P : Program} {α : Type} {g : Operand} {ps : Array Tmp} {assign body : Code} {Q : Exit → Go.Act → World → Prop} {a : Go.Act} {w : World}
    (hro : F.round = none) (h1 : 1 ≤ n) {gf : Nat} {lb : Array Value} (hg : a.eval g = .func (.func gf) #[] lb) (hFg : F.fn gf) (eg : ∀ args w, (callFunc gf args).run P w = .ok (.enter gf args) w)
    {encs : α → Array Value} {Rel : List α → World → Prop} {Kp : World → World → Prop} {Sq S : List α → Prop} {w0 : World} (hseq : SeqRel F (n - 1) P gf lb encs Rel Kp Sq S w0)
    (hKt : ∀ {A B C : World}, Kp A B → Kp B C → Kp A C) (hKb : ∀ (W : World) (l : Nat) (o o' : Obj), w.heap.size ≤ l → W.heap[l]? = some o → o.isCells = false → o.isWalk = false → Kp W (W.putObj l o'))
    (hb0 : Below w0.heap.size w0 w) (hps : ∀ x, (encs x).size = ps.size)
    (I : List α → World → Prop) (hI : OwnFrom w.heap.size I) (hR : ∀ pre W, I pre W → Rel pre W) (h0 : I [] w) (Ax : α → Go.Act → World → Prop) (hAx : ∀ x a', OwnFrom w.heap.size (fun (_ : Unit) W => Ax x a' W))
    (hassign : ∀ (l : Nat) (pre : List α) (x : α) (W : World) (K : Go.Act → World → Prop), I pre W → Sq (pre ++ [x]) → (∀ a' Y, KeepsFrom w.heap.size W Y → Kp W Y → I pre Y → Ax x a' Y → K a' Y) →
      assign.wpIn (F.inRound l) (n - 1 - 1) P (Exit.then K (fun _ _ _ => False)) { tmps := (ps.zip (encs x)).foldl (fun t (p, v) => t.setIfInBounds p v) a.tmps, defers := [] } W)
    (hbody : ∀ (l : Nat) (pre : List α) (x : α) (a' : Go.Act) (W : World), I pre W → Ax x a' W → Sq (pre ++ [x]) → body.wpIn (F.inRound l) (n - 1 - 1) P (relPost w.heap.size Kp I (pre ++ [x]) W) a' W)
    (hdone : ∀ (D : Nat) (xs : List α) (W : World), w.heap.size ≤ D → S xs → I xs W → W.heap[D]? = some (.deferred (some [])) → Q .normal { a with defers := { target := .collected D, args := #[] } :: a.defers } W) :
    (Code.rangeFunc g ps assign body).wpIn F n P Q a w := by
  refine wpIn_rangeFunc ?_
  intro fn hfn
  rw [hro]
  obtain ⟨rec, hrec⟩ : ∃ rec : LoopState → Loop, rec = fun st => { state := st, pending := none, fn, tmps := a.tmps, params := ps, assign, body, defers := w.heap.size } := ⟨_, rfl⟩
  obtain ⟨W1, hW1⟩ : ∃ W1, (w.alloc (.deferred (some []))).alloc (.loop (rec .ready)) = W1 := ⟨_, rfl⟩
  have hz : (w.alloc (.deferred (some []))).heap.size = w.heap.size + 1 := World.size_alloc _ _
  have z1 : W1.heap.size = w.heap.size + 2 := by rw [← hW1, World.size_alloc, hz]
  have L1 : LoopLies W1 w.heap.size (rec .ready) := by
    rw [← hW1]
    refine ⟨?_, (Below.heap_alloc _ _ _ (by omega)).trans (World.alloc_heap_new w _)⟩
    rw [← hz]; exact World.alloc_heap_new _ _
  refine ⟨w.heap.size + 1, [{ target := .collected w.heap.size, args := #[] }], W1, { target := .fn (.func gf) lb, args := #[.func (.yield (w.heap.size + 1)) #[] #[]] }, W1, gf, #[.func (.yield (w.heap.size + 1)) #[] #[]] ++ lb, W1, ?_, ?_, ?_, ?_, fun _ => h1, ?_⟩
  · rw [← hW1, hrec]; exact run_enterLoop_outer _ _ _ _ _
  · simp only [resolve, hg]; simp [go_sem]
  · intro f' hf'; simp [Target.leads] at hf'; subst hf'; exact hFg
  · simp [invoke, go_sem, eg]
  have far : ∀ {A : World} {row : Option Nat}, (∀ k, row = some k → W1.heap.size ≤ k ∧ ∃ o : Obj, A.heap[k]? = some o ∧ o.isWalk = true) → ∀ k, row = some k → w.heap.size ≤ k ∧ ∃ o : Obj, A.heap[k]? = some o ∧ o.isCells = false := fun hr k e => by
    obtain ⟨hB, o, ho, hw⟩ := hr k e
    exact ⟨by omega, o, ho, Obj.not_cells_of_walk hw⟩
  refine (hseq (w.heap.size + 1) (fun pre W => I pre W ∧ LoopLies W w.heap.size (rec .ready)) W1 ?_ (fun s A B row hs hg' hr => ⟨hI s A B row hs.1 hg' (far hr), hs.2.walked hg' fun k e => (hr k e).2⟩) (fun pre X h => hR pre X h.1) ?_ ⟨?_, L1⟩).mono ?_
  · rw [← hW1]; exact hb0.trans ((((Below.refl _ w).alloc (Nat.le_refl _) _).alloc (by omega) _).mono hb0.size)
  · rintro pre x W ⟨hi, hl⟩ hx
    have hy := run_yield (P := P) (args := encs x) hl.1 (by rw [hrec]; exact hps x)
    simp only [hrec] at hy
    refine ⟨fn, _, assign, body, hy, roundIn_of_wpIn hfn (hassign _ pre x W _ hi hx ?_)⟩
    clear hy
    intro a' Y hk hkp hi' hax
    replace hl := hl.from hk
    have hl2 := hl.turn { rec .ready with state := .busy }
    refine ⟨_, run_beginRound hl.1 (by rw [hrec]), ?_⟩
    refine wpIn_mono (hbody _ pre x a' _ (hI.putObj _ hi' (by omega) hl.1 rfl) ((hAx x a').putObj (s := ()) _ hax (by omega) hl.1 rfl) hx) ?_
    rintro e a3 Z hp
    cases e with
    | normal =>
      obtain ⟨hk3, hkp3, hi3⟩ := hp
      have hl3 := hl2.from hk3
      have hr := run_endRound (P := P) none hl3.1
      refine ⟨_, _, hr, ⟨rfl, ⟨hI.putObj _ hi3 (by omega) hl3.1 rfl, ?_⟩, hKt hkp (hKt (hKt (hKb _ _ _ _ (by omega) hl.1 rfl rfl) hkp3) (hKb _ _ _ _ (by omega) hl3.1 rfl rfl))⟩⟩
      have := hl3.turn (rec .ready)
      rw [hrec] at this ⊢
      exact this
    | ret => exact hp.elim
    | exit id => exact hp.elim
    | goto t => exact hp.elim
    | panic ch => exact hp.elim
    | outgrown => exact hp.elim
  · rw [← hW1]; exact hI.alloc _ (hI.alloc _ h0)
  · rintro e W2 ⟨⟨v, rfl⟩, xs, hS, hi, hl⟩
    exact ⟨none, _, by have := run_endLoop (P := P) hl.1 (by rw [hrec]; simp); rw [hrec] at this; exact this, hdone _ xs _ (Nat.le_refl _) hS (hI.putObj _ hi (by omega) hl.1 rfl) ((World.putObj_heap_other (by omega)).trans hl.2)⟩
end Go.Proofs.YtjoffbgfokedlaaDoor.Pf
namespace Go.Proofs.YtjoffbgfokedlaaDoor.Pf
open Go Go.RowKit Go.Shelf

attribute [local go_sem] Oper.semAt_some

abbrev Ky := Plc
def SqK (D : DataW Unit) (xs : List Ky) : Prop := xs.Nodup ∧ ∀ q ∈ xs, okP q ∧ Maps.has D (keyL q) = true
def AllK (D : DataW Unit) (xs : List Ky) : Prop := xs.Nodup ∧ ∀ q, q ∈ xs ↔ okP q ∧ Maps.has D (keyL q) = true
def ComeK (D : DataW Unit) (left : Lit → Bool) (xs : List Ky) : Prop := xs.Nodup ∧ (∀ q ∈ xs, okP q) ∧ ∀ q, okP q → (q ∈ xs ↔ Maps.has D (keyL q) = true ∧ left (keyL q) = false)
theorem kyL_ne {q r : Ky} (h : okP q) (k : okP r) (hne : q ≠ r) : keyL q ≠ keyL r := fun e => hne (keyL_inj h k e)
theorem kyL_self {q : Ky} (h : okP q) : (keyL q).sameKey (keyL q) = true := WideAt.sameKey_self (keyed.key (keyOf_mk h))
theorem ComeK.start (D : DataW Unit) : ComeK D (Maps.has D) [] := ⟨List.nodup_nil, fun _ h => (by cases h), fun q _ => by cases Maps.has D (keyL q) <;> simp⟩
theorem ComeK.new {D : DataW Unit} {left : Lit → Bool} {xs : List Ky} (h : ComeK D left xs) {q : Ky} (hq : okP q) {y : DataW Unit} (hl : left (keyL q) = true) (hat : ∀ zd, D.atKey (keyL q) zd = y) : SqK D (xs ++ [q]) := by
  have hh : Maps.has D (keyL q) = true := Maps.has_true_of_atKey hat
  have hn : q ∉ xs := fun hx => by have := ((h.2.2 q hq).1 hx).2; rw [hl] at this; cases this
  refine ⟨List.nodup_append.2 ⟨h.1, by simp, fun a ha b hb => by simp at hb; subst hb; exact fun e => hn (e ▸ ha)⟩, fun r hr => ?_⟩
  rcases List.mem_append.1 hr with hr | hr
  · exact ⟨h.2.1 r hr, ((h.2.2 r (h.2.1 r hr)).1 hr).1⟩
  · simp at hr; subst hr; exact ⟨hq, hh⟩
theorem ComeK.step {D : DataW Unit} {left : Lit → Bool} {xs : List Ky} (h : ComeK D left xs) {q : Ky} (hq : okP q) (hs : SqK D (xs ++ [q])) : ComeK D (fun z => left z && !z.sameKey (keyL q)) (xs ++ [q]) := by
  refine ⟨hs.1, fun r hr => (hs.2 r hr).1, fun r hr => ?_⟩
  by_cases e : r = q
  · subst e
    have := (hs.2 r (by simp)).2
    simp [this, kyL_self hr]
  · have hk := Maps.sameKey_ne (kyL_ne hr hq e)
    simp [h.2.2 r hr, e, hk]
theorem ComeK.all {D : DataW Unit} {left : Lit → Bool} {xs : List Ky} (h : ComeK D left xs) (hl : ∀ z, left z = false) : AllK D xs :=
  ⟨h.1, fun q => ⟨fun hx => ⟨h.2.1 q hx, ((h.2.2 q (h.2.1 q hx)).1 hx).1⟩, fun hx => (h.2.2 q hx.1).2 ⟨hx.2, hl _⟩⟩⟩
set_option maxRecDepth 100000 in
set_option maxHeartbeats 4000000 in
theorem keys1_in (F : Fence) (m : Nat) (hF : F.fn 54) (hro : F.round = none) (hm : 1 ≤ m) (l Bm b nn : Nat) (D : DataW Unit) (J : List Ky → World → Prop)
    (hY : ∀ pre x X, J pre X → SqK D (pre ++ [x]) → YieldAt F (m - 1) Tryd.prog l #[plcV x] X fun e Y => e = .returned (.bool true) ∧ J (pre ++ [x]) Y ∧ KeepsWalks X Y)
    (W : World) (hJ : AbidesFrom W.heap.size J) (hm0 : W.cell? ⟨Bm, 0, none⟩ = some (.map (some b))) (hown : W.ownsMap Tryd.prog 43 ptrElem b nn D) (h0 : J [] W) :
    CallsIn F m Tryd.prog 54 #[.func (.yield l) #[] #[], .pointer (some ⟨Bm, 0, none⟩)] W fun e Y => (∃ v, e = .returned v) ∧ ∃ xs, AllK D xs ∧ J xs Y := by
  have HY := Lib.hid hY
  have HJ := Lib.hid hJ
  clear hY hJ
  refine callsIn_of_wp Tryd.func54 rfl hF ?_ hro
  simp only [Tryd.ntmps54, List.size_toArray, List.length_cons, List.length_nil, Nat.reduceAdd, Nat.reduceSub, Array.replicate_succ, Array.replicate_zero, List.push_toArray, List.append_toArray, List.nil_append, List.cons_append]
  gi_wp2_with (first
    | (gi_at_range; refine wpListIn_range_own _ rfl _ 65 rfl 43 84 keyed Tryd.underlying65 ptrElem b nn _ rfl hown ?_; intro w0 hrg0 hg0 hs0)
    | gi_in)
  go_frame
  gi_loopw [3] (fun _ wr => ∃ (left : Lit → Bool) (cnt : Nat) (xs : List Ky), wr.ranges Tryd.prog 43 ptrElem b W.heap.size nn D left cnt ∧ Hid (ComeK D left xs) ∧ Hid (J xs wr))
    (fun _ wr => wr.rangeLeft b W.heap.size)
  case atStart => exact ⟨_, _, [], hrg0, Lib.hid (ComeK.start D), Lib.hid (HJ.out [] W w0 none h0 hg0 (fun r e => by cases e))⟩
  case round =>
    clear h0 hm0
    obtain ⟨left, cnt, xs, hrg, hC, hJs⟩ := hrel
    gi_wp2_with (first
      | (gi_at_next; refine wpListIn_next_ranges _ rfl _ rfl 43 keyed ptrElem plcV id (fun key kl h => by obtain ⟨a, e, _⟩ := keyOf_inv h; exact ⟨a, e⟩) (fun v _ _ => ⟨v, rfl⟩) b W.heap.size nn _ _ _ rfl hrg ?_ ?_)
      | gi_in)
    · intro _ hl0
      have G := Lib.hid (hC.out.all hl0)
      clear hl0
      gi_wp2
      go_end0
      exact ⟨⟨_, rfl⟩, xs, G.out, hJs.out⟩
    · intro f x c kl yd yp w2 cnt2 hkey hlk hv hat hrg2 hlt hg2 hs2 hen
      obtain ⟨q, e, wq, rfl⟩ := keyOf_inv hkey
      obtain rfl : (f, x) = q := by
        unfold plcV at e
        simp only [Value.agg.injEq, Array.mk.injEq, List.cons.injEq, Value.int.injEq, true_and, and_true] at e
        exact Prod.ext e.1 e.2
      have HS := Lib.hid (hC.out.new wq hlk hat)
      have HC := Lib.hid (hC.out.step wq HS.out)
      have HJ2 := Lib.hid (HJ.out xs wr w2 (some W.heap.size) hJs.out hg2 (fun r e => by cases e; exact ⟨Nat.le_refl _, hrg.iter_walk⟩))
      have hrg2 := hrg2.alloc (.cells #[.int .i64 f, .int .i64 x] 43)
      have HJ3 := Lib.hid (HJ.out xs w2 _ none HJ2.out (World.grownBy_alloc w2 (.cells #[.int .i64 f, .int .i64 x] 43) none) (by simp))
      obtain ⟨fn, tmps, assign, body, hy, hR⟩ := HY.out xs (f, x) (w2.alloc (.cells #[.int .i64 f, .int .i64 x] 43)) HJ3.out HS.out
      unfold plcV at hen
      dsimp only [plcV] at hy
      clear e hkey hlk hv hat hg2 hs2
      gi_wp2
      refine hR.mono ?_
      rintro e W3 ⟨rfl, hJ4, hk4⟩
      have HJ4 := Lib.hid hJ4
      have hrg3 := hrg2.of_walks hk4
      clear hJ4 hk4
      gi_wp2
      go_roundw
      case rel => exact ⟨_, cnt2, xs ++ [(f, x)], hrg3, HC, HJ4⟩
      case measure => rw [hrg3.left_eq, hrg.left_eq]; exact hlt
theorem keys_seq (F : Fence) (m : Nat) (hF : F.fn 54) (hro : F.round = none) (hm : 1 ≤ m) (Bm b nn : Nat) (D : DataW Unit) (w : World) (hb : Bm < w.heap.size)
    (h0 : w.cell? ⟨Bm, 0, none⟩ = some (.map (some b))) (hown : w.ownsMap Tryd.prog 43 ptrElem b nn D) :
    SeqRel F m Tryd.prog 54 #[.pointer (some ⟨Bm, 0, none⟩)] (fun x : Ky => #[plcV x]) (fun _ _ => True) KeepsWalks (SqK D) (AllK D) w := fun l J W hW hJ _ hY hs =>
  keys1_in F m hF hro hm l Bm b nn D J hY W hJ ((hW.cell (p := ⟨Bm, 0, none⟩) hb).trans h0) (map_keep hown (hW.block b hown.lt)) hs
set_option maxHeartbeats 1000000 in
theorem keys_any (mb : Option Nat) (w : World) :
    Calls Tryd.prog 35 #[.map mb] w fun e w' =>
      e = .returned (.func (.func 54) #[] #[.pointer (some ⟨w.heap.size, 0, none⟩)]) ∧ w' = w.alloc (.cells #[.map mb] 65) := by
  go_enter Tryd.func35, Tryd.ntmps35
  go_wp2
  go_ret
  exact ⟨rfl, rfl⟩
end Go.Proofs.YtjoffbgfokedlaaDoor.Pf
namespace Go.Proofs.YtjoffbgfokedlaaDoor.Pf
open Go Go.RowKit Go.Shelf

attribute [local go_sem] Oper.semAt_some

def flatK (xs : List Ky) : List Value := xs.flatMap fun q => [.int .i64 q.1, .int .i64 q.2]
theorem flatK_snoc (xs : List Ky) (q : Ky) : flatK (xs ++ [q]) = flatK xs ++ [.int .i64 q.1, .int .i64 q.2] := by simp [flatK]
theorem infoT : (Tryd.prog.info? 43).map (fun i => (i.zero, i.size, i.bytes)) = some (some (.agg #[.int .i64 0, .int .i64 0]), 2, 16) := by kernel_rfl
theorem bk_ownB {β : Type} (B : Nat) (b : Nat) (T : TypeId) (f : β → Array Value) : OwnFrom B (fun s W => Bk W b (f s) T) := fun s X Y row hs hg hrow => by
  have hs' : Bk X b (f s) T := hs
  have hl := hs'.lt
  show Bk Y b (f s) T
  unfold Bk at hs' ⊢
  rw [hg.block b hl (fun e' => by obtain ⟨_, o, ho, hc⟩ := hrow b e'.symm; rw [hs'] at ho; cases ho; cases hc)]; exact hs'
set_option maxRecDepth 100000 in
set_option maxHeartbeats 4000000 in
theorem appendSeq_in (n : Nat) (hn : 3 ≤ n) (g : Nat) (lb : Array Value) (eg : ∀ args w, (callFunc g args).run Tryd.prog w = .ok (.enter g args) w) (Sq S : List Ky → Prop) (hSq : ∀ xs, Sq xs → xs.length ≤ 1000000) (w : World)
    (hseq : SeqRel Fence.wide (n - 1) Tryd.prog g lb (fun x : Ky => #[plcV x]) (fun _ _ => True) KeepsWalks Sq S w) :
    CallsIn Fence.wide n Tryd.prog 62 #[.slice none 0 0, .func (.func g) #[] lb] w fun e w' => ∃ v xs, e = .returned v ∧ S xs ∧ w'.ownsRow w.heap.size 43 2 v xs.length (flatK xs) ∧ Below w.heap.size w w' := by
  obtain ⟨i0, hi, hz0, hz1, hz2⟩ := info_parts infoT
  refine callsIn_of_wp_marks Tryd.func62 rfl trivial ?_ rfl
  simp only [Tryd.ntmps62, List.size_toArray, List.length_cons, List.length_nil, Nat.reduceAdd, Nat.reduceSub, Array.replicate_succ, Array.replicate_zero, List.push_toArray, List.append_toArray, List.nil_append, List.cons_append]
  gi_wp2
  have hsz : (w.alloc (.cells #[.slice none 0 0] 79)).heap.size = w.heap.size + 1 := by simp
  have hB0 : Below w.heap.size w (w.alloc (.cells #[.slice none 0 0] 79)) := (Below.refl _ w).alloc (Nat.le_refl _) _
  have b0 := Boxed.new w 79 (.slice none 0 0)
  obtain ⟨W0, hW0⟩ : ∃ W0, w.alloc (.cells #[.slice none 0 0] 79) = W0 := ⟨_, rfl⟩
  rw [hW0] at hsz hB0 b0 ⊢
  clear hW0
  refine wp_rangeRel rfl (by omega) (gf := g) (lb := lb) rfl trivial eg hseq walksK_t walksK_b hB0 (fun _ => rfl)
    (fun pre W => (∃ v, Boxed W w.heap.size 79 v ∧ W.ownsRow w.heap.size 43 2 v pre.length (flatK pre) ∧ True) ∧ Below w.heap.size W0 W)
    (OwnFrom.and (Own.from (holdsRow_own w.heap.size w.heap.size 79 43 2 (fun pre => pre.length) flatK (fun _ _ => True)) _) (ownFrom_below (by omega) (by omega)))
    (fun _ _ _ => trivial)
    ⟨⟨_, b0, World.ownsRow_nil _ _ _ _, trivial⟩, Below.refl _ _⟩
    (fun x a' W => ∃ Bx, w.heap.size < Bx ∧ Bk W Bx #[.int .i64 x.1, .int .i64 x.2] 43 ∧ a' = { tmps := #[.slice none 0 0, .func (.func g) #[] lb, .pointer (some ⟨w.heap.size, 0, none⟩), undef, .slice none 0 0, .pointer (some ⟨Bx, 0, none⟩), .func (.func g) #[] lb, plcV x, undef, undef, undef, undef, undef], defers := [] })
    (fun x a' _ X Y row hs hg hr => by obtain ⟨Bx, h1, h2, h3⟩ := hs; exact ⟨Bx, h1, bk_ownB W0.heap.size Bx _ (fun (_ : Unit) => _) () X Y row h2 hg hr, h3⟩)
    ?assign ?body ?done
  case assign =>
    rintro l pre x W K ⟨⟨v, i0, i1, _⟩, hB1⟩ _ hK
    have hs := hB1.size
    dsimp only [plcV]
    gi_wp2
    exact hK _ _ ((KeepsOthers.alloc _ _).from _) (KeepsWalks.alloc _ _) ⟨⟨v, i0.alloc _, i1.alloc _, trivial⟩, hB1.alloc (by omega) _⟩ ⟨W.heap.size, by omega, Bk.new _ _ _, rfl⟩
  case body =>
    rintro l pre x a' W ⟨⟨v, j0, hrow, _⟩, hB1⟩ ⟨Bx, hBx, bX, rfl⟩ hx
    have hlen := hSq _ hx
    rw [List.length_append] at hlen
    have hlen' : pre.length + 1 ≤ 1000000 := hlen
    have c1 := j0.cell
    have x0 := bX.cell 0 _ rfl
    have x1 := bX.cell 1 _ rfl
    have z1 := hB1.size
    have hB := Lib.hid (show w.heap.size ≤ W.heap.size by omega)
    clear hlen hx hsz hB0 b0 bX
    gi_wp2_with (gi_at_builtin; refine wpListIn_append_own _ rfl _ _ 79 rfl w.heap.size 43 i0 (.agg #[.int .i64 0, .int .i64 0]) 2 16 Tryd.underlying79 hi hz0 hz1 hz2 rfl (by decide) _ _ _ rfl (hrow.alloc _) ⟨W.heap.size, 0, none⟩ 1 1 [.int .i64 x.1, .int .i64 x.2] rfl rfl (World.news_of_block (cs := #[.int .i64 x.1, .int .i64 x.2]) (t := 43) (fr := (0, 0)) (World.alloc_heap_new W _)) (by simp [Value.oneCell']) (by unfold maxLen; omega) (by omega) (by have := hB.out; simp; omega) ?_; intro v' w1 hown' hgrow _; obtain ⟨g', cap', rfl⟩ := ownsRow_succ hown'; obtain ⟨hv1, hv2, hr2, hk2, hb2⟩ := j0.appended (by decide) hrow hB.out (Nat.le_refl _) hown' hgrow; have hc1 := hv1.cell; have hf1 := hv1.frozen)
    exact ⟨hk2.from _, hk2.walks, ⟨_, hv2, by rw [flatK_snoc, List.length_append]; exact hr2, trivial⟩, hB1.trans hb2⟩
  case done =>
    rintro D xs W hD hS ⟨⟨v, j0, hrow, _⟩, hB1⟩ hK
    have c1 := j0.cell
    gi_wp2
    refine ⟨by simp, .inl ⟨_, _, rfl, run_takeDeferred hK, ?_⟩⟩
    exact ⟨_, results_tmp rfl _ _ _, _, xs, rfl, hS, ownsRow_putObj hrow _ hK rfl, (hB0.trans hB1).trans (belowK_b (w := W0) (by omega) W D _ _ hD hK rfl rfl)⟩
end Go.Proofs.YtjoffbgfokedlaaDoor.Pf
