/-
  A range over an iterator that reads what the rounds write: the caller's invariant says what the iterator needs.
  maps.Keys over the map of transitions.
  slices.AppendSeq and slices.Collect of the keys.
  The transitions of a tree, in order.
-/
import Derived.Test.YtjodmjadpooipaaGreatDoorKo
import Derived.RangeFuncNested
import Derived.RangeFuncBound
import Derived.RangeFuncCalls
import Derived.RangeFuncLeaves
import Derived.Maps.AppendAt
import Derived.Shelf.Abstract
import Derived.Shelf.RegionOpen
import Derived.Sort.MapsRangeIn
import Derived.OwnWalkIn
import Derived.TacticsInMore
import Derived.LoopNIn
import Derived.LoopIn
namespace Go.Proofs.YtjodmjadpooipaaGreatDoor.Sh
open Go Go.RowKit

/-- An iterator whose rounds are asked with what their caller keeps (Rel), for what may come (Sq). -/
def SeqRel {α : Type} (F : Fence) (n : Nat) (P : Program) (g : Nat) (lb : Array Value) (encs : α → Array Value) (Rel : List α → World → Prop) (Kp : World → World → Prop) (Sq S : List α → Prop) (w : World) : Prop :=
  ∀ (l : Nat) (J : List α → World → Prop) (W : World), Below w.heap.size w W → AbidesFrom W.heap.size J → (∀ pre X, J pre X → Rel pre X) →
    (∀ pre x X, J pre X → Sq (pre ++ [x]) → YieldAt F (n - 1) P l (encs x) X fun e Y => e = .returned (.bool true) ∧ J (pre ++ [x]) Y ∧ Kp X Y) →
    J [] W → CallsIn F n P g (#[.func (.yield l) #[] #[]] ++ lb) W fun e Y => (∃ v, e = .returned v) ∧ ∃ xs, S xs ∧ J xs Y
def relPost {α : Type} (B : Nat) (Kp : World → World → Prop) (I : List α → World → Prop) (xs : List α) (W : World) : Exit → Go.Act → World → Prop
  | .normal, _, Y => KeepsFrom B W Y ∧ Kp W Y ∧ I xs Y
  | _, _, _ => False
/-- What the loop has laid of its own: its record, as it stands, and the block for what rounds put off. -/
def LoopLies (W : World) (b : Nat) (r : Loop) : Prop := W.heap[b + 1]? = some (.loop r) ∧ W.heap[b]? = some (.deferred (some []))
theorem LoopLies.from {W Y : World} {b : Nat} {r : Loop} (h : LoopLies W b r) (hk : KeepsFrom b W Y) : LoopLies Y b r := ⟨hk.same _ _ (by omega) h.1 rfl, hk.same _ _ (Nat.le_refl _) h.2 rfl⟩
theorem LoopLies.turn {W : World} {b : Nat} {r : Loop} (h : LoopLies W b r) (r' : Loop) : LoopLies (W.putObj (b + 1) (.loop r')) b r' :=
  ⟨World.putObj_heap_same (Array.getElem?_eq_some_iff.1 h.1).1, (World.putObj_heap_other (by omega)).trans h.2⟩
theorem LoopLies.walked {W Y : World} {b : Nat} {r : Loop} {row : Option Nat} (h : LoopLies W b r) (hg : W.grownBy Y row) (hr : ∀ k, row = some k → ∃ o : Obj, W.heap[k]? = some o ∧ o.isWalk = true) : LoopLies Y b r :=
  ⟨(grownBy_keeps hg hr h.1 rfl).trans h.1, (grownBy_keeps hg hr h.2 rfl).trans h.2⟩
theorem wp_rangeRel {F : Fence} {n : Nat} {P : Program} {α : Type} {g : Operand} {ps : Array Tmp} {assign body : Code} {Q : Exit → Go.Act → World → Prop} {a : Go.Act} {w : World}
    (hro : F.round = none) (h1 : 1 ≤ n) {gf : Nat} {lb : Array Value} (hg : a.eval g = .func (.func gf) #[] lb) (hFg : F.fn gf) (eg : ∀ args w, (callFunc gf args).run P w = .ok (.enter gf args) w)
    {encs : α → Array Value} {Rel : List α → World → Prop} {Kp : World → World → Prop} {Sq S : List α → Prop} {w0 : World} (hseq : SeqRel F (n - 1) P gf lb encs Rel Kp Sq S w0)
    (hKt : ∀ {A B C : World}, Kp A B → Kp B C → Kp A C) (hKb : ∀ (W : World) (l : Nat) (o o' : Obj), w.heap.size ≤ l → W.heap[l]? = some o → o.isCells = false → o.isWalk = false → Kp W (W.putObj l o'))
    (hb0 : Below w0.heap.size w0 w) (hps : ∀ x, (encs x).size = ps.size)
    (I : List α → World → Prop) (hI : OwnFrom w.heap.size I) (hR : ∀ pre W, I pre W → Rel pre W) (h0 : I [] w) (Ax : α → Go.Act → World → Prop) (hAx : ∀ x a', OwnFrom w.heap.size (fun (_ : Unit) W => Ax x a' W))
    (hassign : ∀ (l : Nat) (pre : List α) (x : α) (W : World) (K : Go.Act → World → Prop), I pre W → Sq (pre ++ [x]) → (∀ a' Y, KeepsFrom w.heap.size W Y → Kp W Y → I pre Y → Ax x a' Y → K a' Y) →
      assign.wpIn (F.inRound l) (n - 1 - 1) P (Exit.then K (fun _ _ _ => False)) { tmps := (ps.zip (encs x)).foldl (fun t (p, v) => t.setIfInBounds p v) a.tmps, defers := [] } W)
    (hbody : ∀ (l : Nat) (pre : List α) (x : α) (a' : Go.Act) (W : World), I pre W → Ax x a' W → Sq (pre ++ [x]) → body.wpIn (F.inRound l) (n - 1 - 1) P (relPost w.heap.size Kp I (pre ++ [x]) W) a' W)
    (hdone : ∀ (D : Nat) (xs : List α) (W : World), w.heap.size ≤ D → S xs → I xs W → W.heap[D]? = some (.deferred (some [])) → Q .normal { a with defers := { target := .collected D, args := #[] } :: a.defers } W) :
    (Code.rangeFunc g ps assign body).wpIn F n P Q a w := by
  refine wpIn_rangeFunc ?_
  intro fn hfn
  rw [hro]
  obtain ⟨rec, hrec⟩ : ∃ rec : LoopState → Loop, rec = fun st => { state := st, pending := none, fn, tmps := a.tmps, params := ps, assign, body, defers := w.heap.size } := ⟨_, rfl⟩
  obtain ⟨W1, hW1⟩ : ∃ W1, (w.alloc (.deferred (some []))).alloc (.loop (rec .ready)) = W1 := ⟨_, rfl⟩
  have hz : (w.alloc (.deferred (some []))).heap.size = w.heap.size + 1 := World.size_alloc _ _
  have z1 : W1.heap.size = w.heap.size + 2 := by rw [← hW1, World.size_alloc, hz]
  have L1 : LoopLies W1 w.heap.size (rec .ready) := by
    rw [← hW1]
    refine ⟨?_, (Below.heap_alloc _ _ _ (by omega)).trans (World.alloc_heap_new w _)⟩
    rw [← hz]; exact World.alloc_heap_new _ _
  refine ⟨w.heap.size + 1, [{ target := .collected w.heap.size, args := #[] }], W1, { target := .fn (.func gf) lb, args := #[.func (.yield (w.heap.size + 1)) #[] #[]] }, W1, gf, #[.func (.yield (w.heap.size + 1)) #[] #[]] ++ lb, W1, ?_, ?_, ?_, ?_, fun _ => h1, ?_⟩
  · rw [← hW1, hrec]; exact run_enterLoop_outer _ _ _ _ _
  · simp only [resolve, hg]; simp [go_sem]
  · intro f' hf'; simp [Target.leads] at hf'; subst hf'; exact hFg
  · simp [invoke, go_sem, eg]
  have far : ∀ {A : World} {row : Option Nat}, (∀ k, row = some k → W1.heap.size ≤ k ∧ ∃ o : Obj, A.heap[k]? = some o ∧ o.isWalk = true) → ∀ k, row = some k → w.heap.size ≤ k ∧ ∃ o : Obj, A.heap[k]? = some o ∧ o.isCells = false := fun hr k e => by
    obtain ⟨hB, o, ho, hw⟩ := hr k e
    exact ⟨by omega, o, ho, Obj.not_cells_of_walk hw⟩
  refine (hseq (w.heap.size + 1) (fun pre W => I pre W ∧ LoopLies W w.heap.size (rec .ready)) W1 ?_ (fun s A B row hs hg' hr => ⟨hI s A B row hs.1 hg' (far hr), hs.2.walked hg' fun k e => (hr k e).2⟩) (fun pre X h => hR pre X h.1) ?_ ⟨?_, L1⟩).mono ?_
  · rw [← hW1]; exact hb0.trans ((((Below.refl _ w).alloc (Nat.le_refl _) _).alloc (by omega) _).mono hb0.size)
  · rintro pre x W ⟨hi, hl⟩ hx
    have hy := run_yield (P := P) (args := encs x) hl.1 (by rw [hrec]; exact hps x)
    simp only [hrec] at hy
    refine ⟨fn, _, assign, body, hy, roundIn_of_wpIn hfn (hassign _ pre x W _ hi hx ?_)⟩
    clear hy
    intro a' Y hk hkp hi' hax
    replace hl := hl.from hk
    have hl2 := hl.turn { rec .ready with state := .busy }
    refine ⟨_, run_beginRound hl.1 (by rw [hrec]), ?_⟩
    refine wpIn_mono (hbody _ pre x a' _ (hI.putObj _ hi' (by omega) hl.1 rfl) ((hAx x a').putObj (s := ()) _ hax (by omega) hl.1 rfl) hx) ?_
    rintro e a3 Z hp
    cases e with
    | normal =>
      obtain ⟨hk3, hkp3, hi3⟩ := hp
      have hl3 := hl2.from hk3
      have hr := run_endRound (P := P) none hl3.1
      refine ⟨_, _, hr, ⟨rfl, ⟨hI.putObj _ hi3 (by omega) hl3.1 rfl, ?_⟩, hKt hkp (hKt (hKt (hKb _ _ _ _ (by omega) hl.1 rfl rfl) hkp3) (hKb _ _ _ _ (by omega) hl3.1 rfl rfl))⟩⟩
      have := hl3.turn (rec .ready)
      rw [hrec] at this ⊢
      exact this
    | ret => exact hp.elim
    | exit id => exact hp.elim
    | goto t => exact hp.elim
    | panic ch => exact hp.elim
    | outgrown => exact hp.elim
  · rw [← hW1]; exact hI.alloc _ (hI.alloc _ h0)
  · rintro e W2 ⟨⟨v, rfl⟩, xs, hS, hi, hl⟩
    exact ⟨none, _, by have := run_endLoop (P := P) hl.1 (by rw [hrec]; simp); rw [hrec] at this; exact this, hdone _ xs _ (Nat.le_refl _) hS (hI.putObj _ hi (by omega) hl.1 rfl) ((World.putObj_heap_other (by omega)).trans hl.2)⟩
end Go.Proofs.YtjodmjadpooipaaGreatDoor.Sh
namespace Go.Proofs.YtjodmjadpooipaaGreatDoor.Sh
open Go Go.RowKit Go.Shelf

attribute [local go_sem] Oper.semAt_some

abbrev Ky := Int × ByteArray
def wfK (q : Ky) : Prop := I64 q.1 ∧ q.2.size ≤ maxLen
def kyL (q : Ky) : Lit := keyL q.1 q.2
def SqK (D : DataW Unit) (xs : List Ky) : Prop := xs.Nodup ∧ ∀ q ∈ xs, wfK q ∧ Maps.has D (kyL q) = true
def AllK (D : DataW Unit) (xs : List Ky) : Prop := xs.Nodup ∧ ∀ q, q ∈ xs ↔ wfK q ∧ Maps.has D (kyL q) = true
def ComeK (D : DataW Unit) (left : Lit → Bool) (xs : List Ky) : Prop := xs.Nodup ∧ (∀ q ∈ xs, wfK q) ∧ ∀ q, wfK q → (q ∈ xs ↔ Maps.has D (kyL q) = true ∧ left (kyL q) = false)
theorem kyL_ne {q r : Ky} (h : wfK q) (k : wfK r) (hne : q ≠ r) : kyL q ≠ kyL r := fun e => hne (by
  obtain ⟨e1, e2⟩ := keyL_inj h.1 h.2 k.1 k.2 e
  exact Prod.ext e1 e2)
theorem kyL_self {q : Ky} (h : wfK q) : (kyL q).sameKey (kyL q) = true := WideAt.sameKey_self (keyed.key (keyOf_mk h.1 h.2))
theorem ComeK.start (D : DataW Unit) : ComeK D (Maps.has D) [] := ⟨List.nodup_nil, fun _ h => (by cases h), fun q _ => by cases Maps.has D (kyL q) <;> simp⟩
theorem ComeK.new {D : DataW Unit} {left : Lit → Bool} {xs : List Ky} (h : ComeK D left xs) {q : Ky} (hq : wfK q) {y : DataW Unit} (hl : left (kyL q) = true) (hat : ∀ zd, D.atKey (kyL q) zd = y) : SqK D (xs ++ [q]) := by
  have hh : Maps.has D (kyL q) = true := Maps.has_true_of_atKey hat
  have hn : q ∉ xs := fun hx => by have := ((h.2.2 q hq).1 hx).2; rw [hl] at this; cases this
  refine ⟨List.nodup_append.2 ⟨h.1, by simp, fun a ha b hb => by simp at hb; subst hb; exact fun e => hn (e ▸ ha)⟩, fun r hr => ?_⟩
  rcases List.mem_append.1 hr with hr | hr
  · exact ⟨h.2.1 r hr, ((h.2.2 r (h.2.1 r hr)).1 hr).1⟩
  · simp at hr; subst hr; exact ⟨hq, hh⟩
theorem ComeK.step {D : DataW Unit} {left : Lit → Bool} {xs : List Ky} (h : ComeK D left xs) {q : Ky} (hq : wfK q) (hs : SqK D (xs ++ [q])) : ComeK D (fun z => left z && !z.sameKey (kyL q)) (xs ++ [q]) := by
  refine ⟨hs.1, fun r hr => (hs.2 r hr).1, fun r hr => ?_⟩
  by_cases e : r = q
  · subst e
    have := (hs.2 r (by simp)).2
    simp [this, kyL_self hr]
  · have hk := Maps.sameKey_ne (kyL_ne hr hq e)
    simp [h.2.2 r hr, e, hk]
theorem ComeK.all {D : DataW Unit} {left : Lit → Bool} {xs : List Ky} (h : ComeK D left xs) (hl : ∀ z, left z = false) : AllK D xs :=
  ⟨h.1, fun q => ⟨fun hx => ⟨h.2.1 q hx, ((h.2.2 q (h.2.1 q hx)).1 hx).1⟩, fun hx => (h.2.2 q hx.1).2 ⟨hx.2, hl _⟩⟩⟩
set_option maxRecDepth 100000 in
set_option maxHeartbeats 4000000 in
theorem keys1_in (F : Fence) (m : Nat) (hF : F.fn 66) (hro : F.round = none) (hm : 1 ≤ m) (l Bm b nn : Nat) (D : DataW Unit) (J : List Ky → World → Prop)
    (hY : ∀ pre x X, J pre X → SqK D (pre ++ [x]) → YieldAt F (m - 1) Tryz.prog l #[keyV x.1 x.2] X fun e Y => e = .returned (.bool true) ∧ J (pre ++ [x]) Y ∧ KeepsWalks X Y)
    (W : World) (hJ : AbidesFrom W.heap.size J) (hm0 : W.cell? ⟨Bm, 0, none⟩ = some (.map (some b))) (hown : W.ownsMap Tryz.prog 77 (plainElem Tryz.prog 3) b nn D) (h0 : J [] W) :
    CallsIn F m Tryz.prog 66 #[.func (.yield l) #[] #[], .pointer (some ⟨Bm, 0, none⟩)] W fun e Y => (∃ v, e = .returned v) ∧ ∃ xs, AllK D xs ∧ J xs Y := by
  have HY := Lib.hid hY
  have HJ := Lib.hid hJ
  clear hY hJ
  refine callsIn_of_wp Tryz.func66 rfl hF ?_ hro
  simp only [Tryz.ntmps66, List.size_toArray, List.length_cons, List.length_nil, Nat.reduceAdd, Nat.reduceSub, Array.replicate_succ, Array.replicate_zero, List.push_toArray, List.append_toArray, List.nil_append, List.cons_append]
  gi_wp2_with (first
    | (gi_at_range; refine wpListIn_range_own _ rfl _ 68 rfl 77 3 keyed Tryz.underlying68 (plainElem Tryz.prog 3) b nn _ rfl hown ?_; intro w0 hrg0 hg0 hs0)
    | gi_in)
  go_frame
  gi_loopw [3] (fun _ wr => ∃ (left : Lit → Bool) (cnt : Nat) (xs : List Ky), wr.ranges Tryz.prog 77 (plainElem Tryz.prog 3) b W.heap.size nn D left cnt ∧ Hid (ComeK D left xs) ∧ Hid (J xs wr))
    (fun _ wr => wr.rangeLeft b W.heap.size)
  case atStart => exact ⟨_, _, [], hrg0, Lib.hid (ComeK.start D), Lib.hid (HJ.out [] W w0 none h0 hg0 (fun r e => by cases e))⟩
  case round =>
    clear h0 hm0
    obtain ⟨left, cnt, xs, hrg, hC, hJs⟩ := hrel
    gi_wp2_with (first
      | (gi_at_next; refine wpListIn_next_ranges _ rfl _ rfl 77 keyed (plainElem Tryz.prog 3) (fun q : Ky => keyV q.1 q.2) id (fun key kl h => by obtain ⟨f, x, e, _⟩ := keyOf_inv h; exact ⟨(f, x), e⟩) (fun v _ _ => ⟨v, rfl⟩) b W.heap.size nn _ _ _ rfl hrg ?_ ?_)
      | gi_in)
    · intro _ hl0
      have G := Lib.hid (hC.out.all hl0)
      clear hl0
      gi_wp2
      go_end0
      exact ⟨⟨_, rfl⟩, xs, G.out, hJs.out⟩
    · intro f x c kl yd yp w2 cnt2 hkey hlk hv hat hrg2 hlt hg2 hs2 hen
      obtain ⟨f', x', e, hf, hx, rfl⟩ := keyOf_inv hkey
      have e' : f = f' ∧ x = x' := by unfold keyV at e; simpa using e
      obtain ⟨rfl, rfl⟩ := e'
      have wq : wfK (f, x) := ⟨hf, hx⟩
      have HS := Lib.hid (hC.out.new wq hlk hat)
      have HC := Lib.hid (hC.out.step wq HS.out)
      have HJ2 := Lib.hid (HJ.out xs wr w2 (some W.heap.size) hJs.out hg2 (fun r e => by cases e; exact ⟨Nat.le_refl _, hrg.iter_walk⟩))
      have hrg2 := hrg2.alloc (.cells #[.int .i64 f, .string x] 77)
      have HJ3 := Lib.hid (HJ.out xs w2 _ none HJ2.out (World.grownBy_alloc w2 (.cells #[.int .i64 f, .string x] 77) none) (by simp))
      obtain ⟨fn, tmps, assign, body, hy, hR⟩ := HY.out xs (f, x) (w2.alloc (.cells #[.int .i64 f, .string x] 77)) HJ3.out HS.out
      unfold keyV at hen
      dsimp only [keyV] at hy
      clear e hkey hlk hv hat hg2 hs2
      gi_wp2
      refine hR.mono ?_
      rintro e W3 ⟨rfl, hJ4, hk4⟩
      have HJ4 := Lib.hid hJ4
      have hrg3 := hrg2.of_walks hk4
      clear hJ4 hk4
      gi_wp2
      go_roundw
      case rel => exact ⟨_, cnt2, xs ++ [(f, x)], hrg3, HC, HJ4⟩
      case measure => rw [hrg3.left_eq, hrg.left_eq]; exact hlt
theorem keys_seq (F : Fence) (m : Nat) (hF : F.fn 66) (hro : F.round = none) (hm : 1 ≤ m) (Bm b nn : Nat) (D : DataW Unit) (w : World) (hb : Bm < w.heap.size)
    (h0 : w.cell? ⟨Bm, 0, none⟩ = some (.map (some b))) (hown : w.ownsMap Tryz.prog 77 (plainElem Tryz.prog 3) b nn D) :
    SeqRel F m Tryz.prog 66 #[.pointer (some ⟨Bm, 0, none⟩)] (fun x : Ky => #[keyV x.1 x.2]) (fun _ _ => True) KeepsWalks (SqK D) (AllK D) w := fun l J W hW hJ _ hY hs =>
  keys1_in F m hF hro hm l Bm b nn D J hY W hJ ((hW.cell (p := ⟨Bm, 0, none⟩) hb).trans h0) (map_keep hown (hW.block b hown.lt)) hs
set_option maxHeartbeats 1000000 in
theorem keys_any (mb : Option Nat) (w : World) :
    Calls Tryz.prog 58 #[.map mb] w fun e w' =>
      e = .returned (.func (.func 66) #[] #[.pointer (some ⟨w.heap.size, 0, none⟩)]) ∧ w' = w.alloc (.cells #[.map mb] 68) := by
  go_enter Tryz.func58, Tryz.ntmps58
  go_wp2
  go_ret
  exact ⟨rfl, rfl⟩
end Go.Proofs.YtjodmjadpooipaaGreatDoor.Sh
namespace Go.Proofs.YtjodmjadpooipaaGreatDoor.Sh
open Go Go.RowKit Go.Shelf

attribute [local go_sem] Oper.semAt_some

def flatK (xs : List Ky) : List Value := xs.flatMap fun q => [.int .i64 q.1, .string q.2]
theorem flatK_snoc (xs : List Ky) (q : Ky) : flatK (xs ++ [q]) = flatK xs ++ [.int .i64 q.1, .string q.2] := by simp [flatK]
theorem infoT : (Tryz.prog.info? 77).map (fun i => (i.zero, i.size, i.bytes)) = some (some (.agg #[.int .i64 0, .string ⟨#[]⟩]), 2, 24) := by kernel_rfl
theorem bk_ownB {β : Type} (B : Nat) (b : Nat) (T : TypeId) (f : β → Array Value) : OwnFrom B (fun s W => Bk W b (f s) T) := fun s X Y row hs hg hrow => by
  have hs' : Bk X b (f s) T := hs
  have hl := hs'.lt
  show Bk Y b (f s) T
  unfold Bk at hs' ⊢
  rw [hg.block b hl (fun e' => by obtain ⟨_, o, ho, hc⟩ := hrow b e'.symm; rw [hs'] at ho; cases ho; cases hc)]; exact hs'
set_option maxRecDepth 100000 in
set_option maxHeartbeats 4000000 in
theorem appendSeq_in (n : Nat) (hn : 3 ≤ n) (g : Nat) (lb : Array Value) (eg : ∀ args w, (callFunc g args).run Tryz.prog w = .ok (.enter g args) w) (Sq S : List Ky → Prop) (hSq : ∀ xs, Sq xs → xs.length ≤ 65536) (w : World)
    (hseq : SeqRel Fence.wide (n - 1) Tryz.prog g lb (fun x : Ky => #[keyV x.1 x.2]) (fun _ _ => True) KeepsWalks Sq S w) :
    CallsIn Fence.wide n Tryz.prog 73 #[.slice none 0 0, .func (.func g) #[] lb] w fun e w' => ∃ v xs, e = .returned v ∧ S xs ∧ w'.ownsRow w.heap.size 77 2 v xs.length (flatK xs) ∧ Below w.heap.size w w' := by
  obtain ⟨i0, hi, hz0, hz1, hz2⟩ := info_parts infoT
  refine callsIn_of_wp_marks Tryz.func73 rfl trivial ?_ rfl
  simp only [Tryz.ntmps73, List.size_toArray, List.length_cons, List.length_nil, Nat.reduceAdd, Nat.reduceSub, Array.replicate_succ, Array.replicate_zero, List.push_toArray, List.append_toArray, List.nil_append, List.cons_append]
  gi_wp2
  have hsz : (w.alloc (.cells #[.slice none 0 0] 99)).heap.size = w.heap.size + 1 := by simp
  have hB0 : Below w.heap.size w (w.alloc (.cells #[.slice none 0 0] 99)) := (Below.refl _ w).alloc (Nat.le_refl _) _
  have b0 := Boxed.new w 99 (.slice none 0 0)
  obtain ⟨W0, hW0⟩ : ∃ W0, w.alloc (.cells #[.slice none 0 0] 99) = W0 := ⟨_, rfl⟩
  rw [hW0] at hsz hB0 b0 ⊢
  clear hW0
  refine wp_rangeRel rfl (by omega) (gf := g) (lb := lb) rfl trivial eg hseq walksK_t walksK_b hB0 (fun _ => rfl)
    (fun pre W => (∃ v, Boxed W w.heap.size 99 v ∧ W.ownsRow w.heap.size 77 2 v pre.length (flatK pre) ∧ True) ∧ Below w.heap.size W0 W)
    (OwnFrom.and (Own.from (holdsRow_own w.heap.size w.heap.size 99 77 2 (fun pre => pre.length) flatK (fun _ _ => True)) _) (ownFrom_below (by omega) (by omega)))
    (fun _ _ _ => trivial)
    ⟨⟨_, b0, World.ownsRow_nil _ _ _ _, trivial⟩, Below.refl _ _⟩
    (fun x a' W => ∃ Bx, w.heap.size < Bx ∧ Bk W Bx #[.int .i64 x.1, .string x.2] 77 ∧ a' = { tmps := #[.slice none 0 0, .func (.func g) #[] lb, .pointer (some ⟨w.heap.size, 0, none⟩), undef, .slice none 0 0, .pointer (some ⟨Bx, 0, none⟩), .func (.func g) #[] lb, keyV x.1 x.2, undef, undef, undef, undef, undef], defers := [] })
    (fun x a' _ X Y row hs hg hr => by obtain ⟨Bx, h1, h2, h3⟩ := hs; exact ⟨Bx, h1, bk_ownB W0.heap.size Bx _ (fun (_ : Unit) => _) () X Y row h2 hg hr, h3⟩)
    ?assign ?body ?done
  case assign =>
    rintro l pre x W K ⟨⟨v, i0, i1, _⟩, hB1⟩ _ hK
    have hs := hB1.size
    dsimp only [keyV]
    gi_wp2
    exact hK _ _ ((KeepsOthers.alloc _ _).from _) (KeepsWalks.alloc _ _) ⟨⟨v, i0.alloc _, i1.alloc _, trivial⟩, hB1.alloc (by omega) _⟩ ⟨W.heap.size, by omega, Bk.new _ _ _, rfl⟩
  case body =>
    rintro l pre x a' W ⟨⟨v, j0, hrow, _⟩, hB1⟩ ⟨Bx, hBx, bX, rfl⟩ hx
    have hlen := hSq _ hx
    rw [List.length_append] at hlen
    have hlen' : pre.length + 1 ≤ 65536 := hlen
    have c1 := j0.cell
    have x0 := bX.cell 0 _ rfl
    have x1 := bX.cell 1 _ rfl
    have z1 := hB1.size
    have hB := Lib.hid (show w.heap.size ≤ W.heap.size by omega)
    clear hlen hx hsz hB0 b0 bX
    gi_wp2_with (gi_at_builtin; refine wpListIn_append_own _ rfl _ _ 99 rfl w.heap.size 77 i0 (.agg #[.int .i64 0, .string ⟨#[]⟩]) 2 24 Tryz.underlying99 hi hz0 hz1 hz2 rfl (by decide) _ _ _ rfl (hrow.alloc _) ⟨W.heap.size, 0, none⟩ 1 1 [.int .i64 x.1, .string x.2] rfl rfl (World.news_of_block (cs := #[.int .i64 x.1, .string x.2]) (t := 77) (fr := (0, 0)) (World.alloc_heap_new W _)) (by simp [Value.oneCell']) (by unfold maxLen; omega) (by omega) (by have := hB.out; simp; omega) ?_; intro v' w1 hown' hgrow _; obtain ⟨g', cap', rfl⟩ := ownsRow_succ hown'; obtain ⟨hv1, hv2, hr2, hk2, hb2⟩ := j0.appended (by decide) hrow hB.out (Nat.le_refl _) hown' hgrow; have hc1 := hv1.cell; have hf1 := hv1.frozen)
    exact ⟨hk2.from _, hk2.walks, ⟨_, hv2, by rw [flatK_snoc, List.length_append]; exact hr2, trivial⟩, hB1.trans hb2⟩
  case done =>
    rintro D xs W hD hS ⟨⟨v, j0, hrow, _⟩, hB1⟩ hK
    have c1 := j0.cell
    gi_wp2
    refine ⟨by simp, .inl ⟨_, _, rfl, run_takeDeferred hK, ?_⟩⟩
    exact ⟨_, results_tmp rfl _ _ _, _, xs, rfl, hS, ownsRow_putObj hrow _ hK rfl, (hB0.trans hB1).trans (belowK_b (w := W0) (by omega) W D _ _ hD hK rfl rfl)⟩
end Go.Proofs.YtjodmjadpooipaaGreatDoor.Sh
namespace Go.Proofs.YtjodmjadpooipaaGreatDoor.Sh
open Go Go.RowKit

/-- The transitions, with their targets, as the iterator gives them. -/
def trs (t : Tre) (n : Nat) : List (Ky × Nat) := (List.range n).flatMap fun s => if (t.sh s).ali = none then (t.sh s).links.map fun q => (((s : Int), q.1), q.2) else []
def ltK (q r : Ky) : Prop := q.1 < r.1 ∨ (q.1 = r.1 ∧ ltB q.2 r.2 = true)
theorem ltK_irrefl (q : Ky) : ¬ ltK q q := fun h => h.elim (by omega) (fun h => by rw [ltB_irrefl] at h; cases h.2)
theorem ltK_trans {p q r : Ky} (h : ltK p q) (k : ltK q r) : ltK p r := by
  rcases h with h | ⟨h, h'⟩ <;> rcases k with k | ⟨k, k'⟩
  · exact .inl (by omega)
  · exact .inl (by omega)
  · exact .inl (by omega)
  · exact .inr ⟨by omega, ltB_trans h' k'⟩
theorem ltK_tri {q r : Ky} (h : ¬ ltK q r) (hne : q ≠ r) : ltK r q := by
  by_cases h1 : r.1 < q.1
  · exact .inl h1
  · have h2 : q.1 = r.1 := by
      have : ¬ q.1 < r.1 := fun e => h (.inl e)
      omega
    refine .inr ⟨h2.symm, ltB_tri (by
      cases e : ltB q.2 r.2
      · rfl
      · exact absurd (.inr ⟨h2, e⟩) h) (fun e => hne (Prod.ext h2 e))⟩
theorem trs_mem {t : Tre} {n : Nat} {q : Ky} {a : Nat} : (q, a) ∈ trs t n ↔ ∃ s : Nat, s < n ∧ q.1 = s ∧ (t.sh s).ali = none ∧ (q.2, a) ∈ (t.sh s).links := by
  unfold trs
  rw [List.mem_flatMap]
  constructor
  · rintro ⟨s, hs, h⟩
    split at h
    · rename_i hn
      obtain ⟨x, hx, e⟩ := List.mem_map.1 h
      injection e with e1 e2
      subst e1 e2
      exact ⟨s, List.mem_range.1 hs, rfl, hn, hx⟩
    · cases h
  · rintro ⟨s, hs, e, hn, hx⟩
    refine ⟨s, List.mem_range.2 hs, ?_⟩
    rw [if_pos hn]
    exact List.mem_map.2 ⟨_, hx, by rw [← e]⟩
theorem trs_sorted {t : Tre} (h : Srt t) (n : Nat) : (trs t n).Pairwise fun a b => ltK a.1 b.1 := by
  induction n with
  | zero => exact List.Pairwise.nil
  | succ n ih =>
    have e : trs t (n + 1) = trs t n ++ (if (t.sh n).ali = none then (t.sh n).links.map fun q => (((n : Int), q.1), q.2) else []) := by
      unfold trs; rw [List.range_succ, List.flatMap_append]; simp
    rw [e]
    refine List.pairwise_append.2 ⟨ih, ?_, fun x hx y hy => ?_⟩
    · split
      · exact List.pairwise_map.2 ((h.so n).imp fun hab => .inr ⟨rfl, hab⟩)
      · exact List.Pairwise.nil
    · obtain ⟨s, hs, e1, _⟩ := trs_mem.1 (show (x.1, x.2) ∈ trs t n from hx)
      split at hy
      · obtain ⟨z, _, rfl⟩ := List.mem_map.1 hy
        exact .inl (by rw [e1]; show (s : Int) < n; omega)
      · cases hy
theorem trs_nodup {t : Tre} (h : Srt t) (n : Nat) : ((trs t n).map (·.1)).Nodup := by
  refine List.pairwise_map.2 ((trs_sorted h n).imp fun hab e => ?_)
  rw [e] at hab
  exact ltK_irrefl _ hab
theorem look_sorted {nm : ByteArray} {a : Nat} : ∀ {l : List (ByteArray × Nat)}, SortedL l → (nm, a) ∈ l → lookL nm l = some a
  | [], _, h => by cases h
  | p :: l, hs, h => by
    unfold lookL
    rcases List.mem_cons.1 h with h | h
    · subst h; rw [if_pos rfl]
    · have h1 := (List.pairwise_cons.1 hs).1 _ h
      rw [if_neg (ltB_ne h1)]
      exact look_sorted (List.pairwise_cons.1 hs).2 h
/-- What is looked up and what the iterator gives is one. -/
theorem trs_lk {t : Tre} (h : Srt t) {q : Ky} {a : Nat} : (q, a) ∈ trs t t.L.length ↔ lkC t q.1 q.2 = some a := by
  rw [trs_mem]
  constructor
  · rintro ⟨s, hs, e, hn, hx⟩
    unfold lkC
    rw [e]
    rw [if_pos ⟨by omega, by rw [Int.toNat_natCast]; exact hn⟩, Int.toNat_natCast]
    exact look_sorted (h.so s) hx
  · intro hl
    obtain ⟨s, e, hs, hn, hm⟩ := lk_mem hl
    exact ⟨s, hs, e, hn, hm⟩
theorem keys_mem {t : Tre} (h : Srt t) {D : DataW Unit} (hc : Cont D t) {q : Ky} (hq : wfK q) : Maps.has D (kyL q) = true ↔ q ∈ (trs t t.L.length).map (·.1) := by
  have e : Maps.has D (kyL q) = (lkC t q.1 q.2).isSome := (hc q.1 q.2 hq.1 hq.2).1
  rw [e, Option.isSome_iff_exists, List.mem_map]
  constructor
  · rintro ⟨a, ha⟩; exact ⟨(q, a), (trs_lk h).2 ha, rfl⟩
  · rintro ⟨⟨q', a⟩, hm, rfl⟩; exact ⟨a, (trs_lk h).1 hm⟩
/-- Sorting what the map's keys are, in whatever order they came. -/
theorem sorted_one {xs ys : List Ky} (hx : xs.Pairwise ltK) (hy : ys.Pairwise fun q r => ¬ ltK r q) (hn : ys.Nodup) (h : ∀ q, q ∈ xs ↔ q ∈ ys) : xs = ys := by
  have hy' : ys.Pairwise ltK := (hy.and hn).imp fun ⟨a, b⟩ => ltK_tri a (fun e => b e.symm)
  have hp : xs.Perm ys := (List.perm_ext_iff_of_nodup (hx.imp fun hab e => by rw [e] at hab; exact ltK_irrefl _ hab) hn).2 h
  exact List.Perm.eq_of_pairwise (fun a b _ _ h1 h2 => absurd (ltK_trans h1 h2) (ltK_irrefl _)) hx hy' hp
end Go.Proofs.YtjodmjadpooipaaGreatDoor.Sh
