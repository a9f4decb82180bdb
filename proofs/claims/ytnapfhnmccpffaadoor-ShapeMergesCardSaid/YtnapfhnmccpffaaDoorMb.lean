/-
  Rows of words in memory: a row of slices, each in a block of its own.
  Numbers as words; appending names; a region that draws, by hand.
  strings.Builder: what is written, and what stays.
-/
import Derived.Test.YtnapfhnmccpffaaDoorMa
import Derived.Test.YtnapfhnmccpffaaDoorSz
import Derived.Test.YtnapfhnmccpffaaDoorShelf
import Derived.Lib.AppendIntMem
import Derived.Shelf.Strings.BuilderK
namespace Go.Proofs.YtnapfhnmccpffaaDoor.Sh
open Go Go.RowKit

def rowV (R : List (List ByteArray)) (gs cs : Nat → Nat) (s : Nat) : Value := .slice (some ⟨gs s, 0, none⟩) (R.getD s []).length (cs s)
structure RowsAt (w : World) (B : Nat) (v : Value) (R : List (List ByteArray)) (gs cs : Nat → Nat) : Prop where
  row : w.ownsRow B 42 1 v R.length ((List.range R.length).map (rowV R gs cs))
  own : ∀ s, s < R.length → OwnS w B (rowV R gs cs s) (R.getD s [])
  inj : ∀ s r, s < R.length → r < R.length → gs s = gs r → s = r
theorem RowsAt.nil (w : World) (B : Nat) (gs cs : Nat → Nat) : RowsAt w B (.slice none 0 0) [] gs cs := ⟨World.ownsRow_nil _ _ _ _, fun s h => by simp at h, fun s _ h => by simp at h⟩
section
variable {w : World} {B : Nat} {v : Value} {R : List (List ByteArray)} {gs cs : Nat → Nat} (h : RowsAt w B v R gs cs)
include h
theorem RowsAt.keep {w' : World} (hk : ∀ b, B ≤ b → b < w.heap.size → w'.heap[b]? = w.heap[b]?) : RowsAt w' B v R gs cs :=
  ⟨own_keep h.row fun b hb => hk b (h.row.lt b hb).1 (h.row.lt b hb).2, fun s hs => own_keep (h.own s hs) fun b hb => hk b ((h.own s hs).lt b hb).1 ((h.own s hs).lt b hb).2, h.inj⟩
theorem RowsAt.below {w' : World} (hb : Below w.heap.size w w') : RowsAt w' B v R gs cs := h.keep fun b _ hl => hb.block b hl
theorem RowsAt.blk {s : Nat} (hs : s < R.length) : B ≤ gs s ∧ gs s < w.heap.size := (h.own s hs).lt (gs s) rfl
theorem RowsAt.blkV (b : Nat) (hb : v.ownBlock = some b) : B ≤ b ∧ b < w.heap.size := h.row.lt b hb
theorem RowsAt.ne {s : Nat} (hs : s < R.length) : v.ownBlock ≠ some (gs s) := fun e => own_ne h.row (h.own s hs) (by decide) _ e rfl
theorem RowsAt.strs {s : Nat} (hs : s < R.length) : isStr w (gs s) := by
  rcases (h.own s hs).2 with ⟨e, _⟩ | ⟨g, cap, cur, e, _, hg, _⟩
  · cases e
  · injection e with e
    injection e with e
    injection e with e
    subst e
    exact ⟨cur, hg⟩
theorem RowsAt.at {s : Nat} (hs : s < R.length) : ∃ G c, v = .slice (some ⟨G, 0, none⟩) R.length c ∧ w.cell? ⟨G, s, none⟩ = some (rowV R gs cs s) ∧ w.frozen? ⟨G, s, none⟩ = false ∧ B ≤ G ∧ G < w.heap.size := by
  obtain ⟨G, c, rfl, hb, hl⟩ := h.row.form (by omega)
  refine ⟨G, c, rfl, ?_, World.ownsRow.frozenAt h.row s, hb, hl⟩
  rw [World.ownsRow.cellAt h.row s (by omega), List.getElem?_map, List.getElem?_range hs]
  rfl
theorem RowsAt.len : ∃ A c, v = .slice A R.length c := own_slice h.row
theorem RowsAt.push {w' : World} {v' : Value} {g c : Nat} {r : List ByteArray} (hg : w.grownBy w' v.ownBlock) (hv : w'.ownsRow B 42 1 v' (R.length + 1) ((List.range R.length).map (rowV R gs cs) ++ [.slice (some ⟨g, 0, none⟩) r.length c])) (ho : OwnS w B (.slice (some ⟨g, 0, none⟩) r.length c) r) (hf : ∀ s, s < R.length → gs s ≠ g) :
    RowsAt w' B v' (R ++ [r]) (fun s => if s = R.length then g else gs s) (fun s => if s = R.length then c else cs s) := by
  have e1 : ∀ s, s < R.length → rowV (R ++ [r]) (fun s => if s = R.length then g else gs s) (fun s => if s = R.length then c else cs s) s = rowV R gs cs s := fun s hs => by
    unfold rowV
    dsimp only
    rw [if_neg (by omega), if_neg (by omega), List.getD_eq_getElem?_getD, List.getD_eq_getElem?_getD, List.getElem?_append_left hs]
  have e2 : rowV (R ++ [r]) (fun s => if s = R.length then g else gs s) (fun s => if s = R.length then c else cs s) R.length = .slice (some ⟨g, 0, none⟩) r.length c := by
    unfold rowV
    dsimp only
    rw [if_pos rfl, if_pos rfl, List.getD_eq_getElem?_getD, List.getElem?_append_right (Nat.le_refl _), Nat.sub_self]
    rfl
  have hne : v.ownBlock ≠ some g := fun e => own_ne h.row ho (by decide) _ e rfl
  refine ⟨?_, fun s hs => ?_, fun s r' hs hr e => ?_⟩
  · rw [List.length_append, show R.length + [r].length = R.length + 1 from rfl, List.range_succ, List.map_append, List.map_cons, List.map_nil, e2]
    rw [List.map_congr_left (g := rowV R gs cs) (fun s hs => e1 s (List.mem_range.1 hs))]
    exact hv
  · rw [List.length_append] at hs
    by_cases e : s < R.length
    · rw [e1 s e, List.getD_eq_getElem?_getD, List.getElem?_append_left e, ← List.getD_eq_getElem?_getD]
      exact own_keep (h.own s e) fun b hb => hg.block b ((h.own s e).lt b hb).2 (fun e3 => h.ne e (e3.symm.trans hb.symm))
    · obtain rfl : s = R.length := by simp at hs; omega
      rw [e2, List.getD_eq_getElem?_getD, List.getElem?_append_right (Nat.le_refl _), Nat.sub_self]
      exact own_keep ho fun b hb => hg.block b (ho.lt b hb).2 (fun e3 => hne (e3.symm.trans hb.symm))
  · rw [List.length_append] at hs hr
    simp only [List.length_cons, List.length_nil] at hs hr
    by_cases e3 : s = R.length <;> by_cases e4 : r' = R.length
    · omega
    · rw [if_pos e3, if_neg e4] at e; exact absurd e.symm (hf r' (by omega))
    · rw [if_neg e3, if_pos e4] at e; exact absurd e (hf s (by omega))
    · rw [if_neg e3, if_neg e4] at e; exact h.inj s r' (by omega) (by omega) e
/-- One of the rows has become longer, and its slice is laid back. -/
theorem RowsAt.put {w' : World} {s g c G C : Nat} {r : List ByteArray} (hs : s < R.length) (hV : v = .slice (some ⟨G, 0, none⟩) R.length C) (hg : w.grownBy w' (some (gs s))) (ho : OwnS w' B (.slice (some ⟨g, 0, none⟩) r.length c) r) (hf : gs s = g ∨ g = w.heap.size) :
    RowsAt (w'.setCell ⟨G, s, none⟩ (.slice (some ⟨g, 0, none⟩) r.length c)) B v (R.set s r) (fun k => if k = s then g else gs k) (fun k => if k = s then c else cs k) := by
  subst hV
  have far : ∀ b, b ≠ G → (w'.setCell ⟨G, s, none⟩ (.slice (some ⟨g, 0, none⟩) r.length c)).heap[b]? = w'.heap[b]? := fun b hb => Below.heap_setCell _ _ _ b (fun e => hb e)
  have hrow : w'.ownsRow B 42 1 (.slice (some ⟨G, 0, none⟩) R.length C) R.length ((List.range R.length).map (rowV R gs cs)) := h.row.kept hg (.inr (h.ne hs))
  have gG : ∀ k, k < R.length → gs k ≠ G := fun k hk e => h.ne hk (by rw [e]; rfl)
  have e1 : ∀ k, k ≠ s → rowV (R.set s r) (fun k => if k = s then g else gs k) (fun k => if k = s then c else cs k) k = rowV R gs cs k := fun k hk => by
    unfold rowV
    dsimp only
    rw [if_neg hk, if_neg hk, List.getD_eq_getElem?_getD, List.getD_eq_getElem?_getD, List.getElem?_set_ne (fun e => hk e.symm)]
  have e2 : rowV (R.set s r) (fun k => if k = s then g else gs k) (fun k => if k = s then c else cs k) s = .slice (some ⟨g, 0, none⟩) r.length c := by
    unfold rowV
    dsimp only
    rw [if_pos rfl, if_pos rfl, List.getD_eq_getElem?_getD, List.getElem?_set_self hs]
    rfl
  have hne : g ≠ G := fun e => own_ne hrow ho (by decide) _ (show Value.ownBlock (.slice (some ⟨G, 0, none⟩) R.length C) = some g by rw [e]; rfl) rfl
  refine ⟨?_, fun k hk => ?_, fun k r' hk hr e => ?_⟩
  · have hst := (World.ownsRow.stored hrow s (.slice (some ⟨g, 0, none⟩) r.length c)).1
    rw [List.length_set]
    have e3 : (List.range R.length).map (rowV (R.set s r) (fun k => if k = s then g else gs k) (fun k => if k = s then c else cs k)) = ((List.range R.length).map (rowV R gs cs)).set s (.slice (some ⟨g, 0, none⟩) r.length c) := by
      apply List.ext_getElem?
      intro i
      by_cases hi : i < R.length
      · by_cases e : i = s
        · subst e
          rw [List.getElem?_map, List.getElem?_range hi, Option.map_some, e2, List.getElem?_set_self (by simpa using hi)]
        · rw [List.getElem?_map, List.getElem?_range hi, Option.map_some, e1 i e, List.getElem?_set_ne (fun e' => e e'.symm), List.getElem?_map, List.getElem?_range hi, Option.map_some]
      · rw [List.getElem?_eq_none (by simpa using hi), List.getElem?_eq_none (by simpa using hi)]
    rw [e3]
    exact hst
  · rw [List.length_set] at hk
    by_cases e : k = s
    · subst e
      rw [e2, List.getD_eq_getElem?_getD, List.getElem?_set_self hk]
      exact own_keep ho fun b hb => far b (fun e => hne (by injection hb with hb; exact hb.trans e))
    · rw [e1 k e, List.getD_eq_getElem?_getD, List.getElem?_set_ne (fun e' => e e'.symm), ← List.getD_eq_getElem?_getD]
      refine own_keep (h.own k hk) fun b hb => ?_
      have hbk : gs k = b := by injection hb
      subst hbk
      rw [far _ (gG k hk)]
      exact hg.block _ (h.blk hk).2 (fun e' => e (h.inj k s hk hs (by injection e')))
  · rw [List.length_set] at hk hr
    have ff : ∀ x, x < R.length → x ≠ s → gs x ≠ g := fun x hx hxs e' => by
      rcases hf with hf | hf
      · exact hxs (h.inj x s hx hs (e'.trans hf.symm))
      · have := (h.blk hx).2; omega
    by_cases e3 : k = s <;> by_cases e4 : r' = s
    · omega
    · rw [if_pos e3, if_neg e4] at e; exact absurd e.symm (ff r' hr e4)
    · rw [if_neg e3, if_pos e4] at e; exact absurd e (ff k hk e3)
    · rw [if_neg e3, if_neg e4] at e; exact h.inj k r' hk hr e
end
theorem own_from {W Y : World} {base : Nat} {e : TypeId} {size n : Nat} {v : Value} {xs : List Value} {row : Option Nat} (h : W.ownsRow base e size v n xs) (hg : W.grownBy Y row) (hr : ∀ r, row = some r → ∃ o : Obj, W.heap[r]? = some o ∧ o.isCells = false) : Y.ownsRow base e size v n xs :=
  own_keep h fun b hb => hg.block b (h.lt b hb).2 fun e2 => by
    obtain ⟨o, ho, hc⟩ := hr b e2.symm
    rcases h.2 with ⟨rfl, _⟩ | ⟨g, cap, cur, rfl, _, hgg, _⟩
    · cases hb
    · injection hb with hb
      have hb : g = b := hb
      subst hb
      rw [hgg] at ho
      cases ho
      cases hc
theorem RowsAt.walked (B' B : Nat) (v : Value) (R : List (List ByteArray)) (gs cs : Nat → Nat) : OwnFrom B' (fun (_ : Unit) W => RowsAt W B v R gs cs) := fun _ _ _ _ h hg hr =>
  ⟨own_from h.row hg fun r e => (hr r e).2, fun s hs => own_from (h.own s hs) hg fun r e => (hr r e).2, h.inj⟩
end Go.Proofs.YtnapfhnmccpffaaDoor.Sh
namespace Go.Proofs.YtnapfhnmccpffaaDoor.Sh
open Go Go.RowKit

/-- The powers of ten lie as the text lays them. -/
def Pw (w : World) : Prop := Lib.TabIs Tryd.prog w "internal/strconv.uint64pow10" .u64 Lib.pow10Tab
theorem Pw.below {w w' : World} (h : Pw w) (hb : Below w.heap.size w w') : Pw w' := (Lib.tabBelow_of_tabIs h).on hb |>.here
theorem itoa_c (n : Nat) (hn : n ≤ 65536) (w : World) (hG : Pw w) : Calls Tryd.prog 33 #[.int .i64 (n : Int)] w fun e w' => e = .returned (.string (numB n)) ∧ Below w.heap.size w w' :=
  (Tryd.strconv_Itoa (n : Int) (by omega) (by omega) w hG).mono fun _ _ ⟨h, k, os, hw⟩ => ⟨h, by rw [hw]; exact Lib.below_grow _ _ (Nat.le_refl _) _ _⟩
/-- No panic comes. -/
def calm (Q : Exit → Go.Act → World → Prop) : Exit → Go.Act → World → Prop
  | .panic _, _, _ => False
  | e, a, w => Q e a w
theorem calm_out {Q : Exit → Go.Act → World → Prop} : ∀ e a w, calm Q e a w → Q e a w
  | .panic _, _, _, h => h.elim
  | .normal, _, _, h => h
  | .ret, _, _, h => h
  | .exit _, _, _, h => h
  | .goto _, _, _, h => h
  | .outgrown, _, _, h => h
theorem calm_in {c : Code} {F : Fence} {n : Nat} {P : Program} {Q : Exit → Go.Act → World → Prop} {a : Go.Act} {w : World} (h : c.wpIn F n P (calm Q) a w) : c.wpIn F n P Q a w := wpIn_mono h calm_out
theorem region_plain {P : Program} {ops : Array Oper} {Q : Exit → Go.Act → World → Prop} (S : World → Prop) {id : Nat} {a : Go.Act} {w : World} (hm : P.follows .mixedOrders = true)
    (h : wpAnyH P .any ops Q S ops.size (Array.replicate ops.size false) a w.drew) : (Code.region id ops true).wp P Q a w :=
  wp_region_any hm (wpAny_of_held _ _ _ _ h)
theorem OwnS.form' {w : World} {base : Nat} {v : Value} {ns : List ByteArray} (h : OwnS w base v ns) (hn : 0 < ns.length) : ∃ g cap, v = .slice (some ⟨g, 0, none⟩) ns.length cap ∧ base ≤ g ∧ g < w.heap.size := World.ownsRow.form h hn
set_option maxRecDepth 100000 in
theorem wp_append_names {o : Oper} {a : Go.Act} {w : World} {K : Go.Act → World → Prop} {Q : Exit → Go.Act → World → Prop} (s x : Operand)
    (ho : o.op = .call { callee := .builtin .append, args := #[s, x], argTypes := #[42, 42] }) (base : Nat) (v : Value) (xs ns : List ByteArray) (hs : a.eval s = v) (hown : OwnS w base v xs)
    (P : Nat → Prop) (A : Option Addr) (c : Nat) (hx : a.eval x = .slice A ns.length c) (hS : SlS w P A ns) (hA : A = none → c = 0) (hl : xs.length + ns.length ≤ 2097152) (hb : base ≤ w.heap.size) (h0 : 0 < xs.length)
    (h : ∀ g cap w', OwnS w' base (.slice (some ⟨g, 0, none⟩) (xs ++ ns).length cap) (xs ++ ns) → w.grownBy w' v.ownBlock → (v.ownBlock = some g ∨ g = w.heap.size) → K (a.put o.dst (.slice (some ⟨g, 0, none⟩) (xs ++ ns).length cap)) w') : o.wp Tryd.prog a w K Q := by
  obtain ⟨i0, hi0, hz0, hz1, hz2⟩ := info_parts infoS
  rcases A with _ | ad
  · have e0 : ns = [] := by
      cases ns with
      | nil => rfl
      | cons y l => obtain ⟨ad, e, _⟩ := hS 0 y rfl; cases e
    subst e0
    obtain rfl := hA rfl
    have hrun := run_append_owned_none (P := Tryd.prog) (w := w) base 42 o.type 9 i0 1 Tryd.underlying42 hi0 v _ _ hown
    obtain ⟨g, cap, rfl, _, _⟩ := hown.form' h0
    unfold Oper.wp
    simp only [execOp, ho, resolve, invoke, builtin, Sem.run_bind, Sem.run_pure, Result.andThen_ok, List.map_toArray, List.map_cons, List.map_nil, hs, hx, List.length_nil, hrun]
    have h' := h g cap w
    simp only [List.append_nil] at h'
    exact h' hown ⟨rfl, rfl, rfl, Nat.le_refl _, fun _ _ _ => rfl⟩ (.inl rfl)
  · obtain ⟨v', w', hr, h2, h3, _, h5⟩ := run_append_own_at (P := Tryd.prog) w base 42 o.type 9 i0 (.string ⟨#[]⟩) 1 16 Tryd.underlying42 hi0 hz0 hz1 hz2 rfl (by decide) v _ _ hown ad ns.length c (ns.map Value.string) (by rw [List.length_map, Nat.mul_one]) (fun j u hj => by
      rw [List.getElem?_map, Option.map_eq_some_iff] at hj
      obtain ⟨z, hz, rfl⟩ := hj
      obtain ⟨ad', e, _, hc⟩ := hS j z hz
      injection e with e
      subst e
      exact hc) (onesS ns) (by unfold maxLen; omega) (by omega) hb
    have h2' : OwnS w' base v' (xs ++ ns) := by unfold OwnS; rw [List.length_append, List.map_append]; exact h2
    obtain ⟨g, cap, rfl, _, _⟩ := h2'.form' (by rw [List.length_append]; omega)
    unfold Oper.wp execOp
    simp only [ho, resolve, invoke, builtin, Sem.run_bind, Sem.run_pure, Result.andThen_ok, List.map_toArray, List.map_cons, List.map_nil, hs, hx, hr]
    refine h g cap w' h2' h3 ?_
    rcases h5 with h5 | h5
    · exact .inl h5.symm
    · exact .inr (by simpa [Value.ownBlock] using h5)
end Go.Proofs.YtnapfhnmccpffaaDoor.Sh
namespace Go.Proofs.YtnapfhnmccpffaaDoor.Sh
open Go Go.RowKit Go.Shelf

def renB : Ren := ⟨fun | 167 => 37 | 166 => 35 | 240 => 56 | 276 => 70 | n => n, fun | 72 => 77 | 70 => 74 | 5 => 5 | 37 => 75 | 9 => 9 | 4 => 4 | 164 => 115 | 75 => 80 | 3 => 3 | 0 => 0 | 20 => 20 | 80 => 30 | n => n, fun n => n⟩
theorem laysB : Lays.n167 Tryd.prog renB := {
  mixed := by kernel_rfl
  f167 := Tryd.func37.trans (congrArg some (by kernel_rfl))
  f240 := Tryd.func56.trans (congrArg some (by kernel_rfl))
  f276 := Tryd.func70.trans (congrArg some (by kernel_rfl))
  t72 := Tryd.underlying77
  a72 := Tryd.isAgg77
  z72 := Tryd.sizeOf77
  v72 := Tryd.zeroValue77
  t70 := Tryd.underlying74
  a70 := Tryd.isAgg74
  z70 := Tryd.sizeOf74
  v70 := Tryd.zeroValue74
  t5 := Tryd.underlying5
  a5 := Tryd.isAgg5
  z5 := Tryd.sizeOf5
  v5 := Tryd.zeroValue5
  t37 := Tryd.underlying75
  a37 := Tryd.isAgg75
  z37 := Tryd.sizeOf75
  v37 := Tryd.zeroValue75
  t9 := Tryd.underlying9
  a9 := Tryd.isAgg9
  z9 := Tryd.sizeOf9
  v9 := Tryd.zeroValue9
  t4 := Tryd.underlying4
  a4 := Tryd.isAgg4
  z4 := Tryd.sizeOf4
  v4 := Tryd.zeroValue4
  t164 := Tryd.underlying115
  a164 := Tryd.isAgg115
  z164 := Tryd.sizeOf115
  v164 := Tryd.zeroValue115
  t75 := Tryd.underlying80
  a75 := Tryd.isAgg80
  z75 := Tryd.sizeOf80
  v75 := Tryd.zeroValue80
  t0 := Tryd.underlying0
  a0 := Tryd.isAgg0
  z0 := Tryd.sizeOf0
  v0 := Tryd.zeroValue0
  t20 := Tryd.underlying20
  a20 := Tryd.isAgg20
  z20 := Tryd.sizeOf20
  v20 := Tryd.zeroValue20 }
theorem extraB : Builder.Extra Tryd.prog renB := {
  sizeBuilder := by kernel_rfl
  liesBuilder := by kernel_rfl
  t5 := Tryd.underlying5
  a5 := Tryd.isAgg5
  z5 := Tryd.sizeOf5
  v5 := Tryd.zeroValue5
  infoByte := by kernel_rfl
  cellsByte := by kernel_rfl
  sizeByte := by kernel_rfl
  neB5 := by decide }
def IsB (B b : Nat) (bs : List Value) (w : World) : Prop := Lib.IsBuilderF 77 5 B b bs w
/-- All but the builder and rows of bytes stands. -/
def Oth (b : Nat) (w w' : World) : Prop := Lib.OthersKept 5 (some b) w w'
theorem bws (B b : Nat) (bs : List Value) (s : ByteArray) (w : World) (h : IsB B b bs w) (hl : bs.length + s.size ≤ 140737488355328) (hB : B ≤ w.heap.size) :
    Calls Tryd.prog 35 #[.pointer (some ⟨b, 0, none⟩), .string s] w fun e w' => e = .returned (.tuple #[.int .i64 s.size, .nilIface]) ∧ IsB B b (bs ++ Lib.strCells s) w' ∧ Below B w w' ∧ Oth b w w' :=
  (Any.Builder_WriteString_k { Tryd.lays156 with } Tryd.Builder_Extra_156 B b bs s w h hl hB).mono fun _ _ ⟨h1, h2, h3, h4⟩ => ⟨h1, .inr h2, h3, h4⟩
theorem bwb (B b : Nat) (bs : List Value) (c : Int) (w : World) (h : IsB B b bs w) (hl : bs.length + 1 ≤ 140737488355328) (hB : B ≤ w.heap.size) :
    Calls Tryd.prog 37 #[.pointer (some ⟨b, 0, none⟩), .int .u8 c] w fun e w' => e = .returned .nilIface ∧ IsB B b (bs ++ [.int .u8 c]) w' ∧ Below B w w' ∧ Oth b w w' :=
  (Any.Builder_WriteByte_k laysB extraB B b bs c w h hl hB).mono fun _ _ ⟨h1, h2, h3, h4⟩ => ⟨h1, .inr h2, h3, h4⟩
theorem bst (B b : Nat) (l : List UInt8) (w : World) (h : IsB B b (Lib.byteCells l) w) (hB : B ≤ w.heap.size) :
    Calls Tryd.prog 38 #[.pointer (some ⟨b, 0, none⟩)] w fun e w' => e = .returned (.string ⟨l.toArray⟩) ∧ Below B w w' :=
  (Any.Builder_String_any_k Tryd.lays169 Tryd.Builder_Extra_169 B b l w h hB).mono fun _ _ ⟨h1, _, h3, _⟩ => ⟨h1, h3⟩
end Go.Proofs.YtnapfhnmccpffaaDoor.Sh
