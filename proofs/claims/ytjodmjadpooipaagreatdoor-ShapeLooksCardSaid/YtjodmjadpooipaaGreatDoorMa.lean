/-
  Plain mathematics of the text of a tree: rows of words.
  Rows of words in memory: a row of slices, each in a block of its own.
  Numbers as words; appending names; a region that draws, by hand.
  strings.Builder: what is written, and what stays.
  A region that draws its order, whose last operation alone turns what the others read.
-/
import Derived.Test.YtjodmjadpooipaaGreatDoorKp
import Derived.Test.YtjodmjadpooipaaGreatDoorKw
import Derived.Lib.ItoaLen
import Derived.Lib.Join
import Derived.Test.YtjodmjadpooipaaGreatDoorSz
import Derived.Test.YtjodmjadpooipaaGreatDoorShelf
import Derived.Lib.AppendIntMem
import Derived.Shelf.Strings.BuilderK
import Derived.Test.YtjodmjadpooipaaGreatDoorKx
namespace Go.Proofs.YtjodmjadpooipaaGreatDoor.Sh
open Go Go.RowKit

def bsL (l : List UInt8) : ByteArray := ⟨l.toArray⟩
theorem digit_char (n : Nat) (h : n < 10) : UInt8.ofNat (Nat.digitChar n).toNat = UInt8.ofNat (48 + n) := by
  have : ∀ n : Fin 10, UInt8.ofNat (Nat.digitChar n.val).toNat = UInt8.ofNat (48 + n.val) := by decide
  exact this ⟨n, h⟩
theorem digits_dec (n : Nat) : Lib.decDigits n = digits n := by
  induction n using Nat.strongRecOn with
  | _ u ih =>
    unfold Lib.decDigits
    by_cases h : u < 10
    · rw [dif_pos h]
      unfold digits
      rw [Nat.toDigits_of_lt_base h, List.map_cons, List.map_nil, digit_char u h]
    · rw [dif_neg h, ih (u / 10) (by omega)]
      unfold digits
      have e := Nat.toDigits_append_toDigits (b := 10) (n := u / 10) (d := u % 10) (by omega) (by omega) (by omega)
      rw [show 10 * (u / 10) + u % 10 = u by omega] at e
      rw [← e, List.map_append, Nat.toDigits_of_lt_base (by omega : u % 10 < 10), List.map_cons, List.map_nil, digit_char _ (by omega)]
theorem itoa_nat (n : Nat) : Lib.itoa (n : Int) = digits n := (Lib.itoa_nonneg n).trans (digits_dec n)
def numB (n : Nat) : ByteArray := bsL (Lib.itoa (n : Int))
theorem numB_list (n : Nat) : (numB n).data.toList = digits n := itoa_nat n
theorem numB_size (n : Nat) (h : n ≤ 65536) : (numB n).size ≤ 21 := by
  have := Lib.itoa_length_le (n : Int) (by omega) (by omega)
  simpa [numB, bsL, ByteArray.size] using this
/-- What ends a row of a shape. -/
def tailW (x : Shp) : List ByteArray := match x.ali with | some a => [bsL [61], numB a] | none => [bsL [62]]
def row0 (k : Nat) (x : Shp) : List ByteArray := [numB k, numB x.cls] ++ x.names ++ tailW x
def linkS (q : ByteArray × Nat) : ByteArray := q.1 ++ bsL [58] ++ numB q.2
theorem linkS_list (q : ByteArray × Nat) : (linkS q).data.toList = q.1.data.toList ++ [58] ++ digits q.2 := by
  unfold linkS
  rw [ByteArray.data_append, ByteArray.data_append, Array.toList_append, Array.toList_append, numB_list]
  rfl
/-- The row of shape s when some transitions are written. -/
def rowP (t : Tre) (pre : List (Ky × Nat)) (s : Nat) : List ByteArray := row0 s (t.sh s) ++ (pre.filter fun x => x.1.1 = (s : Int)).map fun x => linkS (x.1.2, x.2)
def rowsP (t : Tre) (pre : List (Ky × Nat)) : List (List ByteArray) := (List.range t.L.length).map (rowP t pre)
theorem rowsP_len (t : Tre) (pre : List (Ky × Nat)) : (rowsP t pre).length = t.L.length := by simp [rowsP]
theorem rowsP_at (t : Tre) (pre : List (Ky × Nat)) {s : Nat} (h : s < t.L.length) : (rowsP t pre)[s]? = some (rowP t pre s) := by simp [rowsP, h]
theorem rowP_nil (t : Tre) (s : Nat) : rowP t [] s = row0 s (t.sh s) := by simp [rowP]
theorem rowP_same (t : Tre) (pre : List (Ky × Nat)) (x : Ky × Nat) (s : Nat) (h : x.1.1 ≠ (s : Int)) : rowP t (pre ++ [x]) s = rowP t pre s := by
  unfold rowP
  rw [List.filter_append, List.filter_cons_of_neg (by simpa using h), List.filter_nil, List.append_nil]
theorem rowP_next (t : Tre) (pre : List (Ky × Nat)) (x : Ky × Nat) (s : Nat) (h : x.1.1 = (s : Int)) : rowP t (pre ++ [x]) s = rowP t pre s ++ [linkS (x.1.2, x.2)] := by
  unfold rowP
  rw [List.filter_append, List.filter_cons_of_pos (by simpa using h), List.filter_nil, List.map_append, List.append_assoc]
  rfl
theorem rowsP_next (t : Tre) (pre : List (Ky × Nat)) (x : Ky × Nat) (s : Nat) (h : x.1.1 = (s : Int)) : rowsP t (pre ++ [x]) = (rowsP t pre).set s (rowP t pre s ++ [linkS (x.1.2, x.2)]) := by
  apply List.ext_getElem?
  intro i
  by_cases hi : i < t.L.length
  · rw [rowsP_at t _ hi, List.getElem?_set]
    by_cases e : s = i
    · subst e; rw [if_pos rfl, if_pos (by rw [rowsP_len]; exact hi), rowP_next t pre x s h]
    · rw [if_neg e, rowsP_at t _ hi, rowP_same t pre x i (by omega)]
  · rw [List.getElem?_eq_none (by rw [rowsP_len]; omega), List.getElem?_eq_none (by rw [List.length_set, rowsP_len]; omega)]
theorem trs_filter (t : Tre) (n s : Nat) : (trs t n).filter (fun x => x.1.1 = (s : Int)) = if s < n ∧ (t.sh s).ali = none then (t.sh s).links.map (fun q => (((s : Int), q.1), q.2)) else [] := by
  induction n with
  | zero => simp [trs]
  | succ n ih =>
    unfold trs at ih ⊢
    rw [List.range_succ, List.flatMap_append, List.filter_append, ih, List.flatMap_singleton]
    by_cases e : s = n
    · subst e
      rw [if_neg (by omega), List.nil_append]
      by_cases ha : (t.sh s).ali = none
      · rw [if_pos ha, if_pos ⟨by omega, ha⟩, List.filter_eq_self]
        intro x hx
        obtain ⟨q, _, rfl⟩ := List.mem_map.1 hx
        simp
      · rw [if_neg ha, if_neg (fun h => ha h.2)]; rfl
    · have : (if (t.sh n).ali = none then (t.sh n).links.map (fun q => (((n : Int), q.1), q.2)) else []).filter (fun x : Ky × Nat => x.1.1 = (s : Int)) = [] := by
        rw [List.filter_eq_nil_iff]
        intro x hx
        split at hx
        · obtain ⟨q, _, rfl⟩ := List.mem_map.1 hx
          simp; omega
        · cases hx
      rw [this, List.append_nil]
      by_cases hn : s < n
      · by_cases ha : (t.sh s).ali = none
        · rw [if_pos ⟨hn, ha⟩, if_pos ⟨by omega, ha⟩]
        · rw [if_neg (fun h => ha h.2), if_neg (fun h => ha h.2)]
      · rw [if_neg (fun h => hn h.1), if_neg (fun h => hn (by omega))]
/-- All rows, at the end. -/
def rowsT (t : Tre) : List (List ByteArray) := rowsP t (trs t t.L.length)
def joinW (r : List ByteArray) : List UInt8 := Lib.join (r.map (·.data.toList)) [32]
theorem joinTail_flat (r : List (List UInt8)) : Lib.joinTail [32] r = r.flatMap (fun x => 32 :: x) := by
  unfold Lib.joinTail
  rw [List.flatMap_def]
  rfl
theorem text_row (t : Tre) (s : Nat) (h : s < t.L.length) : joinW (rowP t (trs t t.L.length) s) ++ [10] = textSh s (t.sh s) := by
  unfold joinW rowP row0 textSh
  rw [trs_filter]
  rw [show ([numB s, numB (t.sh s).cls] ++ (t.sh s).names ++ tailW (t.sh s)) = numB s :: numB (t.sh s).cls :: ((t.sh s).names ++ tailW (t.sh s)) by simp]
  rw [List.cons_append, List.cons_append, List.map_cons, Lib.join_cons, joinTail_flat, List.map_cons, List.flatMap_cons, numB_list, numB_list]
  cases ha : (t.sh s).ali with
  | some a =>
    rw [if_neg (fun h => by cases h.2)]
    simp [tailW, ha, numB_list, List.flatMap_map, List.flatMap_append, bsL]
  | none =>
    rw [if_pos ⟨h, rfl⟩]
    simp [tailW, ha, List.flatMap_map, List.flatMap_append, bsL, linkS_list, List.map_map, Function.comp_def]
theorem text_rows (t : Tre) : ((rowsT t).map fun r => joinW r ++ [10]).flatten = (t.L.mapIdx textSh).flatten := by
  congr 1
  apply List.ext_getElem?
  intro i
  by_cases hi : i < t.L.length
  · rw [List.getElem?_map]
    unfold rowsT
    rw [rowsP_at t _ hi, Option.map_some, text_row t i hi, List.getElem?_mapIdx, List.getElem?_eq_getElem hi, Option.map_some, sh_lt hi]
  · rw [List.getElem?_eq_none (by rw [List.length_map]; unfold rowsT; rw [rowsP_len]; omega), List.getElem?_eq_none (by rw [List.length_mapIdx]; omega)]
/-- The first row. -/
def rootsW (t : Tre) : List ByteArray := bsL [114, 111, 111, 116, 115] :: t.roots.map numB
theorem text_all (t : Tre) : ((rootsW t :: rowsT t).map fun r => joinW r ++ [10]).flatten = t.text := by
  rw [List.map_cons, List.flatten_cons, text_rows]
  unfold Tre.text joinW rootsW
  rw [List.map_cons, Lib.join_cons, joinTail_flat]
  simp [List.flatMap_map, bsL, numB_list, Function.comp_def]
end Go.Proofs.YtjodmjadpooipaaGreatDoor.Sh
namespace Go.Proofs.YtjodmjadpooipaaGreatDoor.Sh
open Go Go.RowKit

def rowV (R : List (List ByteArray)) (gs cs : Nat → Nat) (s : Nat) : Value := .slice (some ⟨gs s, 0, none⟩) (R.getD s []).length (cs s)
structure RowsAt (w : World) (B : Nat) (v : Value) (R : List (List ByteArray)) (gs cs : Nat → Nat) : Prop where
  row : w.ownsRow B 41 1 v R.length ((List.range R.length).map (rowV R gs cs))
  own : ∀ s, s < R.length → OwnS w B (rowV R gs cs s) (R.getD s [])
  inj : ∀ s r, s < R.length → r < R.length → gs s = gs r → s = r
theorem RowsAt.nil (w : World) (B : Nat) (gs cs : Nat → Nat) : RowsAt w B (.slice none 0 0) [] gs cs := ⟨World.ownsRow_nil _ _ _ _, fun s h => by simp at h, fun s _ h => by simp at h⟩
section
variable {w : World} {B : Nat} {v : Value} {R : List (List ByteArray)} {gs cs : Nat → Nat} (h : RowsAt w B v R gs cs)
include h
theorem RowsAt.keep {w' : World} (hk : ∀ b, B ≤ b → b < w.heap.size → w'.heap[b]? = w.heap[b]?) : RowsAt w' B v R gs cs :=
  ⟨own_keep h.row fun b hb => hk b (h.row.lt b hb).1 (h.row.lt b hb).2, fun s hs => own_keep (h.own s hs) fun b hb => hk b ((h.own s hs).lt b hb).1 ((h.own s hs).lt b hb).2, h.inj⟩
theorem RowsAt.below {w' : World} (hb : Below w.heap.size w w') : RowsAt w' B v R gs cs := h.keep fun b _ hl => hb.block b hl
theorem RowsAt.blk {s : Nat} (hs : s < R.length) : B ≤ gs s ∧ gs s < w.heap.size := (h.own s hs).lt (gs s) rfl
theorem RowsAt.blkV (b : Nat) (hb : v.ownBlock = some b) : B ≤ b ∧ b < w.heap.size := h.row.lt b hb
theorem RowsAt.ne {s : Nat} (hs : s < R.length) : v.ownBlock ≠ some (gs s) := fun e => own_ne h.row (h.own s hs) (by decide) _ e rfl
theorem RowsAt.strs {s : Nat} (hs : s < R.length) : isStr w (gs s) := by
  rcases (h.own s hs).2 with ⟨e, _⟩ | ⟨g, cap, cur, e, _, hg, _⟩
  · cases e
  · injection e with e
    injection e with e
    injection e with e
    subst e
    exact ⟨cur, hg⟩
theorem RowsAt.at {s : Nat} (hs : s < R.length) : ∃ G c, v = .slice (some ⟨G, 0, none⟩) R.length c ∧ w.cell? ⟨G, s, none⟩ = some (rowV R gs cs s) ∧ w.frozen? ⟨G, s, none⟩ = false ∧ B ≤ G ∧ G < w.heap.size := by
  obtain ⟨G, c, rfl, hb, hl⟩ := h.row.form (by omega)
  refine ⟨G, c, rfl, ?_, World.ownsRow.frozenAt h.row s, hb, hl⟩
  rw [World.ownsRow.cellAt h.row s (by omega), List.getElem?_map, List.getElem?_range hs]
  rfl
theorem RowsAt.len : ∃ A c, v = .slice A R.length c := own_slice h.row
theorem RowsAt.push {w' : World} {v' : Value} {g c : Nat} {r : List ByteArray} (hg : w.grownBy w' v.ownBlock) (hv : w'.ownsRow B 41 1 v' (R.length + 1) ((List.range R.length).map (rowV R gs cs) ++ [.slice (some ⟨g, 0, none⟩) r.length c])) (ho : OwnS w B (.slice (some ⟨g, 0, none⟩) r.length c) r) (hf : ∀ s, s < R.length → gs s ≠ g) :
    RowsAt w' B v' (R ++ [r]) (fun s => if s = R.length then g else gs s) (fun s => if s = R.length then c else cs s) := by
  have e1 : ∀ s, s < R.length → rowV (R ++ [r]) (fun s => if s = R.length then g else gs s) (fun s => if s = R.length then c else cs s) s = rowV R gs cs s := fun s hs => by
    unfold rowV
    dsimp only
    rw [if_neg (by omega), if_neg (by omega), List.getD_eq_getElem?_getD, List.getD_eq_getElem?_getD, List.getElem?_append_left hs]
  have e2 : rowV (R ++ [r]) (fun s => if s = R.length then g else gs s) (fun s => if s = R.length then c else cs s) R.length = .slice (some ⟨g, 0, none⟩) r.length c := by
    unfold rowV
    dsimp only
    rw [if_pos rfl, if_pos rfl, List.getD_eq_getElem?_getD, List.getElem?_append_right (Nat.le_refl _), Nat.sub_self]
    rfl
  have hne : v.ownBlock ≠ some g := fun e => own_ne h.row ho (by decide) _ e rfl
  refine ⟨?_, fun s hs => ?_, fun s r' hs hr e => ?_⟩
  · rw [List.length_append, show R.length + [r].length = R.length + 1 from rfl, List.range_succ, List.map_append, List.map_cons, List.map_nil, e2]
    rw [List.map_congr_left (g := rowV R gs cs) (fun s hs => e1 s (List.mem_range.1 hs))]
    exact hv
  · rw [List.length_append] at hs
    by_cases e : s < R.length
    · rw [e1 s e, List.getD_eq_getElem?_getD, List.getElem?_append_left e, ← List.getD_eq_getElem?_getD]
      exact own_keep (h.own s e) fun b hb => hg.block b ((h.own s e).lt b hb).2 (fun e3 => h.ne e (e3.symm.trans hb.symm))
    · obtain rfl : s = R.length := by simp at hs; omega
      rw [e2, List.getD_eq_getElem?_getD, List.getElem?_append_right (Nat.le_refl _), Nat.sub_self]
      exact own_keep ho fun b hb => hg.block b (ho.lt b hb).2 (fun e3 => hne (e3.symm.trans hb.symm))
  · rw [List.length_append] at hs hr
    simp only [List.length_cons, List.length_nil] at hs hr
    by_cases e3 : s = R.length <;> by_cases e4 : r' = R.length
    · omega
    · rw [if_pos e3, if_neg e4] at e; exact absurd e.symm (hf r' (by omega))
    · rw [if_neg e3, if_pos e4] at e; exact absurd e (hf s (by omega))
    · rw [if_neg e3, if_neg e4] at e; exact h.inj s r' (by omega) (by omega) e
/-- One of the rows has become longer, and its slice is laid back. -/
theorem RowsAt.put {w' : World} {s g c G C : Nat} {r : List ByteArray} (hs : s < R.length) (hV : v = .slice (some ⟨G, 0, none⟩) R.length C) (hg : w.grownBy w' (some (gs s))) (ho : OwnS w' B (.slice (some ⟨g, 0, none⟩) r.length c) r) (hf : gs s = g ∨ g = w.heap.size) :
    RowsAt (w'.setCell ⟨G, s, none⟩ (.slice (some ⟨g, 0, none⟩) r.length c)) B v (R.set s r) (fun k => if k = s then g else gs k) (fun k => if k = s then c else cs k) := by
  subst hV
  have far : ∀ b, b ≠ G → (w'.setCell ⟨G, s, none⟩ (.slice (some ⟨g, 0, none⟩) r.length c)).heap[b]? = w'.heap[b]? := fun b hb => Below.heap_setCell _ _ _ b (fun e => hb e)
  have hrow : w'.ownsRow B 41 1 (.slice (some ⟨G, 0, none⟩) R.length C) R.length ((List.range R.length).map (rowV R gs cs)) := h.row.kept hg (.inr (h.ne hs))
  have gG : ∀ k, k < R.length → gs k ≠ G := fun k hk e => h.ne hk (by rw [e]; rfl)
  have e1 : ∀ k, k ≠ s → rowV (R.set s r) (fun k => if k = s then g else gs k) (fun k => if k = s then c else cs k) k = rowV R gs cs k := fun k hk => by
    unfold rowV
    dsimp only
    rw [if_neg hk, if_neg hk, List.getD_eq_getElem?_getD, List.getD_eq_getElem?_getD, List.getElem?_set_ne (fun e => hk e.symm)]
  have e2 : rowV (R.set s r) (fun k => if k = s then g else gs k) (fun k => if k = s then c else cs k) s = .slice (some ⟨g, 0, none⟩) r.length c := by
    unfold rowV
    dsimp only
    rw [if_pos rfl, if_pos rfl, List.getD_eq_getElem?_getD, List.getElem?_set_self hs]
    rfl
  have hne : g ≠ G := fun e => own_ne hrow ho (by decide) _ (show Value.ownBlock (.slice (some ⟨G, 0, none⟩) R.length C) = some g by rw [e]; rfl) rfl
  refine ⟨?_, fun k hk => ?_, fun k r' hk hr e => ?_⟩
  · have hst := (World.ownsRow.stored hrow s (.slice (some ⟨g, 0, none⟩) r.length c)).1
    rw [List.length_set]
    have e3 : (List.range R.length).map (rowV (R.set s r) (fun k => if k = s then g else gs k) (fun k => if k = s then c else cs k)) = ((List.range R.length).map (rowV R gs cs)).set s (.slice (some ⟨g, 0, none⟩) r.length c) := by
      apply List.ext_getElem?
      intro i
      by_cases hi : i < R.length
      · by_cases e : i = s
        · subst e
          rw [List.getElem?_map, List.getElem?_range hi, Option.map_some, e2, List.getElem?_set_self (by simpa using hi)]
        · rw [List.getElem?_map, List.getElem?_range hi, Option.map_some, e1 i e, List.getElem?_set_ne (fun e' => e e'.symm), List.getElem?_map, List.getElem?_range hi, Option.map_some]
      · rw [List.getElem?_eq_none (by simpa using hi), List.getElem?_eq_none (by simpa using hi)]
    rw [e3]
    exact hst
  · rw [List.length_set] at hk
    by_cases e : k = s
    · subst e
      rw [e2, List.getD_eq_getElem?_getD, List.getElem?_set_self hk]
      exact own_keep ho fun b hb => far b (fun e => hne (by injection hb with hb; exact hb.trans e))
    · rw [e1 k e, List.getD_eq_getElem?_getD, List.getElem?_set_ne (fun e' => e e'.symm), ← List.getD_eq_getElem?_getD]
      refine own_keep (h.own k hk) fun b hb => ?_
      have hbk : gs k = b := by injection hb
      subst hbk
      rw [far _ (gG k hk)]
      exact hg.block _ (h.blk hk).2 (fun e' => e (h.inj k s hk hs (by injection e')))
  · rw [List.length_set] at hk hr
    have ff : ∀ x, x < R.length → x ≠ s → gs x ≠ g := fun x hx hxs e' => by
      rcases hf with hf | hf
      · exact hxs (h.inj x s hx hs (e'.trans hf.symm))
      · have := (h.blk hx).2; omega
    by_cases e3 : k = s <;> by_cases e4 : r' = s
    · omega
    · rw [if_pos e3, if_neg e4] at e; exact absurd e.symm (ff r' hr e4)
    · rw [if_neg e3, if_pos e4] at e; exact absurd e (ff k hk e3)
    · rw [if_neg e3, if_neg e4] at e; exact h.inj k r' hk hr e
end
theorem own_from {W Y : World} {base : Nat} {e : TypeId} {size n : Nat} {v : Value} {xs : List Value} {row : Option Nat} (h : W.ownsRow base e size v n xs) (hg : W.grownBy Y row) (hr : ∀ r, row = some r → ∃ o : Obj, W.heap[r]? = some o ∧ o.isCells = false) : Y.ownsRow base e size v n xs :=
  own_keep h fun b hb => hg.block b (h.lt b hb).2 fun e2 => by
    obtain ⟨o, ho, hc⟩ := hr b e2.symm
    rcases h.2 with ⟨rfl, _⟩ | ⟨g, cap, cur, rfl, _, hgg, _⟩
    · cases hb
    · injection hb with hb
      have hb : g = b := hb
      subst hb
      rw [hgg] at ho
      cases ho
      cases hc
theorem RowsAt.walked (B' B : Nat) (v : Value) (R : List (List ByteArray)) (gs cs : Nat → Nat) : OwnFrom B' (fun (_ : Unit) W => RowsAt W B v R gs cs) := fun _ _ _ _ h hg hr =>
  ⟨own_from h.row hg fun r e => (hr r e).2, fun s hs => own_from (h.own s hs) hg fun r e => (hr r e).2, h.inj⟩
end Go.Proofs.YtjodmjadpooipaaGreatDoor.Sh
namespace Go.Proofs.YtjodmjadpooipaaGreatDoor.Sh
open Go Go.RowKit

/-- The powers of ten lie as the text lays them. -/
def Pw (w : World) : Prop := Lib.TabIs Tryz.prog w "internal/strconv.uint64pow10" .u64 Lib.pow10Tab
theorem Pw.below {w w' : World} (h : Pw w) (hb : Below w.heap.size w w') : Pw w' := (Lib.tabBelow_of_tabIs h).on hb |>.here
theorem itoa_c (n : Nat) (hn : n ≤ 65536) (w : World) (hG : Pw w) : Calls Tryz.prog 47 #[.int .i64 (n : Int)] w fun e w' => e = .returned (.string (numB n)) ∧ Below w.heap.size w w' :=
  (Tryz.strconv_Itoa (n : Int) (by omega) (by omega) w hG).mono fun _ _ ⟨h, k, os, hw⟩ => ⟨h, by rw [hw]; exact Lib.below_grow _ _ (Nat.le_refl _) _ _⟩
/-- No panic comes. -/
def calm (Q : Exit → Go.Act → World → Prop) : Exit → Go.Act → World → Prop
  | .panic _, _, _ => False
  | e, a, w => Q e a w
theorem calm_out {Q : Exit → Go.Act → World → Prop} : ∀ e a w, calm Q e a w → Q e a w
  | .panic _, _, _, h => h.elim
  | .normal, _, _, h => h
  | .ret, _, _, h => h
  | .exit _, _, _, h => h
  | .goto _, _, _, h => h
  | .outgrown, _, _, h => h
theorem calm_in {c : Code} {F : Fence} {n : Nat} {P : Program} {Q : Exit → Go.Act → World → Prop} {a : Go.Act} {w : World} (h : c.wpIn F n P (calm Q) a w) : c.wpIn F n P Q a w := wpIn_mono h calm_out
theorem region_plain {P : Program} {ops : Array Oper} {Q : Exit → Go.Act → World → Prop} (S : World → Prop) {id : Nat} {a : Go.Act} {w : World} (hm : P.follows .mixedOrders = true)
    (h : wpAnyH P .any ops Q S ops.size (Array.replicate ops.size false) a w.drew) : (Code.region id ops true).wp P Q a w :=
  wp_region_any hm (wpAny_of_held _ _ _ _ h)
theorem OwnS.form' {w : World} {base : Nat} {v : Value} {ns : List ByteArray} (h : OwnS w base v ns) (hn : 0 < ns.length) : ∃ g cap, v = .slice (some ⟨g, 0, none⟩) ns.length cap ∧ base ≤ g ∧ g < w.heap.size := World.ownsRow.form h hn
set_option maxRecDepth 100000 in
theorem wp_append_names {o : Oper} {a : Go.Act} {w : World} {K : Go.Act → World → Prop} {Q : Exit → Go.Act → World → Prop} (s x : Operand)
    (ho : o.op = .call { callee := .builtin .append, args := #[s, x], argTypes := #[41, 41] }) (base : Nat) (v : Value) (xs ns : List ByteArray) (hs : a.eval s = v) (hown : OwnS w base v xs)
    (P : Nat → Prop) (A : Option Addr) (c : Nat) (hx : a.eval x = .slice A ns.length c) (hS : SlS w P A ns) (hA : A = none → c = 0) (hl : xs.length + ns.length ≤ 2097152) (hb : base ≤ w.heap.size) (h0 : 0 < xs.length)
    (h : ∀ g cap w', OwnS w' base (.slice (some ⟨g, 0, none⟩) (xs ++ ns).length cap) (xs ++ ns) → w.grownBy w' v.ownBlock → (v.ownBlock = some g ∨ g = w.heap.size) → K (a.put o.dst (.slice (some ⟨g, 0, none⟩) (xs ++ ns).length cap)) w') : o.wp Tryz.prog a w K Q := by
  obtain ⟨i0, hi0, hz0, hz1, hz2⟩ := info_parts infoS
  rcases A with _ | ad
  · have e0 : ns = [] := by
      cases ns with
      | nil => rfl
      | cons y l => obtain ⟨ad, e, _⟩ := hS 0 y rfl; cases e
    subst e0
    obtain rfl := hA rfl
    have hrun := run_append_owned_none (P := Tryz.prog) (w := w) base 41 o.type 9 i0 1 Tryz.underlying41 hi0 v _ _ hown
    obtain ⟨g, cap, rfl, _, _⟩ := hown.form' h0
    unfold Oper.wp
    simp only [execOp, ho, resolve, invoke, builtin, Sem.run_bind, Sem.run_pure, Result.andThen_ok, List.map_toArray, List.map_cons, List.map_nil, hs, hx, List.length_nil, hrun]
    have h' := h g cap w
    simp only [List.append_nil] at h'
    exact h' hown ⟨rfl, rfl, rfl, Nat.le_refl _, fun _ _ _ => rfl⟩ (.inl rfl)
  · obtain ⟨v', w', hr, h2, h3, _, h5⟩ := run_append_own_at (P := Tryz.prog) w base 41 o.type 9 i0 (.string ⟨#[]⟩) 1 16 Tryz.underlying41 hi0 hz0 hz1 hz2 rfl (by decide) v _ _ hown ad ns.length c (ns.map Value.string) (by rw [List.length_map, Nat.mul_one]) (fun j u hj => by
      rw [List.getElem?_map, Option.map_eq_some_iff] at hj
      obtain ⟨z, hz, rfl⟩ := hj
      obtain ⟨ad', e, _, hc⟩ := hS j z hz
      injection e with e
      subst e
      exact hc) (onesS ns) (by unfold maxLen; omega) (by omega) hb
    have h2' : OwnS w' base v' (xs ++ ns) := by unfold OwnS; rw [List.length_append, List.map_append]; exact h2
    obtain ⟨g, cap, rfl, _, _⟩ := h2'.form' (by rw [List.length_append]; omega)
    unfold Oper.wp execOp
    simp only [ho, resolve, invoke, builtin, Sem.run_bind, Sem.run_pure, Result.andThen_ok, List.map_toArray, List.map_cons, List.map_nil, hs, hx, hr]
    refine h g cap w' h2' h3 ?_
    rcases h5 with h5 | h5
    · exact .inl h5.symm
    · exact .inr (by simpa [Value.ownBlock] using h5)
end Go.Proofs.YtjodmjadpooipaaGreatDoor.Sh
namespace Go.Proofs.YtjodmjadpooipaaGreatDoor.Sh
open Go Go.RowKit Go.Shelf

def renB : Ren := ⟨fun | 167 => 51 | 166 => 49 | 240 => 61 | 276 => 71 | n => n, fun | 72 => 86 | 70 => 83 | 5 => 5 | 37 => 84 | 9 => 9 | 4 => 4 | 164 => 116 | 75 => 90 | 3 => 3 | 0 => 0 | 20 => 20 | 80 => 50 | n => n, fun n => n⟩
theorem laysB : Lays.n167 Tryz.prog renB := {
  mixed := by kernel_rfl
  f167 := Tryz.func51.trans (congrArg some (by kernel_rfl))
  f240 := Tryz.func61.trans (congrArg some (by kernel_rfl))
  f276 := Tryz.func71.trans (congrArg some (by kernel_rfl))
  t72 := Tryz.underlying86
  a72 := Tryz.isAgg86
  z72 := Tryz.sizeOf86
  v72 := Tryz.zeroValue86
  t70 := Tryz.underlying83
  a70 := Tryz.isAgg83
  z70 := Tryz.sizeOf83
  v70 := Tryz.zeroValue83
  t5 := Tryz.underlying5
  a5 := Tryz.isAgg5
  z5 := Tryz.sizeOf5
  v5 := Tryz.zeroValue5
  t37 := Tryz.underlying84
  a37 := Tryz.isAgg84
  z37 := Tryz.sizeOf84
  v37 := Tryz.zeroValue84
  t9 := Tryz.underlying9
  a9 := Tryz.isAgg9
  z9 := Tryz.sizeOf9
  v9 := Tryz.zeroValue9
  t4 := Tryz.underlying4
  a4 := Tryz.isAgg4
  z4 := Tryz.sizeOf4
  v4 := Tryz.zeroValue4
  t164 := Tryz.underlying116
  a164 := Tryz.isAgg116
  z164 := Tryz.sizeOf116
  v164 := Tryz.zeroValue116
  t75 := Tryz.underlying90
  a75 := Tryz.isAgg90
  z75 := Tryz.sizeOf90
  v75 := Tryz.zeroValue90
  t0 := Tryz.underlying0
  a0 := Tryz.isAgg0
  z0 := Tryz.sizeOf0
  v0 := Tryz.zeroValue0
  t20 := Tryz.underlying20
  a20 := Tryz.isAgg20
  z20 := Tryz.sizeOf20
  v20 := Tryz.zeroValue20 }
theorem extraB : Builder.Extra Tryz.prog renB := {
  sizeBuilder := by kernel_rfl
  liesBuilder := by kernel_rfl
  t5 := Tryz.underlying5
  a5 := Tryz.isAgg5
  z5 := Tryz.sizeOf5
  v5 := Tryz.zeroValue5
  infoByte := by kernel_rfl
  cellsByte := by kernel_rfl
  sizeByte := by kernel_rfl
  neB5 := by decide }
def IsB (B b : Nat) (bs : List Value) (w : World) : Prop := Lib.IsBuilderF 86 5 B b bs w
/-- All but the builder and rows of bytes stands. -/
def Oth (b : Nat) (w w' : World) : Prop := Lib.OthersKept 5 (some b) w w'
theorem bws (B b : Nat) (bs : List Value) (s : ByteArray) (w : World) (h : IsB B b bs w) (hl : bs.length + s.size ≤ 140737488355328) (hB : B ≤ w.heap.size) :
    Calls Tryz.prog 49 #[.pointer (some ⟨b, 0, none⟩), .string s] w fun e w' => e = .returned (.tuple #[.int .i64 s.size, .nilIface]) ∧ IsB B b (bs ++ Lib.strCells s) w' ∧ Below B w w' ∧ Oth b w w' :=
  (Any.Builder_WriteString_k { Tryz.lays156 with } Tryz.Builder_Extra_156 B b bs s w h hl hB).mono fun _ _ ⟨h1, h2, h3, h4⟩ => ⟨h1, .inr h2, h3, h4⟩
theorem bwb (B b : Nat) (bs : List Value) (c : Int) (w : World) (h : IsB B b bs w) (hl : bs.length + 1 ≤ 140737488355328) (hB : B ≤ w.heap.size) :
    Calls Tryz.prog 51 #[.pointer (some ⟨b, 0, none⟩), .int .u8 c] w fun e w' => e = .returned .nilIface ∧ IsB B b (bs ++ [.int .u8 c]) w' ∧ Below B w w' ∧ Oth b w w' :=
  (Any.Builder_WriteByte_k laysB extraB B b bs c w h hl hB).mono fun _ _ ⟨h1, h2, h3, h4⟩ => ⟨h1, .inr h2, h3, h4⟩
theorem bst (B b : Nat) (l : List UInt8) (w : World) (h : IsB B b (Lib.byteCells l) w) (hB : B ≤ w.heap.size) :
    Calls Tryz.prog 52 #[.pointer (some ⟨b, 0, none⟩)] w fun e w' => e = .returned (.string ⟨l.toArray⟩) ∧ Below B w w' :=
  (Any.Builder_String_any_k Tryz.lays169 Tryz.Builder_Extra_169 B b l w h hB).mono fun _ _ ⟨h1, _, h3, _⟩ => ⟨h1, h3⟩
end Go.Proofs.YtjodmjadpooipaaGreatDoor.Sh
namespace Go.Proofs.YtjodmjadpooipaaGreatDoor.Sh
open Go Go.RowKit

section
variable {P : Program} {ops : Array Oper} {Q : Exit → Go.Act → World → Prop} {md : Region.Mode} {S : World → Prop} {e : Nat}
/-- S stands behind each operation that comes up, but for number e. -/
def anyBut (P : Program) (md : Region.Mode) (ops : Array Oper) (Q : Exit → Go.Act → World → Prop) (e : Nat) (S : World → Prop) : Nat → Array Bool → Go.Act → World → Prop
  | 0 => fun l a w => Region.ready md ops l = [] ∧ Q .normal a w
  | n + 1 => fun l a w => (Region.ready md ops l = [] → Q .normal a w) ∧ ∀ i, i ∈ Region.ready md ops l → wpOp P ops Q i (fun b v => (i = e ∨ S v) ∧ anyBut P md ops Q e S n (l.setIfInBounds i true) b v) a w
theorem anyBut_plain (n : Nat) : ∀ (l : Array Bool) (a : Go.Act) (w : World), anyBut P md ops Q e S n l a w → wpAny P md ops Q n l a w := by
  induction n with
  | zero => exact fun _ _ _ h => h
  | succ n ih => exact fun l a w h => ⟨h.1, fun i hi => wpOp_mono (fun b v hb => ih _ b v hb.2) (h.2 i hi)⟩
/-- Number e waits for number i. -/
def waitsFor (md : Region.Mode) (ops : Array Oper) (e i : Nat) : Bool := match ops[e]? with
  | some o => o.after.any (fun x => Region.binds md x && x.on == i)
  | none => true
theorem anyBut_first {i : Nat} {o : Oper} {u : Value} (hi : ops[i]? = some o) (hsel : ∀ (j : Nat) (o : Oper) cs b, ops[j]? = some o → o.op ≠ .select cs b) (hQ : ∀ c a w, Q (.panic c) (a.put o.dst u) w → Q (.panic c) a w) (hw : waitsFor md ops e i = true) (n : Nat) :
    ∀ (l : Array Bool) (a : Go.Act) (w : World), (∀ j oj, ops[j]? = some oj → j ≠ i → l.getD j true = false → (∀ x ∈ oj.after, Region.binds md x = true → x.on ≠ i) → o.apart ops oj = true) →
      i ∈ Region.ready md ops l → YieldsIf P ops S o u a → S w → anyBut P md ops Q e S n (l.setIfInBounds i true) (a.put o.dst u) w → anyBut P md ops Q e S (n + 1) l a w := by
  induction n with
  | zero =>
    intro l a w _ hr hy hS h
    refine ⟨fun h0 => by simp [h0] at hr, fun j hj => ?_⟩
    rcases Nat.decEq j i with hne | rfl
    · have h2 := ready_mono hj hne
      rw [h.1] at h2
      simp at h2
    · exact hy.wpOp hi hS ⟨.inr hS, h⟩
  | succ n ih =>
    intro l a w hfree hr hy hS h
    refine ⟨fun h0 => by simp [h0] at hr, fun j hj => ?_⟩
    rcases Nat.decEq j i with hne | rfl
    · obtain ⟨hun, oj, hoj, hall⟩ := mem_ready.1 hj
      have iun := (mem_ready.1 hr).1
      have hno : ∀ x ∈ oj.after, Region.binds md x = true → x.on ≠ i := fun x hx hb ex => by
        have h1 := hall x hx hb
        rw [ex] at h1
        by_cases hl : i < l.size
        · simp only [Array.getD_eq_getD_getElem?, Array.getElem?_eq_getElem hl, Option.getD_some] at h1 iun
          rw [h1] at iun; cases iun
        · simp [Array.getElem?_eq_none (by omega : l.size ≤ i)] at h1
      have je : j ≠ e := fun ej => by
        subst ej
        unfold waitsFor at hw
        rw [hoj] at hw
        obtain ⟨x, hx, hxx⟩ := Array.any_eq_true'.1 hw
        rw [Bool.and_eq_true, beq_iff_eq] at hxx
        exact hno x hx hxx.1 hxx.2
      have h3 := wpOp_putIf hoj (hfree j oj hoj hne hun hno) (fun cs b => hsel i o cs b hi) (fun cs b => hsel j oj cs b hoj) hQ hy (h.2 j (ready_mono hj hne))
      refine wpOp_mono (fun b v hb => ?_) h3
      have hSv := hb.2.1.resolve_left je
      refine ⟨.inr hSv, ih _ b v (fun k ok hok hki hkun hkno => hfree k ok hok hki ?_ hkno) (ready_mono hr (Ne.symm hne)) hb.1 hSv ?_⟩
      · by_cases ejk : j = k
        · rw [← ejk]; exact hun
        · rw [getD_set_ne true ejk] at hkun; exact hkun
      · rw [Array.setIfInBounds_comm _ _ hne]
        exact hb.2.2
    · exact hy.wpOp hi hS ⟨.inr hS, h⟩
theorem anyBut_take {i : Nat} {o : Oper} {u : Value} {n : Nat} {l : Array Bool} {a : Go.Act} {w : World} (hi : ops[i]? = some o) (hs : Region.noSelect ops = true) (hf : Region.free md ops l i = true) (hr : (Region.ready md ops l).contains i = true) (hw : waitsFor md ops e i = true)
    (hQ : ∀ c a w, Q (.panic c) (a.put o.dst u) w → Q (.panic c) a w) (hy : YieldsIf P ops S o u a) (hS : S w) (h : anyBut P md ops Q e S n (l.setIfInBounds i true) (a.put o.dst u) w) : anyBut P md ops Q e S (n + 1) l a w :=
  anyBut_first hi (Region.noSelect_spec hs) hQ hw n l a w (Region.free_spec hi hf) (by simpa using hr) hy hS h
theorem anyBut_one {n : Nat} {l : Array Bool} {a : Go.Act} {w : World} (i : Nat) {o : Oper} (ho : ops[i]? = some o) (hr : Region.ready md ops l = [i]) (hw : Region.wanted o (yielded ops a.tmps) = true)
    (h : o.wp P a w (fun a' w' => (i = e ∨ S w') ∧ anyBut P md ops Q e S n (l.setIfInBounds i true) a' w') Q) : anyBut P md ops Q e S (n + 1) l a w := by
  refine ⟨fun h0 => (by rw [hr] at h0; cases h0), fun j hj => ?_⟩
  rw [hr] at hj
  obtain rfl : j = i := by simpa using hj
  unfold wpOp
  simp only [ho, hw, if_true]
  exact .inl h
theorem region_roundE (S : World → Prop) (e : Nat) {l n id : Nat} {a : Go.Act} {w : World} (hm : P.follows .mixedOrders = true) (hd : ∀ (i : Nat) (o : Oper), ops[i]? = some o → ∀ c, o.op ≠ .defer c) (hQ : ¬ LetsOut Q)
    (h : anyBut P .any ops Q e S ops.size (Array.replicate ops.size false) a w.drew) : (Code.region id ops true).wpIn (Fence.wide.inRound l) n P Q a w :=
  wpIn_region_any hm (any_round l n hd hQ _ _ _ _ (anyBut_plain _ _ _ _ h))
end
end Go.Proofs.YtjodmjadpooipaaGreatDoor.Sh
