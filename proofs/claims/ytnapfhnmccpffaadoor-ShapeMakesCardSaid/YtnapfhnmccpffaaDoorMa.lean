/-
  Plain mathematics of the text of a tree: rows of words.
-/
import Derived.Test.YtnapfhnmccpffaaDoorKp
import Derived.Test.YtnapfhnmccpffaaDoorKw
import Derived.Lib.ItoaLen
import Derived.Lib.Join
namespace Go.Proofs.YtnapfhnmccpffaaDoor.Sh
open Go Go.RowKit

def bsL (l : List UInt8) : ByteArray := ⟨l.toArray⟩
theorem digit_char (n : Nat) (h : n < 10) : UInt8.ofNat (Nat.digitChar n).toNat = UInt8.ofNat (48 + n) := by
  have : ∀ n : Fin 10, UInt8.ofNat (Nat.digitChar n.val).toNat = UInt8.ofNat (48 + n.val) := by decide
  exact this ⟨n, h⟩
theorem digits_dec (n : Nat) : Lib.decDigits n = digits n := by
  induction n using Nat.strongRecOn with
  | _ u ih =>
    unfold Lib.decDigits
    by_cases h : u < 10
    · rw [dif_pos h]
      unfold digits
      rw [Nat.toDigits_of_lt_base h, List.map_cons, List.map_nil, digit_char u h]
    · rw [dif_neg h, ih (u / 10) (by omega)]
      unfold digits
      have e := Nat.toDigits_append_toDigits (b := 10) (n := u / 10) (d := u % 10) (by omega) (by omega) (by omega)
      rw [show 10 * (u / 10) + u % 10 = u by omega] at e
      rw [← e, List.map_append, Nat.toDigits_of_lt_base (by omega : u % 10 < 10), List.map_cons, List.map_nil, digit_char _ (by omega)]
theorem itoa_nat (n : Nat) : Lib.itoa (n : Int) = digits n := (Lib.itoa_nonneg n).trans (digits_dec n)
def numB (n : Nat) : ByteArray := bsL (Lib.itoa (n : Int))
theorem numB_list (n : Nat) : (numB n).data.toList = digits n := itoa_nat n
theorem numB_size (n : Nat) (h : n ≤ 65536) : (numB n).size ≤ 21 := by
  have := Lib.itoa_length_le (n : Int) (by omega) (by omega)
  simpa [numB, bsL, ByteArray.size] using this
/-- What ends a row of a shape. -/
def tailW (x : Shp) : List ByteArray := match x.ali with | some a => [bsL [61], numB a] | none => [bsL [62]]
def row0 (k : Nat) (x : Shp) : List ByteArray := [numB k, numB x.cls] ++ x.names ++ tailW x
def linkS (q : ByteArray × Nat) : ByteArray := q.1 ++ bsL [58] ++ numB q.2
theorem linkS_list (q : ByteArray × Nat) : (linkS q).data.toList = q.1.data.toList ++ [58] ++ digits q.2 := by
  unfold linkS
  rw [ByteArray.data_append, ByteArray.data_append, Array.toList_append, Array.toList_append, numB_list]
  rfl
/-- The row of shape s when some transitions are written. -/
def rowP (t : Tre) (pre : List (Ky × Nat)) (s : Nat) : List ByteArray := row0 s (t.sh s) ++ (pre.filter fun x => x.1.1 = (s : Int)).map fun x => linkS (x.1.2, x.2)
def rowsP (t : Tre) (pre : List (Ky × Nat)) : List (List ByteArray) := (List.range t.L.length).map (rowP t pre)
theorem rowsP_len (t : Tre) (pre : List (Ky × Nat)) : (rowsP t pre).length = t.L.length := by simp [rowsP]
theorem rowsP_at (t : Tre) (pre : List (Ky × Nat)) {s : Nat} (h : s < t.L.length) : (rowsP t pre)[s]? = some (rowP t pre s) := by simp [rowsP, h]
theorem rowP_nil (t : Tre) (s : Nat) : rowP t [] s = row0 s (t.sh s) := by simp [rowP]
theorem rowP_same (t : Tre) (pre : List (Ky × Nat)) (x : Ky × Nat) (s : Nat) (h : x.1.1 ≠ (s : Int)) : rowP t (pre ++ [x]) s = rowP t pre s := by
  unfold rowP
  rw [List.filter_append, List.filter_cons_of_neg (by simpa using h), List.filter_nil, List.append_nil]
theorem rowP_next (t : Tre) (pre : List (Ky × Nat)) (x : Ky × Nat) (s : Nat) (h : x.1.1 = (s : Int)) : rowP t (pre ++ [x]) s = rowP t pre s ++ [linkS (x.1.2, x.2)] := by
  unfold rowP
  rw [List.filter_append, List.filter_cons_of_pos (by simpa using h), List.filter_nil, List.map_append, List.append_assoc]
  rfl
theorem rowsP_next (t : Tre) (pre : List (Ky × Nat)) (x : Ky × Nat) (s : Nat) (h : x.1.1 = (s : Int)) : rowsP t (pre ++ [x]) = (rowsP t pre).set s (rowP t pre s ++ [linkS (x.1.2, x.2)]) := by
  apply List.ext_getElem?
  intro i
  by_cases hi : i < t.L.length
  · rw [rowsP_at t _ hi, List.getElem?_set]
    by_cases e : s = i
    · subst e; rw [if_pos rfl, if_pos (by rw [rowsP_len]; exact hi), rowP_next t pre x s h]
    · rw [if_neg e, rowsP_at t _ hi, rowP_same t pre x i (by omega)]
  · rw [List.getElem?_eq_none (by rw [rowsP_len]; omega), List.getElem?_eq_none (by rw [List.length_set, rowsP_len]; omega)]
theorem trs_filter (t : Tre) (n s : Nat) : (trs t n).filter (fun x => x.1.1 = (s : Int)) = if s < n ∧ (t.sh s).ali = none then (t.sh s).links.map (fun q => (((s : Int), q.1), q.2)) else [] := by
  induction n with
  | zero => simp [trs]
  | succ n ih =>
    unfold trs at ih ⊢
    rw [List.range_succ, List.flatMap_append, List.filter_append, ih, List.flatMap_singleton]
    by_cases e : s = n
    · subst e
      rw [if_neg (by omega), List.nil_append]
      by_cases ha : (t.sh s).ali = none
      · rw [if_pos ha, if_pos ⟨by omega, ha⟩, List.filter_eq_self]
        intro x hx
        obtain ⟨q, _, rfl⟩ := List.mem_map.1 hx
        simp
      · rw [if_neg ha, if_neg (fun h => ha h.2)]; rfl
    · have : (if (t.sh n).ali = none then (t.sh n).links.map (fun q => (((n : Int), q.1), q.2)) else []).filter (fun x : Ky × Nat => x.1.1 = (s : Int)) = [] := by
        rw [List.filter_eq_nil_iff]
        intro x hx
        split at hx
        · obtain ⟨q, _, rfl⟩ := List.mem_map.1 hx
          simp; omega
        · cases hx
      rw [this, List.append_nil]
      by_cases hn : s < n
      · by_cases ha : (t.sh s).ali = none
        · rw [if_pos ⟨hn, ha⟩, if_pos ⟨by omega, ha⟩]
        · rw [if_neg (fun h => ha h.2), if_neg (fun h => ha h.2)]
      · rw [if_neg (fun h => hn h.1), if_neg (fun h => hn (by omega))]
/-- All rows, at the end. -/
def rowsT (t : Tre) : List (List ByteArray) := rowsP t (trs t t.L.length)
def joinW (r : List ByteArray) : List UInt8 := Lib.join (r.map (·.data.toList)) [32]
theorem joinTail_flat (r : List (List UInt8)) : Lib.joinTail [32] r = r.flatMap (fun x => 32 :: x) := by
  unfold Lib.joinTail
  rw [List.flatMap_def]
  rfl
theorem text_row (t : Tre) (s : Nat) (h : s < t.L.length) : joinW (rowP t (trs t t.L.length) s) ++ [10] = textSh s (t.sh s) := by
  unfold joinW rowP row0 textSh
  rw [trs_filter]
  rw [show ([numB s, numB (t.sh s).cls] ++ (t.sh s).names ++ tailW (t.sh s)) = numB s :: numB (t.sh s).cls :: ((t.sh s).names ++ tailW (t.sh s)) by simp]
  rw [List.cons_append, List.cons_append, List.map_cons, Lib.join_cons, joinTail_flat, List.map_cons, List.flatMap_cons, numB_list, numB_list]
  cases ha : (t.sh s).ali with
  | some a =>
    rw [if_neg (fun h => by cases h.2)]
    simp [tailW, ha, numB_list, List.flatMap_map, List.flatMap_append, bsL]
  | none =>
    rw [if_pos ⟨h, rfl⟩]
    simp [tailW, ha, List.flatMap_map, List.flatMap_append, bsL, linkS_list, List.map_map, Function.comp_def]
theorem text_rows (t : Tre) : ((rowsT t).map fun r => joinW r ++ [10]).flatten = (t.L.mapIdx textSh).flatten := by
  congr 1
  apply List.ext_getElem?
  intro i
  by_cases hi : i < t.L.length
  · rw [List.getElem?_map]
    unfold rowsT
    rw [rowsP_at t _ hi, Option.map_some, text_row t i hi, List.getElem?_mapIdx, List.getElem?_eq_getElem hi, Option.map_some, sh_lt hi]
  · rw [List.getElem?_eq_none (by rw [List.length_map]; unfold rowsT; rw [rowsP_len]; omega), List.getElem?_eq_none (by rw [List.length_mapIdx]; omega)]
/-- The first row. -/
def rootsW (t : Tre) : List ByteArray := bsL [114, 111, 111, 116, 115] :: t.roots.map numB
theorem text_all (t : Tre) : ((rootsW t :: rowsT t).map fun r => joinW r ++ [10]).flatten = t.text := by
  rw [List.map_cons, List.flatten_cons, text_rows]
  unfold Tre.text joinW rootsW
  rw [List.map_cons, Lib.join_cons, joinTail_flat]
  simp [List.flatMap_map, bsL, numB_list, Function.comp_def]
end Go.Proofs.YtnapfhnmccpffaaDoor.Sh
