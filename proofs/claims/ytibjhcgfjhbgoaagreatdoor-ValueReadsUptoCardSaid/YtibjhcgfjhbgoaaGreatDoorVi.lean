/-
  Contract of Binary, for all operators and all values: what it computes, as a plain function.
-/
import Derived.Test.YtibjhcgfjhbgoaaGreatDoorVh
namespace Go.Proofs.YtibjhcgfjhbgoaaGreatDoor.Va
open Go Go.RowKit Mp

abbrev V3 := Int × Int × ByteArray
def V3.val (v : V3) : Value := vv v.1 v.2.1 v.2.2
def z3 : V3 := (0, 0, es)
def right3 (v : V3) : Bool := rightB v.1 v.2.1 v.2.2
def b3 (b : Bool) : V3 := (2, bi b, es)
def i3 (n : Int) : V3 := (3, n, es)
def within3 (n : Int) : V3 × ByteArray := if ok15 n = true then (i3 n, es) else (z3, rangeS)
def ints3 (op a b : Int) : V3 × ByteArray :=
  if op = 5 then within3 (a + b) else if op = 6 then within3 (a - b)
  else if op = 7 then (if b = 0 then (i3 0, es) else if (a.natAbs : Int) ≤ 1000000000000000 / (b.natAbs : Int) then (i3 (a * b), es) else (z3, rangeS))
  else if op = 8 then (if b = 0 then (z3, zeroS) else (i3 (a.tdiv b), es))
  else if op = 9 then (if b = 0 then (z3, zeroS) else (i3 (a.tmod b), es))
  else if op = 10 then (b3 (decide (a < b)), es) else (z3, typeS)
def strs3 (op : Int) (a b : ByteArray) : V3 × ByteArray :=
  if op = 10 then (b3 (Op.bytesLess a.data.toList b.data.toList), es)
  else if op = 14 then (if a.size + b.size ≤ 200 then ((4, 0, a ++ b), es) else (z3, rangeS)) else (z3, typeS)
def bools3 (op a b : Int) : V3 × ByteArray :=
  if op = 12 then (b3 (decide (a = 1) && decide (b = 1)), es) else if op = 13 then (b3 (decide (a = 1) || decide (b = 1)), es) else (z3, typeS)
def bin (op : Int) (a b : V3) : V3 × ByteArray :=
  if a.1 = 0 ∨ b.1 = 0 then (z3, unsetS)
  else if right3 a = false ∨ right3 b = false then (z3, typeS)
  else if op = 11 then (b3 (veq a.1 a.2.1 b.1 b.2.1 a.2.2 b.2.2), es)
  else if a.1 ≠ b.1 then (z3, typeS)
  else if a.1 = 2 then bools3 op a.2.1 b.2.1
  else if a.1 = 3 then ints3 op a.2.1 b.2.1
  else if a.1 = 4 then strs3 op a.2.2 b.2.2
  else (z3, typeS)
def Gives (r : V3 × ByteArray) (w : World) (e : Ending) (w' : World) : Prop := e = .returned (.tuple #[r.1.val, .string r.2]) ∧ Below w.heap.size w w'

theorem rel_equal (ka na kb nb : Int) (sa sb : ByteArray) (w : World) : Calls Tryz.prog 54 #[vv ka na sa, vv kb nb sb] w fun e w' => e = .returned (.tuple #[vv 2 (bi (veq ka na kb nb sa sb)) es, .string es]) ∧ Below w.heap.size w w' := equal_any ka na kb nb sa sb w
theorem look_ints (w : World) (B : Nat) (h : intsAt w B) (op : Int) : (Instr.lookup 62 (.map (some B)) (.int .i64 op) true).run Tryz.prog w = .ok (.tuple #[(getIn (intsE B).toList op).getD .nilFunc, .bool (getIn (intsE B).toList op).isSome]) w :=
  run_look (P := Tryz.prog) Tryz.underlying62 Tryz.underlying3 w (z := .nilFunc) (by kernel_rfl) B op _ _ h.map rfl
theorem look_bools (w : World) (B : Nat) (h : boolsAt w B) (op : Int) : (Instr.lookup 62 (.map (some B)) (.int .i64 op) true).run Tryz.prog w = .ok (.tuple #[(getIn (boolsE B).toList op).getD .nilFunc, .bool (getIn (boolsE B).toList op).isSome]) w :=
  run_look (P := Tryz.prog) Tryz.underlying62 Tryz.underlying3 w (z := .nilFunc) (by kernel_rfl) B op _ _ h.map rfl
theorem look_strs (w : World) (B : Nat) (h : strsAt w B) (op : Int) : (Instr.lookup 62 (.map (some B)) (.int .i64 op) true).run Tryz.prog w = .ok (.tuple #[(getIn (strsE B).toList op).getD .nilFunc, .bool (getIn (strsE B).toList op).isSome]) w :=
  run_look (P := Tryz.prog) Tryz.underlying62 Tryz.underlying3 w (z := .nilFunc) (by kernel_rfl) B op _ _ h.map rfl
theorem look_eq (w : World) (B : Nat) (h : eqAt w B) (op : Int) : (Instr.lookup 62 (.map (some B)) (.int .i64 op) true).run Tryz.prog w = .ok (.tuple #[(getIn [ent 11 (fn 54) 0] op).getD .nilFunc, .bool (getIn [ent 11 (fn 54) 0] op).isSome]) w :=
  run_look (P := Tryz.prog) Tryz.underlying62 Tryz.underlying3 w (z := .nilFunc) (by kernel_rfl) B op _ _ h.map rfl
theorem keyIs_ne (a k : Int) (h : a ≠ k) : keyIs k (.int .i64 a) = false := by unfold keyIs; simpa using h
theorem miss_ints (B : Nat) (op : Int) (h : op ≠ 5 ∧ op ≠ 6 ∧ op ≠ 7 ∧ op ≠ 8 ∧ op ≠ 9 ∧ op ≠ 10 ∧ op ≠ 11) : getIn (intsE B).toList op = none := by
  obtain ⟨h1, h2, h3, h4, h5, h6, h7⟩ := h
  simp [getIn, intsE, ent, keyIs_ne _ _ (Ne.symm h1), keyIs_ne _ _ (Ne.symm h2), keyIs_ne _ _ (Ne.symm h3), keyIs_ne _ _ (Ne.symm h4), keyIs_ne _ _ (Ne.symm h5), keyIs_ne _ _ (Ne.symm h6), keyIs_ne _ _ (Ne.symm h7)]
theorem miss_bools (B : Nat) (op : Int) (h : op ≠ 12 ∧ op ≠ 13 ∧ op ≠ 11) : getIn (boolsE B).toList op = none := by
  obtain ⟨h1, h2, h3⟩ := h
  simp [getIn, boolsE, ent, keyIs_ne _ _ (Ne.symm h1), keyIs_ne _ _ (Ne.symm h2), keyIs_ne _ _ (Ne.symm h3)]
theorem miss_strs (B : Nat) (op : Int) (h : op ≠ 10 ∧ op ≠ 11 ∧ op ≠ 14) : getIn (strsE B).toList op = none := by
  obtain ⟨h1, h2, h3⟩ := h
  simp [getIn, strsE, ent, keyIs_ne _ _ (Ne.symm h1), keyIs_ne _ _ (Ne.symm h2), keyIs_ne _ _ (Ne.symm h3)]
theorem miss_eq (op : Int) (h : op ≠ 11) : getIn [ent 11 (fn 54) 0] op = none := by
  simp [getIn, ent, keyIs_ne _ _ (Ne.symm h)]
/-- The cell of a box whose block is known. -/
theorem cellOf {w : World} {b : Nat} {c : Array Value} {T : TypeId} (h : w.heap[b]? = some (.cells c T)) (j : Nat) : w.cell? ⟨b, j, none⟩ = c[j]? := Own.cell h j
theorem int_bd {n : Int} {s : ByteArray} (h : rightB 3 n s = true) : -1000000000000000 ≤ n ∧ n ≤ 1000000000000000 := by
  unfold rightB bndB at h; simp at h; omega
theorem str_bd {n : Int} {s : ByteArray} (h : rightB 4 n s = true) : s.size ≤ 200 := by
  unfold rightB bndB prtB at h; simp at h; exact h.2.1

theorem binary_bools (op na nb : Int) (sa sb : ByteArray) (w : World) (hB : Bnds w) (hma : sa.size ≤ maxLen) (hmb : sb.size ≤ maxLen) (ha : rightB 2 na sa = true) (hb : rightB 2 nb sb = true) (h11 : op ≠ 11) :
    Calls Tryz.prog 16 #[.int .i64 op, vv 2 na sa, vv 2 nb sb] w (Gives (bools3 op na nb) w) := by
  have HBN := fun w hB => binaries_bools na nb sa sb w hB hma hmb ha hb
  by_cases h12 : op = 12
  · subst h12
    exact binary_rel boolsAt 12 2 na 2 nb sa sb w hB rfl rfl 2 _ es es 1 HBN (fun w B h => look_bools w B h 12) (fun w B _ h => rel_and 2 na 2 nb sa sb (B + 1) w (cellOf h.b1 0))
  by_cases h13 : op = 13
  · subst h13
    exact binary_rel boolsAt 13 2 na 2 nb sa sb w hB rfl rfl 2 _ es es 2 HBN (fun w B h => look_bools w B h 13) (fun w B _ h => rel_or 2 na 2 nb sa sb (B + 2) w (cellOf h.b2 0))
  · have e : bools3 op na nb = (z3, typeS) := by unfold bools3; rw [if_neg h12, if_neg h13]
    rw [e]
    exact binary_miss boolsAt op 2 na 2 nb sa sb w hB rfl rfl HBN (fun w B h => by rw [look_bools w B h op, miss_bools B op ⟨h12, h13, h11⟩]; rfl)
theorem binary_strs (op na nb : Int) (sa sb : ByteArray) (w : World) (hB : Bnds w) (hma : sa.size ≤ maxLen) (hmb : sb.size ≤ maxLen) (ha : rightB 4 na sa = true) (hb : rightB 4 nb sb = true) (h11 : op ≠ 11) :
    Calls Tryz.prog 16 #[.int .i64 op, vv 4 na sa, vv 4 nb sb] w (Gives (strs3 op sa sb) w) := by
  have HBN := fun w hB => binaries_strs na nb sa sb w hB hma hmb ha hb
  by_cases h10 : op = 10
  · subst h10
    exact binary_rel strsAt 10 4 na 4 nb sa sb w hB rfl rfl 2 _ es es 1 HBN (fun w B h => look_strs w B h 10) (fun w B _ h => rel_before 4 na 4 nb sa sb (B + 1) w (cellOf h.b1 0))
  by_cases h14 : op = 14
  · subst h14
    by_cases hs : sa.size + sb.size ≤ 200
    · have e : strs3 14 sa sb = ((4, 0, sa ++ sb), es) := by unfold strs3; rw [if_neg (by decide), if_pos rfl, if_pos hs]
      rw [e]
      exact binary_join strsAt 14 4 na 4 nb sa sb w hB rfl rfl 4 0 _ es HBN (fun w B h => look_strs w B h 14) (fun w B _ _ => join_yes 4 na 4 nb sa sb w hs)
    · have e : strs3 14 sa sb = (z3, rangeS) := by unfold strs3; rw [if_neg (by decide), if_pos rfl, if_neg hs]
      rw [e]
      exact binary_join strsAt 14 4 na 4 nb sa sb w hB rfl rfl 0 0 es rangeS HBN (fun w B h => look_strs w B h 14) (fun w B _ _ => join_no 4 na 4 nb sa sb w (str_bd ha) (str_bd hb) (by omega))
  · have e : strs3 op sa sb = (z3, typeS) := by unfold strs3; rw [if_neg h10, if_neg h14]
    rw [e]
    exact binary_miss strsAt op 4 na 4 nb sa sb w hB rfl rfl HBN (fun w B h => by rw [look_strs w B h op, miss_strs B op ⟨h10, h11, h14⟩]; rfl)
end Go.Proofs.YtibjhcgfjhbgoaaGreatDoor.Va
