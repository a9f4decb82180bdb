/-
  The plain laws of ValueStrings, its walk.
-/
import Derived.Test.YtibjhcgfjhbgoaaDoorTr
import Derived.Test.YtibjhcgfjhbgoaaDoorSy
import Derived.Deep.RegionHeld3
import Derived.Deep.DeepCutAuto
import Derived.Deep.QuietTactic
import Derived.BigQuiet
import Derived.Laws.IdiomStrings
import Derived.IntWalk
namespace Go.Proofs.YtibjhcgfjhbgoaaDoor.Va
open Go Go.RowKit Mp

def rep (n : Nat) (c : UInt8) : ByteArray := ⟨(List.replicate n c).toArray⟩
theorem rep_list (n : Nat) (c : UInt8) : (rep n c).data.toList = List.replicate n c := by unfold rep; simp
theorem rep_size (n : Nat) (c : UInt8) : (rep n c).size = n := by
  have h : (rep n c).data.toList.length = n := by rw [rep_list]; simp
  exact (show (rep n c).size = (rep n c).data.toList.length from Array.length_toList.symm).trans h
theorem bytes_ext {a b : ByteArray} (h : a.data.toList = b.data.toList) : a = b := WideShapes.bytes_inj h
theorem rep_succ (n : Nat) (c : UInt8) : rep n c ++ ⟨#[c]⟩ = rep (n + 1) c := by
  apply bytes_ext
  rw [rep_list, ByteArray.data_append, Array.toList_append, rep_list, List.replicate_succ']
theorem app_list (a b : ByteArray) : (a ++ b).data.toList = a.data.toList ++ b.data.toList := by rw [ByteArray.data_append, Array.toList_append]
theorem app_size (a b : ByteArray) : (a ++ b).size = a.size + b.size := by
  have h := congrArg List.length (app_list a b)
  rw [List.length_append] at h
  exact h
theorem conv1 (w : World) (x : Int) (c : UInt8) (hx : x = c.toNat) : (convert 25 9 (.slice (some ⟨w.heap.size, 0, none⟩) 1 1)).run Tryd.prog (w.alloc (.cells #[.int .u8 x] 5)).drew = .ok (.string ⟨#[c]⟩) (w.alloc (.cells #[.int .u8 x] 5)).drew := by
  refine run_convert_bytes_back _ 25 9 5 ⟨w.heap.size, 0, none⟩ 1 [c] Tryd.underlying25 Tryd.underlying5 Tryd.underlying9 fun j hj => ?_
  obtain rfl : j = 0 := by simpa using hj
  subst hx
  exact (Own.new w #[.int .u8 (c.toNat : Int)] 5).cell 0
theorem letter_wrap (n : Int) (c : UInt8) (h0 : 0 ≤ n) (hc : 97 + n % 26 = (c.toNat : Int)) : IntKind.u8.wrap (97 + n.tmod 26) = (c.toNat : Int) := by
  rw [Int.tmod_eq_emod_of_nonneg h0, hc]
  have := c.toNat_lt
  rw [IntKind.wrap_u8]; omega
def low (c : UInt8) : Prop := 97 ≤ (c.toNat : Int) ∧ (c.toNat : Int) ≤ 122
theorem rep_all (n : Nat) (c : UInt8) (hc : low c) : allB (List.replicate n c) = true := by
  unfold allB
  rw [List.all_eq_true]
  intro x hx
  obtain rfl := List.eq_of_mem_replicate hx
  unfold chrB
  unfold low at hc
  simp only [Bool.and_eq_true, decide_eq_true_eq]
  omega
theorem right_rep (n : Nat) (c : UInt8) (hc : low c) : right3 (4, 0, rep n c) = decide (n ≤ 200) := by
  unfold right3 rightB prtB bndB
  rw [rep_list, rep_all n c hc]
  simp
theorem right_two (m n : Nat) (c d : UInt8) (h : 200 < m ∨ 200 < n) : right3 (4, 0, rep m c ++ rep n d) = false := by
  unfold right3 rightB prtB bndB
  rw [app_list, rep_list, rep_list]
  simp
  omega
theorem right_both (m n : Nat) (c d : UInt8) (hc : low c) (hd : low d) (h : m + n ≤ 200) : right3 (4, 0, rep m c ++ rep n d) = true := by
  unfold right3 rightB prtB bndB
  rw [app_list, rep_list, rep_list]
  have := rep_all m c hc
  have := rep_all n d hd
  unfold allB at *
  simp [List.all_append, *]
theorem bin_str (op : Int) (a b : ByteArray) (ra : right3 (4, 0, a) = true) (rb : right3 (4, 0, b) = true) (ho : op ≠ 11) : bin op (4, 0, a) (4, 0, b) = strs3 op a b := by
  unfold bin
  simp only
  rw [if_neg (by decide), if_neg (by rw [ra, rb]; decide), if_neg ho, if_neg (by simp), if_neg (by decide), if_neg (by decide), if_pos trivial]
theorem cat_type (m n : Nat) (c d : UInt8) (hc : low c) (hd : low d) (h : 200 < m ∨ 200 < n) : bin 14 (4, 0, rep m c) (4, 0, rep n d) = (z3, typeS) := by
  unfold bin
  simp only
  rw [if_neg (by decide), if_pos]
  rw [right_rep m c hc, right_rep n d hd]
  simp; omega
theorem cat_range (m n : Nat) (c d : UInt8) (hc : low c) (hd : low d) (h1 : m ≤ 200) (h2 : n ≤ 200) (h : 200 < m + n) : bin 14 (4, 0, rep m c) (4, 0, rep n d) = (z3, rangeS) := by
  rw [bin_str 14 _ _ (by rw [right_rep m c hc]; simpa using h1) (by rw [right_rep n d hd]; simpa using h2) (by decide)]
  unfold strs3
  rw [if_neg (by decide), if_pos rfl, rep_size, rep_size, if_neg (by omega)]
theorem cat_yes (m n : Nat) (c d : UInt8) (hc : low c) (hd : low d) (h : m + n ≤ 200) : bin 14 (4, 0, rep m c) (4, 0, rep n d) = ((4, 0, rep m c ++ rep n d), es) := by
  rw [bin_str 14 _ _ (by rw [right_rep m c hc]; simp; omega) (by rw [right_rep n d hd]; simp; omega) (by decide)]
  unfold strs3
  rw [if_neg (by decide), if_pos rfl, rep_size, rep_size, if_pos h]
theorem less_app : ∀ (x y : List UInt8), Op.bytesLess x (x ++ y) = !y.isEmpty
  | [], [] => rfl
  | [], _ :: _ => rfl
  | a :: x, y => by
    have hi : ¬ a < a := UInt8.lt_irrefl a
    simp [Op.bytesLess, less_app x y]
theorem less_cat (m n : Nat) (c d : UInt8) (hc : low c) (hd : low d) (h : m + n ≤ 200) : bin 10 (4, 0, rep m c) (4, 0, rep m c ++ rep n d) = (b3 (decide (0 < (n : Int))), es) := by
  rw [bin_str 10 _ _ (by rw [right_rep m c hc]; simp; omega) (right_both m n c d hc hd h) (by decide)]
  unfold strs3
  rw [if_pos rfl, app_list, less_app, rep_list]
  congr 2
  cases n with
  | zero => rfl
  | succ n => simp [List.replicate_succ]
theorem right_b3s (b : Bool) : right3 (b3 b) = true := by cases b <;> decide +kernel
theorem truth_b3s (b : Bool) : truth3 (b3 b) = (b, true) := by
  unfold truth3
  rw [if_pos ⟨rfl, right_b3s b⟩]
  cases b <;> rfl
end Go.Proofs.YtibjhcgfjhbgoaaDoor.Va
