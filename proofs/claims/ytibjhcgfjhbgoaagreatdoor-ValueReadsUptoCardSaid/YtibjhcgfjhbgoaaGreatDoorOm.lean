/-
  Laws of the order: what less answers; strings in the order of their bytes; results are right, and of their kind.
-/
import Derived.Test.YtibjhcgfjhbgoaaGreatDoorRa
import Derived.Test.YtibjhcgfjhbgoaaGreatDoorTr
namespace Go.Proofs.YtibjhcgfjhbgoaaGreatDoor.Va
open Go Go.RowKit Mp

theorem less_irrefl : ∀ x : List UInt8, Op.bytesLess x x = false
  | [] => rfl
  | a :: x => by simp [Op.bytesLess, less_irrefl x]
theorem less_trans : ∀ x y z : List UInt8, Op.bytesLess x y = true → Op.bytesLess y z = true → Op.bytesLess x z = true
  | _, [], _, h, _ => by simp [Op.bytesLess] at h
  | _, _ :: _, [], _, h => by simp [Op.bytesLess] at h
  | [], _ :: _, _ :: _, _, _ => by simp [Op.bytesLess]
  | a :: x, b :: y, c :: z, h, k => by
    simp only [Op.bytesLess, Bool.or_eq_true, decide_eq_true_eq, Bool.and_eq_true, beq_iff_eq] at h k ⊢
    rcases h with h | ⟨rfl, h⟩
    · rcases k with k | ⟨rfl, _⟩
      · exact .inl (UInt8.lt_trans h k)
      · exact .inl h
    · rcases k with k | ⟨rfl, k⟩
      · exact .inl k
      · exact .inr ⟨rfl, less_trans x y z h k⟩
theorem less_tri : ∀ x y : List UInt8, (Op.bytesLess x y = true ∧ Op.bytesLess y x = false ∧ x ≠ y) ∨ (Op.bytesLess x y = false ∧ Op.bytesLess y x = true ∧ x ≠ y) ∨ (Op.bytesLess x y = false ∧ Op.bytesLess y x = false ∧ x = y)
  | [], [] => .inr (.inr ⟨rfl, rfl, rfl⟩)
  | [], b :: y => .inl ⟨by simp [Op.bytesLess], by simp [Op.bytesLess], by simp⟩
  | a :: x, [] => .inr (.inl ⟨by simp [Op.bytesLess], by simp [Op.bytesLess], by simp⟩)
  | a :: x, b :: y => by
    by_cases e : a = b
    · subst e
      have hi : ¬ a < a := UInt8.lt_irrefl a
      rcases less_tri x y with ⟨h1, h2, h3⟩ | ⟨h1, h2, h3⟩ | ⟨h1, h2, h3⟩
      · exact .inl ⟨by simp [Op.bytesLess, h1], by simp [Op.bytesLess, h2], by simpa using h3⟩
      · exact .inr (.inl ⟨by simp [Op.bytesLess, h1], by simp [Op.bytesLess, h2], by simpa using h3⟩)
      · exact .inr (.inr ⟨by simp [Op.bytesLess, h1], by simp [Op.bytesLess, h2], by simpa using h3⟩)
    · have e' : ¬ b = a := fun h => e h.symm
      rcases UInt8.lt_or_lt_of_ne e with h | h
      · have h' : ¬ b < a := fun k => UInt8.lt_irrefl a (UInt8.lt_trans h k)
        exact .inl ⟨by simp [Op.bytesLess, h], by simp [Op.bytesLess, h', e'], by simp [e]⟩
      · have h' : ¬ a < b := fun k => UInt8.lt_irrefl a (UInt8.lt_trans k h)
        exact .inr (.inl ⟨by simp [Op.bytesLess, h', e], by simp [Op.bytesLess, h], by simp [e]⟩)
theorem facts_of {k n : Int} {s : ByteArray} (h : rightB k n s = true) : bndB k n = true ∧ (k ≠ 4 → s = es) ∧ prtB s.data.toList = true := by
  unfold rightB at h
  simp only [Bool.and_eq_true, Bool.or_eq_true, decide_eq_true_eq] at h
  refine ⟨h.1.1, fun hk => ?_, h.2⟩
  have h2 := h.1.2.resolve_left hk
  obtain ⟨⟨l⟩⟩ := s
  simp only [List.isEmpty_iff] at h2
  subst h2; rfl
/-- What less answers: ints, strings, and a fault for the others. -/
theorem bin10 (a b : V3) (ra : right3 a = true) (rb : right3 b = true) :
    (a.1 = 3 ∧ b.1 = 3 ∧ bin 10 a b = (b3 (decide (a.2.1 < b.2.1)), es)) ∨ (a.1 = 4 ∧ b.1 = 4 ∧ bin 10 a b = (b3 (Op.bytesLess a.2.2.data.toList b.2.2.data.toList), es)) ∨
      (¬ (a.1 = b.1 ∧ (a.1 = 3 ∨ a.1 = 4)) ∧ ∃ f, bin 10 a b = (z3, f) ∧ f.data.toList ≠ []) := by
  have n11 : ¬ (10 : Int) = 11 := by decide
  by_cases h0 : a.1 = 0 ∨ b.1 = 0
  · refine .inr (.inr ⟨fun h => by omega, unsetS, ?_, by decide⟩)
    unfold bin; rw [if_pos h0]
  have h1 : ¬ (right3 a = false ∨ right3 b = false) := by rw [ra, rb]; simp
  by_cases hk : a.1 = b.1
  · by_cases h3 : a.1 = 3
    · refine .inl ⟨h3, by omega, ?_⟩
      unfold bin
      rw [if_neg h0, if_neg h1, if_neg n11, if_neg (show ¬ a.1 ≠ b.1 from fun h => h hk), if_neg (by omega), if_pos h3]; rfl
    by_cases h4 : a.1 = 4
    · refine .inr (.inl ⟨h4, by omega, ?_⟩)
      unfold bin
      rw [if_neg h0, if_neg h1, if_neg n11, if_neg (show ¬ a.1 ≠ b.1 from fun h => h hk), if_neg (by omega), if_neg h3, if_pos h4]; rfl
    · refine .inr (.inr ⟨fun h => by omega, typeS, ?_, by decide⟩)
      unfold bin
      rw [if_neg h0, if_neg h1, if_neg n11, if_neg (show ¬ a.1 ≠ b.1 from fun h => h hk)]
      by_cases h2 : a.1 = 2
      · rw [if_pos h2]; rfl
      · rw [if_neg h2, if_neg h3, if_neg h4]
  · refine .inr (.inr ⟨fun h => hk h.1, typeS, ?_, by decide⟩)
    unfold bin
    rw [if_neg h0, if_neg h1, if_neg n11, if_pos hk]
def kindOf (op : Int) : Int := if op ≤ 9 then 3 else if op = 14 then 4 else 2
theorem right_b3 (b : Bool) : right3 (b3 b) = true := by cases b <;> decide +kernel
theorem right_i3 {n : Int} (h : ok15 n = true) : right3 (i3 n) = true := right_i h
/-- A result is right, and of the kind that its operator states; or there is a fault and no value. -/
theorem bin_kind (op : Int) (a b : V3) :
    ((bin op a b).2 = es ∧ right3 (bin op a b).1 = true ∧ (bin op a b).1.1 = kindOf op) ∨ ((bin op a b).2.data.toList ≠ [] ∧ (bin op a b).1 = z3) := by
  have hT : ∀ f, f = unsetS ∨ f = typeS ∨ f = zeroS ∨ f = rangeS → f.data.toList ≠ [] := by rintro f (rfl | rfl | rfl | rfl) <;> decide
  unfold bin
  by_cases h0 : a.1 = 0 ∨ b.1 = 0
  · rw [if_pos h0]; exact .inr ⟨hT _ (.inl rfl), rfl⟩
  rw [if_neg h0]
  by_cases h1 : right3 a = false ∨ right3 b = false
  · rw [if_pos h1]; exact .inr ⟨hT _ (.inr (.inl rfl)), rfl⟩
  rw [if_neg h1]
  have h1' := h1
  simp only [not_or, Bool.not_eq_false] at h1'
  obtain ⟨ra, rb⟩ := h1'
  unfold right3 at ra rb
  by_cases h11 : op = 11
  · rw [if_pos h11]; exact .inl ⟨rfl, right_b3 _, by rw [h11]; rfl⟩
  rw [if_neg h11]
  by_cases hk : a.1 ≠ b.1
  · rw [if_pos hk]; exact .inr ⟨hT _ (.inr (.inl rfl)), rfl⟩
  rw [if_neg hk]
  have hk' : a.1 = b.1 := by omega
  by_cases h2 : a.1 = 2
  · rw [if_pos h2]
    unfold bools3
    by_cases e : op = 12
    · rw [if_pos e]; exact .inl ⟨rfl, right_b3 _, by rw [e]; rfl⟩
    rw [if_neg e]
    by_cases e : op = 13
    · rw [if_pos e]; exact .inl ⟨rfl, right_b3 _, by rw [e]; rfl⟩
    rw [if_neg e]; exact .inr ⟨hT _ (.inr (.inl rfl)), rfl⟩
  rw [if_neg h2]
  by_cases h3 : a.1 = 3
  · rw [if_pos h3]
    have ba := (facts_of ra).1
    have bb := (facts_of rb).1
    unfold bndB at ba bb
    simp only [decide_eq_true_eq] at ba bb
    have ha : -1000000000000000 ≤ a.2.1 ∧ a.2.1 ≤ 1000000000000000 := by omega
    have hb : -1000000000000000 ≤ b.2.1 ∧ b.2.1 ≤ 1000000000000000 := by omega
    have hw : ∀ n : Int, op ≤ 9 → ((within3 n).2 = es ∧ right3 (within3 n).1 = true ∧ (within3 n).1.1 = kindOf op) ∨ ((within3 n).2.data.toList ≠ [] ∧ (within3 n).1 = z3) := by
      intro n h9
      unfold within3
      by_cases e : ok15 n = true
      · rw [if_pos e]; exact .inl ⟨rfl, right_i3 e, by unfold kindOf; rw [if_pos h9]; rfl⟩
      · rw [if_neg e]; exact .inr ⟨hT _ (.inr (.inr (.inr rfl))), rfl⟩
    have hi : ∀ n : Int, op ≤ 9 → ok15 n = true → (((i3 n, es) : V3 × ByteArray).2 = es ∧ right3 ((i3 n, es) : V3 × ByteArray).1 = true ∧ ((i3 n, es) : V3 × ByteArray).1.1 = kindOf op) :=
      fun n h9 e => ⟨rfl, right_i3 e, by unfold kindOf; rw [if_pos h9]; rfl⟩
    unfold ints3
    by_cases e : op = 5
    · rw [if_pos e]; exact hw _ (by omega)
    rw [if_neg e]
    by_cases e : op = 6
    · rw [if_pos e]; exact hw _ (by omega)
    rw [if_neg e]
    by_cases e : op = 7
    · rw [if_pos e]
      by_cases z : b.2.1 = 0
      · rw [if_pos z]; exact .inl (hi _ (by omega) (by decide))
      rw [if_neg z]
      by_cases q : (a.2.1.natAbs : Int) ≤ 1000000000000000 / (b.2.1.natAbs : Int)
      · rw [if_pos q]
        refine .inl (hi _ (by omega) (ok15_of ?_))
        rw [Int.le_ediv_iff_mul_le (by omega)] at q
        rw [Int.natAbs_mul]; push_cast; exact q
      · rw [if_neg q]; exact .inr ⟨hT _ (.inr (.inr (.inr rfl))), rfl⟩
    rw [if_neg e]
    by_cases e : op = 8
    · rw [if_pos e]
      by_cases z : b.2.1 = 0
      · rw [if_pos z]; exact .inr ⟨hT _ (.inr (.inr (.inl rfl))), rfl⟩
      rw [if_neg z]; exact .inl (hi _ (by omega) (ok_div _ ha))
    rw [if_neg e]
    by_cases e : op = 9
    · rw [if_pos e]
      by_cases z : b.2.1 = 0
      · rw [if_pos z]; exact .inr ⟨hT _ (.inr (.inr (.inl rfl))), rfl⟩
      rw [if_neg z]; exact .inl (hi _ (by omega) (ok_mod _ ha))
    rw [if_neg e]
    by_cases e : op = 10
    · rw [if_pos e]; exact .inl ⟨rfl, right_b3 _, by rw [e]; rfl⟩
    rw [if_neg e]; exact .inr ⟨hT _ (.inr (.inl rfl)), rfl⟩
  rw [if_neg h3]
  by_cases h4 : a.1 = 4
  · rw [if_pos h4]
    unfold strs3
    by_cases e : op = 10
    · rw [if_pos e]; exact .inl ⟨rfl, right_b3 _, by rw [e]; rfl⟩
    rw [if_neg e]
    by_cases e : op = 14
    · rw [if_pos e]
      by_cases q : a.2.2.size + b.2.2.size ≤ 200
      · rw [if_pos q]
        refine .inl ⟨rfl, ?_, by rw [e]; rfl⟩
        have pa := (facts_of ra).2.2
        have pb := (facts_of rb).2.2
        unfold prtB allB at pa pb
        simp only [Bool.and_eq_true, decide_eq_true_eq] at pa pb
        unfold right3 rightB prtB allB bndB
        have hd : (a.2.2 ++ b.2.2).data.toList = a.2.2.data.toList ++ b.2.2.data.toList := by simp
        simp only [hd, List.length_append, List.all_append, pa.2, pb.2]
        have s1 : a.2.2.data.toList.length = a.2.2.size := Array.length_toList
        have s2 : b.2.2.data.toList.length = b.2.2.size := Array.length_toList
        rw [s1, s2]
        simp [q]
      · rw [if_neg q]; exact .inr ⟨hT _ (.inr (.inr (.inr rfl))), rfl⟩
    rw [if_neg e]; exact .inr ⟨hT _ (.inr (.inl rfl)), rfl⟩
  rw [if_neg h4]; exact .inr ⟨hT _ (.inr (.inl rfl)), rfl⟩

theorem pick_right (l : List (List UInt8)) (hl : ∀ x, x ∈ l → (decide (x.length ≤ 200) && allB x) = true) (k : Int) : prtB (pick l k).data.toList = true := by
  have h : (pick l k).data.toList = l.getD k.toNat [] := by unfold pick bs; simp
  unfold prtB
  rw [h]
  by_cases hk : k.toNat < l.length
  · have : l.getD k.toNat [] = l[k.toNat] := by simp [List.getD, hk]
    rw [this]; exact hl _ (List.getElem_mem hk)
  · have : l.getD k.toNat [] = [] := by simp [List.getD, List.getElem?_eq_none (Nat.le_of_not_lt hk)]
    rw [this]; rfl
theorem right_str {s : ByteArray} (h : prtB s.data.toList = true) : right3 (4, 0, s) = true := by
  unfold right3 rightB bndB; simp [h]
theorem right_num {k n : Int} (h : bndB k n = true) : right3 (k, n, es) = true := by
  unfold right3 rightB es prtB allB; simp [h]
theorem made_right (n : Int) : right3 (made3 n) = true := by
  have h8 : ∀ k, prtB (pick words8 k).data.toList = true := pick_right _ (by decide)
  have h6 : ∀ k, prtB (pick strs6 k).data.toList = true := pick_right _ (by decide)
  have hc : ∀ m, right3 (const3 m) = true := by
    intro m
    have b1 : -1000 < m.tmod 1000 ∧ m.tmod 1000 < 1000 := ⟨Int.lt_tmod_of_pos m (by decide), Int.tmod_lt_of_pos m (by decide)⟩
    unfold const3
    repeat' split
    · exact right_num (by decide)
    · exact right_num (by decide)
    · exact right_num (by decide)
    · exact right_num (by unfold bndB; simp; omega)
    · have hb := md_bd (m.tdiv 7) 3 (by decide)
      have hk : md (m.tdiv 7) 3 = 0 ∨ md (m.tdiv 7) 3 = 1 ∨ md (m.tdiv 7) 3 = 2 := by omega
      rcases hk with h | h | h <;> rw [h] <;> exact right_num (by decide)
    · exact right_str (h6 _)
    · exact right_str (h8 _)
  have b5 := md_bd (n.tdiv 11) 5 (by decide)
  have b24 := md_bd (n.tdiv 11) 24 (by decide)
  have b2 : -100 < n.tmod 100 ∧ n.tmod 100 < 100 := ⟨Int.lt_tmod_of_pos n (by decide), Int.tmod_lt_of_pos n (by decide)⟩
  unfold made3
  repeat' split
  · exact right_num (by decide)
  · exact right_num (by unfold bndB; simp; omega)
  · exact right_num (by unfold bndB; simp; omega)
  · exact right_num (by unfold bndB; simp; omega)
  · exact hc _

/-- What the closure less answers. -/
def less3 (a b : V3) : Bool × Bool := ((truth3 (bin 10 a b).1).1, same (bin 10 a b).2 es && (truth3 (bin 10 a b).1).2)
def ordered (a b : V3) : Bool := decide (a.1 = b.1) && (decide (a.1 = 3) || decide (a.1 = 4))
theorem truth_b3 (b : Bool) : truth3 (b3 b) = (b, true) := by
  unfold truth3
  rw [if_pos ⟨rfl, right_b3 b⟩]
  cases b <;> rfl
theorem same_es : same es es = true := same_refl es
theorem same_ne {f : ByteArray} (h : f.data.toList ≠ []) : same f es = false := by unfold same; simpa [es] using h
theorem less_of (a b : V3) (ra : right3 a = true) (rb : right3 b = true) :
    (a.1 = 3 ∧ b.1 = 3 ∧ less3 a b = (decide (a.2.1 < b.2.1), true)) ∨ (a.1 = 4 ∧ b.1 = 4 ∧ less3 a b = (Op.bytesLess a.2.2.data.toList b.2.2.data.toList, true)) ∨
      (¬ (a.1 = b.1 ∧ (a.1 = 3 ∨ a.1 = 4)) ∧ less3 a b = (false, false)) := by
  rcases bin10 a b ra rb with ⟨h1, h2, e⟩ | ⟨h1, h2, e⟩ | ⟨h, f, e, hf⟩
  · refine .inl ⟨h1, h2, ?_⟩
    unfold less3; rw [e]; simp only [truth_b3, same_es, Bool.and_self]
  · refine .inr (.inl ⟨h1, h2, ?_⟩)
    unfold less3; rw [e]; simp only [truth_b3, same_es, Bool.and_self]
  · refine .inr (.inr ⟨h, ?_⟩)
    unfold less3; rw [e]; simp only [same_ne hf, Bool.false_and]; rfl
theorem less_ordered (a b : V3) (ra : right3 a = true) (rb : right3 b = true) : (less3 a b).2 = ordered a b := by
  unfold ordered
  rcases less_of a b ra rb with ⟨h1, h2, e⟩ | ⟨h1, h2, e⟩ | ⟨h, e⟩
  · rw [e]; simp [h1, h2]
  · rw [e]; simp [h1, h2]
  · rw [e]
    symm
    rw [← Bool.not_eq_true]
    simpa using h
theorem ordered_comm (a b : V3) : ordered b a = ordered a b := by
  unfold ordered; rw [Bool.eq_iff_iff]; simp; omega
theorem str_zero {n : Int} {s : ByteArray} (h : rightB 4 n s = true) : n = 0 := by
  have := (facts_of h).1; unfold bndB at this; simp at this; omega
theorem eq_of_es {k n : Int} {s : ByteArray} (h : rightB k n s = true) (hk : k ≠ 4) : s = es := (facts_of h).2.1 hk
/-- Of two that are ordered exactly one holds: less, greater, equal. -/
theorem less_one (a b : V3) (ra : right3 a = true) (rb : right3 b = true) (ho : ordered a b = true) :
    ((less3 a b).1 = true ∧ (less3 b a).1 = false ∧ v3eq a b = false) ∨ ((less3 a b).1 = false ∧ (less3 b a).1 = true ∧ v3eq a b = false) ∨ ((less3 a b).1 = false ∧ (less3 b a).1 = false ∧ v3eq a b = true) := by
  obtain ⟨ka, na, sa⟩ := a
  obtain ⟨kb, nb, sb⟩ := b
  unfold right3 at ra rb
  unfold ordered at ho
  simp only [Bool.and_eq_true, Bool.or_eq_true, decide_eq_true_eq] at ho ra rb
  obtain ⟨rfl, hk⟩ := ho
  have e1 := less_of (ka, na, sa) (ka, nb, sb) ra rb
  have e2 := less_of (ka, nb, sb) (ka, na, sa) rb ra
  unfold v3eq veq
  simp only at e1 e2 ⊢
  rcases hk with rfl | rfl
  · obtain rfl := eq_of_es ra (by decide)
    obtain rfl := eq_of_es rb (by decide)
    rcases e1 with ⟨_, _, e1⟩ | ⟨h, _⟩ | ⟨h, _⟩
    · rcases e2 with ⟨_, _, e2⟩ | ⟨h, _⟩ | ⟨h, _⟩
      · rw [e1, e2]
        simp
        omega
      · exact absurd h (by decide)
      · exact absurd (by simp) h
    · exact absurd h (by decide)
    · exact absurd (by simp) h
  · obtain rfl := str_zero ra
    obtain rfl := str_zero rb
    rcases e1 with ⟨h, _⟩ | ⟨_, _, e1⟩ | ⟨h, _⟩
    · exact absurd h (by decide)
    · rcases e2 with ⟨h, _⟩ | ⟨_, _, e2⟩ | ⟨h, _⟩
      · exact absurd h (by decide)
      · rw [e1, e2]
        simp only [decide_true, Bool.true_and, decide_eq_true_eq, decide_eq_false_iff_not]
        rcases less_tri sa.data.toList sb.data.toList with ⟨h1, h2, h3⟩ | ⟨h1, h2, h3⟩ | ⟨h1, h2, h3⟩
        · exact .inl ⟨h1, h2, h3⟩
        · exact .inr (.inl ⟨h1, h2, h3⟩)
        · exact .inr (.inr ⟨h1, h2, h3⟩)
      · exact absurd (by simp) h
    · exact absurd (by simp) h
theorem less_three (a b c : V3) (ra : right3 a = true) (rb : right3 b = true) (rc : right3 c = true) (h1 : (less3 a b).2 = true) (h2 : (less3 b c).2 = true) (hx : (less3 a b).1 = true) (hz : (less3 b c).1 = true) :
    (less3 a c).1 = true := by
  rcases less_of a b ra rb with ⟨ka, kb, e⟩ | ⟨ka, kb, e⟩ | ⟨_, e⟩
  · rcases less_of b c rb rc with ⟨kb', kc, e'⟩ | ⟨kb', kc, e'⟩ | ⟨_, e'⟩
    · rcases less_of a c ra rc with ⟨_, _, e''⟩ | ⟨h, _⟩ | ⟨h, _⟩
      · rw [e] at hx; rw [e'] at hz; rw [e'']
        simp at hx hz ⊢; omega
      · exact absurd (ka.symm.trans h) (by decide)
      · exact absurd ⟨ka.trans kc.symm, .inl ka⟩ h
    · exact absurd (kb.symm.trans kb') (by decide)
    · rw [e'] at h2; exact absurd h2 (by simp)
  · rcases less_of b c rb rc with ⟨kb', kc, e'⟩ | ⟨kb', kc, e'⟩ | ⟨_, e'⟩
    · exact absurd (kb.symm.trans kb') (by decide)
    · rcases less_of a c ra rc with ⟨h, _⟩ | ⟨_, _, e''⟩ | ⟨h, _⟩
      · exact absurd (ka.symm.trans h) (by decide)
      · rw [e] at hx; rw [e'] at hz; rw [e'']
        exact less_trans _ _ _ hx hz
      · exact absurd ⟨ka.trans kc.symm, .inr ka⟩ h
    · rw [e'] at h2; exact absurd h2 (by simp)
  · rw [e] at h1; exact absurd h1 (by simp)
end Go.Proofs.YtibjhcgfjhbgoaaGreatDoor.Va
