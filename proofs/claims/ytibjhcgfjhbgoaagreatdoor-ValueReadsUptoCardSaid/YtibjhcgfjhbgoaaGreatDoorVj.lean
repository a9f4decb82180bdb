/-
  Contract of Binary, for all operators and all values.
-/
import Derived.Test.YtibjhcgfjhbgoaaGreatDoorVi
namespace Go.Proofs.YtibjhcgfjhbgoaaGreatDoor.Va
open Go Go.RowKit Mp

theorem ok15_of {n : Int} (h : (n.natAbs : Int) ≤ 1000000000000000) : ok15 n = true := by
  unfold ok15; simp; omega
theorem ok_mul {a b : Int} (h0 : b ≠ 0) (h : (a.natAbs : Int) ≤ 1000000000000000 / (b.natAbs : Int)) : ok15 (a * b) = true := by
  apply ok15_of
  rw [Int.natAbs_mul]
  have := (Int.le_ediv_iff_mul_le (by omega)).1 h
  push_cast
  exact this
theorem ok_div {a : Int} (b : Int) (h : -1000000000000000 ≤ a ∧ a ≤ 1000000000000000) : ok15 (a.tdiv b) = true := by
  apply ok15_of
  rw [Int.natAbs_tdiv]
  have h2 : a.natAbs.div b.natAbs ≤ a.natAbs := Nat.div_le_self a.natAbs b.natAbs
  omega
theorem ok_mod {a : Int} (b : Int) (h : -1000000000000000 ≤ a ∧ a ≤ 1000000000000000) : ok15 (a.tmod b) = true := by
  apply ok15_of
  rw [Int.natAbs_tmod]
  have := Nat.mod_le a.natAbs b.natAbs
  omega
theorem binary_ints (op na nb : Int) (sa sb : ByteArray) (w : World) (hB : Bnds w) (hma : sa.size ≤ maxLen) (hmb : sb.size ≤ maxLen) (ha : rightB 3 na sa = true) (hb : rightB 3 nb sb = true) (h11 : op ≠ 11) :
    Calls Tryz.prog 16 #[.int .i64 op, vv 3 na sa, vv 3 nb sb] w (Gives (ints3 op na nb) w) := by
  have HBN := fun w hB => binaries_ints na nb sa sb w hB hma hmb ha hb
  have ba := int_bd ha
  have bb := int_bd hb
  by_cases h5 : op = 5
  · subst h5
    cases ho : ok15 (na + nb)
    · have e : ints3 5 na nb = (z3, rangeS) := by unfold ints3 within3; rw [if_pos rfl, if_neg (by rw [ho]; decide)]
      rw [e]
      exact binary_op intsAt 5 3 na 3 nb sa sb w hB rfl rfl 0 0 es rangeS 1 HBN (fun w B h => look_ints w B h 5) (fun w B hB h => add_no 3 na 3 nb sa sb (B + 1) w hB (cellOf h.b1 0) (cellOf h.b1 1) ba bb ho)
    · have e : ints3 5 na nb = (i3 (na + nb), es) := by unfold ints3 within3; rw [if_pos rfl, if_pos ho]
      rw [e]
      exact binary_op intsAt 5 3 na 3 nb sa sb w hB rfl rfl 3 (na + nb) es es 1 HBN (fun w B h => look_ints w B h 5) (fun w B hB h => add_yes 3 na 3 nb sa sb (B + 1) w hB (cellOf h.b1 0) (cellOf h.b1 1) ba bb ho)
  by_cases h6 : op = 6
  · subst h6
    cases ho : ok15 (na - nb)
    · have e : ints3 6 na nb = (z3, rangeS) := by unfold ints3 within3; rw [if_neg (by decide)]; rw [if_pos rfl, if_neg (by rw [ho]; decide)]
      rw [e]
      exact binary_op intsAt 6 3 na 3 nb sa sb w hB rfl rfl 0 0 es rangeS 2 HBN (fun w B h => look_ints w B h 6) (fun w B hB h => sub_no 3 na 3 nb sa sb (B + 2) w hB (cellOf h.b2 0) (cellOf h.b2 1) ba bb ho)
    · have e : ints3 6 na nb = (i3 (na - nb), es) := by unfold ints3 within3; rw [if_neg (by decide)]; rw [if_pos rfl, if_pos ho]
      rw [e]
      exact binary_op intsAt 6 3 na 3 nb sa sb w hB rfl rfl 3 (na - nb) es es 2 HBN (fun w B h => look_ints w B h 6) (fun w B hB h => sub_yes 3 na 3 nb sa sb (B + 2) w hB (cellOf h.b2 0) (cellOf h.b2 1) ba bb ho)
  by_cases h7 : op = 7
  · subst h7
    by_cases h0 : nb = 0
    · have e : ints3 7 na nb = (i3 0, es) := by unfold ints3; rw [if_neg (by decide)]; rw [if_neg (by decide)]; rw [if_pos rfl, if_pos h0]
      rw [e]
      exact binary_op intsAt 7 3 na 3 nb sa sb w hB rfl rfl 3 0 es es 3 HBN (fun w B h => look_ints w B h 7) (fun w B hB h => mul_zero 3 na 3 nb sa sb (B + 3) w hB (cellOf h.b3 0) (cellOf h.b3 1) ba bb h0)
    by_cases hl : (na.natAbs : Int) ≤ 1000000000000000 / (nb.natAbs : Int)
    · have e : ints3 7 na nb = (i3 (na * nb), es) := by unfold ints3; rw [if_neg (by decide)]; rw [if_neg (by decide)]; rw [if_pos rfl, if_neg h0, if_pos hl]
      rw [e]
      exact binary_op intsAt 7 3 na 3 nb sa sb w hB rfl rfl 3 (na * nb) es es 3 HBN (fun w B h => look_ints w B h 7) (fun w B hB h => mul_yes 3 na 3 nb sa sb (B + 3) w hB (cellOf h.b3 0) (cellOf h.b3 1) ba bb h0 hl (ok_mul h0 hl))
    · have e : ints3 7 na nb = (z3, rangeS) := by unfold ints3; rw [if_neg (by decide)]; rw [if_neg (by decide)]; rw [if_pos rfl, if_neg h0, if_neg hl]
      rw [e]
      exact binary_op intsAt 7 3 na 3 nb sa sb w hB rfl rfl 0 0 es rangeS 3 HBN (fun w B h => look_ints w B h 7) (fun w B hB h => mul_no 3 na 3 nb sa sb (B + 3) w hB (cellOf h.b3 0) (cellOf h.b3 1) ba bb h0 (by omega))
  by_cases h8 : op = 8
  · subst h8
    by_cases h0 : nb = 0
    · have e : ints3 8 na nb = (z3, zeroS) := by unfold ints3; rw [if_neg (by decide)]; rw [if_neg (by decide)]; rw [if_neg (by decide)]; rw [if_pos rfl, if_pos h0]
      rw [e]
      exact binary_op intsAt 8 3 na 3 nb sa sb w hB rfl rfl 0 0 es zeroS 4 HBN (fun w B h => look_ints w B h 8) (fun w B hB h => div_no 3 na 3 nb sa sb (B + 4) w hB (cellOf h.b4 0) (cellOf h.b4 1) ba bb h0)
    · have e : ints3 8 na nb = (i3 (na.tdiv nb), es) := by unfold ints3; rw [if_neg (by decide)]; rw [if_neg (by decide)]; rw [if_neg (by decide)]; rw [if_pos rfl, if_neg h0]
      rw [e]
      exact binary_op intsAt 8 3 na 3 nb sa sb w hB rfl rfl 3 (na.tdiv nb) es es 4 HBN (fun w B h => look_ints w B h 8) (fun w B hB h => div_yes 3 na 3 nb sa sb (B + 4) w hB (cellOf h.b4 0) (cellOf h.b4 1) ba bb h0 (ok_div nb ba))
  by_cases h9 : op = 9
  · subst h9
    by_cases h0 : nb = 0
    · have e : ints3 9 na nb = (z3, zeroS) := by unfold ints3; rw [if_neg (by decide)]; rw [if_neg (by decide)]; rw [if_neg (by decide)]; rw [if_neg (by decide)]; rw [if_pos rfl, if_pos h0]
      rw [e]
      exact binary_op intsAt 9 3 na 3 nb sa sb w hB rfl rfl 0 0 es zeroS 5 HBN (fun w B h => look_ints w B h 9) (fun w B hB h => mod_no 3 na 3 nb sa sb (B + 5) w hB (cellOf h.b5 0) (cellOf h.b5 1) ba bb h0)
    · have e : ints3 9 na nb = (i3 (na.tmod nb), es) := by unfold ints3; rw [if_neg (by decide)]; rw [if_neg (by decide)]; rw [if_neg (by decide)]; rw [if_neg (by decide)]; rw [if_pos rfl, if_neg h0]
      rw [e]
      exact binary_op intsAt 9 3 na 3 nb sa sb w hB rfl rfl 3 (na.tmod nb) es es 5 HBN (fun w B h => look_ints w B h 9) (fun w B hB h => mod_yes 3 na 3 nb sa sb (B + 5) w hB (cellOf h.b5 0) (cellOf h.b5 1) ba bb h0 (ok_mod nb ba))
  by_cases h10 : op = 10
  · subst h10
    have e : ints3 10 na nb = (b3 (decide (na < nb)), es) := by unfold ints3; rw [if_neg (by decide)]; rw [if_neg (by decide)]; rw [if_neg (by decide)]; rw [if_neg (by decide)]; rw [if_neg (by decide)]; rw [if_pos rfl]
    rw [e]
    exact binary_rel intsAt 10 3 na 3 nb sa sb w hB rfl rfl 2 _ es es 6 HBN (fun w B h => look_ints w B h 10) (fun w B _ h => rel_lt 3 na 3 nb sa sb (B + 6) w (cellOf h.b6 0))
  · have e : ints3 op na nb = (z3, typeS) := by unfold ints3; rw [if_neg h5, if_neg h6, if_neg h7, if_neg h8, if_neg h9, if_neg h10]
    rw [e]
    exact binary_miss intsAt op 3 na 3 nb sa sb w hB rfl rfl HBN (fun w B h => by rw [look_ints w B h op, miss_ints B op ⟨h5, h6, h7, h8, h9, h10, h11⟩]; rfl)

theorem binary_any (op : Int) (a b : V3) (w : World) (hB : Bnds w) (hma : a.2.2.size ≤ maxLen) (hmb : b.2.2.size ≤ maxLen) :
    Calls Tryz.prog 16 #[.int .i64 op, a.val, b.val] w (Gives (bin op a b) w) := by
  obtain ⟨ka, na, sa⟩ := a
  obtain ⟨kb, nb, sb⟩ := b
  simp only at hma hmb
  show Calls Tryz.prog 16 #[.int .i64 op, vv ka na sa, vv kb nb sb] w _
  unfold bin right3
  simp only
  by_cases h0 : ka = 0 ∨ kb = 0
  · rw [if_pos h0]
    exact binary_unset op ka na kb nb sa sb w (by
      by_cases h : ka = 0
      · exact .inl (by simpa using h)
      · exact .inr ⟨by simpa using h, by simpa using h0.resolve_left h⟩)
  rw [if_neg h0]
  have ha0 : (ka == 0) = false := by simp; omega
  have hb0 : (kb == 0) = false := by simp; omega
  cases ha : rightB ka na sa
  · rw [if_pos (.inl rfl)]
    exact binary_nil op ka na kb nb sa sb w hB ha0 hb0 (fun w hB => binaries_a ka kb na nb sa sb w hB hma hmb ha)
  cases hb : rightB kb nb sb
  · rw [if_pos (.inr rfl)]
    exact binary_nil op ka na kb nb sa sb w hB ha0 hb0 (fun w hB => binaries_b ka kb na nb sa sb w hB hma hmb ha hb)
  rw [if_neg (by simp)]
  by_cases hk : ka = kb
  · subst hk
    by_cases h11 : op = 11
    · subst h11
      rw [if_pos rfl]
      by_cases h2 : ka = 2
      · subst h2
        exact binary_equal boolsAt 11 2 na 2 nb sa sb w hB rfl rfl 2 _ es es (fun w hB => binaries_bools na nb sa sb w hB hma hmb ha hb) (fun w B h => look_bools w B h 11) (fun w B _ _ => rel_equal 2 na 2 nb sa sb w)
      by_cases h3 : ka = 3
      · subst h3
        exact binary_equal intsAt 11 3 na 3 nb sa sb w hB rfl rfl 2 _ es es (fun w hB => binaries_ints na nb sa sb w hB hma hmb ha hb) (fun w B h => look_ints w B h 11) (fun w B _ _ => rel_equal 3 na 3 nb sa sb w)
      by_cases h4 : ka = 4
      · subst h4
        exact binary_equal strsAt 11 4 na 4 nb sa sb w hB rfl rfl 2 _ es es (fun w hB => binaries_strs na nb sa sb w hB hma hmb ha hb) (fun w B h => look_strs w B h 11) (fun w B _ _ => rel_equal 4 na 4 nb sa sb w)
      · exact binary_equal eqAt 11 ka na ka nb sa sb w hB ha0 ha0 2 _ es es (fun w hB => binaries_other ka na nb sa sb w hB hma hmb ha hb (by simpa using h2) (by simpa using h3) (by simpa using h4)) (fun w B h => look_eq w B h 11) (fun w B _ _ => rel_equal ka na ka nb sa sb w)
    · rw [if_neg h11, if_neg (by simp)]
      by_cases h2 : ka = 2
      · subst h2; rw [if_pos rfl]; exact binary_bools op na nb sa sb w hB hma hmb ha hb h11
      by_cases h3 : ka = 3
      · subst h3; rw [if_neg h2, if_pos rfl]; exact binary_ints op na nb sa sb w hB hma hmb ha hb h11
      by_cases h4 : ka = 4
      · subst h4; rw [if_neg h2, if_neg h3, if_pos rfl]; exact binary_strs op na nb sa sb w hB hma hmb ha hb h11
      · rw [if_neg h2, if_neg h3, if_neg h4]
        exact binary_miss eqAt op ka na ka nb sa sb w hB ha0 ha0 (fun w hB => binaries_other ka na nb sa sb w hB hma hmb ha hb (by simpa using h2) (by simpa using h3) (by simpa using h4)) (fun w B h => by rw [look_eq w B h op, miss_eq op h11]; rfl)
  · have hke : (ka == kb) = false := by simpa using hk
    by_cases h11 : op = 11
    · subst h11
      rw [if_pos rfl]
      exact binary_equal eqAt 11 ka na kb nb sa sb w hB ha0 hb0 2 _ es es (fun w hB => binaries_apart ka kb na nb sa sb w hB hma hmb ha hb hke) (fun w B h => look_eq w B h 11) (fun w B _ _ => rel_equal ka na kb nb sa sb w)
    · rw [if_neg h11, if_pos hk]
      exact binary_miss eqAt op ka na kb nb sa sb w hB ha0 hb0 (fun w hB => binaries_apart ka kb na nb sa sb w hB hma hmb ha hb hke) (fun w B h => by rw [look_eq w B h op, miss_eq op h11]; rfl)
end Go.Proofs.YtibjhcgfjhbgoaaGreatDoor.Va
