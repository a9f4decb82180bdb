/-
  What the reference's Read computes, as plain functions; it is what package value's Read computes.
-/
import Derived.Test.YtibjhcgfjhbgoaaGreatDoorTl
namespace Go.Proofs.YtibjhcgfjhbgoaaGreatDoor.Va
open Go Go.RowKit Mp

def digB (c : UInt8) : Bool := decide (48 ≤ (c.toNat : Int)) && decide ((c.toNat : Int) ≤ 57)
def numStep (n : Nat) (c : UInt8) : Nat := if digB c = true then 10 * n + (c.toNat - 48) else n
def numAbs (l : List UInt8) : Nat := (l.take 18).foldl numStep 0
def num (l : List UInt8) : Int := if l.head? = some 45 then -(numAbs l : Int) else numAbs l
theorem digB_iff (c : UInt8) : digB c = true ↔ 48 ≤ c.toNat ∧ c.toNat ≤ 57 := by unfold digB; simp; omega
theorem fold_lt : ∀ (l : List UInt8) (n k : Nat), n < 10 ^ k → l.foldl numStep n < 10 ^ (k + l.length)
  | [], n, k, h => by simpa using h
  | c :: l, n, k, h => by
    have h1 : numStep n c < 10 ^ (k + 1) := by
      unfold numStep
      have := Nat.pow_succ 10 k
      split
      · next hd => have := (digB_iff c).1 hd; omega
      · omega
    have h2 := fold_lt l (numStep n c) (k + 1) h1
    rw [List.foldl_cons, List.length_cons, show k + (l.length + 1) = k + 1 + l.length by omega]
    exact h2
theorem fold_bd (l : List UInt8) (h : l.length ≤ 18) : l.foldl numStep 0 < 1000000000000000000 := by
  have h1 := fold_lt l 0 0 (by decide)
  have h2 : 10 ^ (0 + l.length) ≤ 10 ^ 18 := Nat.pow_le_pow_right (by decide) (by omega)
  have h3 : (10 : Nat) ^ 18 = 1000000000000000000 := by decide
  omega
theorem numAbs_bd (l : List UInt8) : numAbs l < 1000000000000000000 := fold_bd _ (by rw [List.length_take]; omega)
theorem fold_dec : ∀ (k u : Nat), u < k → (Lib.decDigits u).foldl numStep 0 = u
  | 0, _, h => absurd h (Nat.not_lt_zero _)
  | k + 1, u, hk => by
    have step : ∀ n d : Nat, d < 10 → numStep n (UInt8.ofNat (48 + d)) = 10 * n + d := by
      intro n d hd
      unfold numStep
      rw [if_pos ((digB_iff _).2 (by rw [dig_nat d hd]; omega)), dig_nat d hd]; omega
    by_cases h : u < 10
    · rw [Lib.decDigits_one h]
      show numStep 0 _ = u
      rw [step 0 u h]; omega
    · rw [dec_big h, List.foldl_append, fold_dec k (u / 10) (by omega)]
      show numStep (u / 10) _ = u
      rw [step _ _ (Nat.mod_lt _ (by decide))]; omega
theorem dec_len : ∀ (k u : Nat), u < 10 ^ k → 1 ≤ k → (Lib.decDigits u).length ≤ k
  | 0, _, _, h => absurd h (by decide)
  | k + 1, u, hu, _ => by
    by_cases h : u < 10
    · rw [Lib.decDigits_one h]; simp
    · have hp := Nat.pow_succ 10 k
      have hk : 1 ≤ k := by
        cases k with
        | zero => simp at hu; omega
        | succ k => omega
      rw [dec_big h, List.length_append]
      have := dec_len k (u / 10) (by omega) hk
      simp; omega
theorem num_itoa (n : Int) (h1 : -1000000000000000 ≤ n) (h2 : n ≤ 1000000000000000) : num (Lib.itoa n) = n := by
  have hl : ∀ u : Nat, u ≤ 1000000000000000 → (Lib.decDigits u).length ≤ 16 := fun u hu => dec_len 16 u (by omega) (by decide)
  unfold num numAbs Lib.itoa
  by_cases h : n < 0
  · rw [if_pos h]
    have := hl n.natAbs (by omega)
    rw [List.take_of_length_le (by rw [List.length_cons]; omega), if_pos (show (45 :: Lib.decDigits n.natAbs).head? = some 45 from rfl)]
    have e : List.foldl numStep 0 (45 :: Lib.decDigits n.natAbs) = n.natAbs := by
      rw [List.foldl_cons, show numStep 0 45 = 0 by decide]
      exact fold_dec _ n.natAbs (Nat.lt_succ_self _)
    rw [e]
    omega
  · rw [if_neg h]
    have := hl n.toNat (by omega)
    rw [List.take_of_length_le (by omega), fold_dec _ n.toNat (Nat.lt_succ_self _), if_neg]
    · omega
    · intro e
      have := dec_digit _ _ (Nat.lt_succ_self n.toNat) 45 (List.mem_of_mem_head? (by rw [e]; rfl))
      revert this; decide
/-- Between the first and the last byte, doubled quotes single. -/
def innL : List UInt8 → List UInt8
  | [] => []
  | [_] => []
  | c :: d :: r => c :: (if c = 39 then innL r else innL (d :: r))
theorem innL_quo : ∀ l : List UInt8, innL (quo l ++ [39]) = l
  | [] => rfl
  | c :: l => by
    have ih := innL_quo l
    by_cases h : c = 39
    · subst h
      rw [show quo (39 :: l) = 39 :: 39 :: quo l by simp [quo]]
      show innL (39 :: 39 :: (quo l ++ [39])) = _
      unfold innL
      rw [if_pos rfl, ih]
    · rw [show quo (c :: l) = c :: quo l by simp [quo, h]]
      show innL (c :: (quo l ++ [39])) = _
      cases e : quo l ++ [39] with
      | nil => simp at e
      | cons d r =>
        unfold innL
        rw [if_neg h, ← e, ih]
def cands (s : List UInt8) : List V3 := [(1, 0, es), (2, 0, es), (2, 1, es), (3, num s, es), (4, 0, bs (innL (s.drop 1)))]
def pick3 (s : List UInt8) (v : V3) : Bool := !s.isEmpty && (lit3 v == s)
def find3 (s : List UInt8) (l : List V3) : V3 × Bool := match l.find? (pick3 s) with | some v => (v, true) | none => (z3, false)
def rl3 (s : List UInt8) : V3 × Bool := find3 s (cands s)
theorem find3_yes {s : List UInt8} {v : V3} {l : List V3} (h : pick3 s v = true) : find3 s (v :: l) = (v, true) := by unfold find3; rw [List.find?_cons, h]
theorem find3_no {s : List UInt8} {v : V3} {l : List V3} (h : pick3 s v = false) : find3 s (v :: l) = find3 s l := by unfold find3; rw [List.find?_cons, h]
theorem pick_right3 {s : List UInt8} {v : V3} (h : pick3 s v = true) : right3 v = true ∧ text3 v = s ∧ 1 ≤ v.1 ∧ v.1 ≤ 4 := by
  unfold pick3 lit3 at h
  simp only [Bool.and_eq_true, Bool.not_eq_true', beq_iff_eq] at h
  obtain ⟨h1, h2⟩ := h
  by_cases hk : 1 ≤ v.1 ∧ v.1 ≤ 4
  · rw [if_pos hk] at h2
    refine ⟨?_, h2, hk.1, hk.2⟩
    cases hr : right3 v
    · rw [text_no hr] at h2; rw [← h2] at h1; simp at h1
    · rfl
  · rw [if_neg hk] at h2; rw [← h2] at h1; simp at h1
theorem rl_sound (s : List UInt8) : ((rl3 s).2 = true ∧ right3 (rl3 s).1 = true ∧ text3 (rl3 s).1 = s ∧ 1 ≤ (rl3 s).1.1 ∧ (rl3 s).1.1 ≤ 4) ∨ rl3 s = (z3, false) := by
  unfold rl3 find3
  cases h : (cands s).find? (pick3 s) with
  | none => exact .inr rfl
  | some v => exact .inl ⟨rfl, pick_right3 (List.find?_some h)⟩
theorem cand_of (v : V3) (h : right3 v = true) (hk : 1 ≤ v.1 ∧ v.1 ≤ 4) : v ∈ cands (text3 v) := by
  obtain ⟨k, n, s⟩ := v
  unfold right3 at h
  simp only at h hk
  have hb := bnd_of h
  unfold bndB at hb
  simp only [decide_eq_true_eq] at hb
  rcases kinds_of h with ⟨rfl, rfl⟩ | ⟨rfl, rfl⟩ | ⟨rfl, rfl⟩ | ⟨rfl, rfl⟩ | rfl | ⟨rfl, rfl⟩ | ⟨rfl, rfl⟩
  · omega
  · obtain rfl : n = 0 := by omega
    simp [cands]
  · have hn : n = 0 ∨ n = 1 := by omega
    rcases hn with rfl | rfl <;> simp [cands]
  · rw [tx_3 h]
    unfold cands
    rw [num_itoa n (by omega) (by omega)]; simp
  · obtain rfl : n = 0 := by omega
    rw [tx_4 h]
    unfold cands
    rw [List.drop_one, List.tail_cons, innL_quo, bs_of]; simp
  · omega
  · omega
theorem rl_yes (v : V3) (h : right3 v = true) (hk : 1 ≤ v.1 ∧ v.1 ≤ 4) : rl3 (text3 v) = (v, true) := by
  have hp : pick3 (text3 v) v = true := by
    have hne := text_ne v h
    unfold pick3 lit3
    rw [if_pos hk]
    simpa using hne
  have hm := cand_of v h hk
  unfold rl3 find3
  cases e : (cands (text3 v)).find? (pick3 (text3 v)) with
  | none => exact absurd hp (by simpa using List.find?_eq_none.1 e v hm)
  | some u =>
    have hu := pick_right3 (List.find?_some e)
    rw [text_inj hu.1 h hu.2.1]
def unsetL : List UInt8 := [117, 110, 115, 101, 116]
def rr3 (s : List UInt8) : V3 × Bool :=
  if (rl3 s).2 = true then ((rl3 s).1, true)
  else if s = unsetL then (z3, true)
  else if s.length < 2 then (z3, false)
  else if (rl3 (s.drop 1)).2 = false ∨ (rl3 (s.drop 1)).1.1 ≠ 3 then (z3, false)
  else if text3 (5, (rl3 (s.drop 1)).1.2.1, es) = s then ((5, (rl3 (s.drop 1)).1.2.1, es), true)
  else if text3 (6, (rl3 (s.drop 1)).1.2.1, es) = s then ((6, (rl3 (s.drop 1)).1.2.1, es), true)
  else (z3, false)
theorem right_z3 : right3 z3 = true := by decide +kernel
theorem rr_none (s : List UInt8) (h : ∀ v, right3 v = true → text3 v ≠ s) : rr3 s = (z3, false) := by
  have hr : ∀ v, text3 v = s → s ≠ [] → False := by
    intro v e hs
    cases hv : right3 v
    · rw [text_no hv] at e; exact hs e.symm
    · exact h v hv e
  unfold rr3
  rcases rl_sound s with ⟨_, h1, h2, _⟩ | h1
  · exact absurd h2 (h _ h1)
  rw [h1, if_neg (by decide), if_neg (fun e => h z3 right_z3 (by rw [e]; exact text_z3))]
  by_cases hl : s.length < 2
  · rw [if_pos hl]
  rw [if_neg hl]
  have hs : s ≠ [] := fun e => hl (by rw [e]; decide)
  by_cases hn : (rl3 (s.drop 1)).2 = false ∨ (rl3 (s.drop 1)).1.1 ≠ 3
  · rw [if_pos hn]
  · rw [if_neg hn, if_neg (fun e => hr _ e hs), if_neg (fun e => hr _ e hs)]
theorem rl_apart (v : V3) (h : right3 v = true) (hk : ¬ (1 ≤ v.1 ∧ v.1 ≤ 4)) : rl3 (text3 v) = (z3, false) := by
  rcases rl_sound (text3 v) with ⟨_, h1, h2, h3⟩ | h1
  · rw [text_inj h1 h h2] at h3; exact absurd h3 hk
  · exact h1
theorem num_right {k n : Int} (h : rightB k n es = true) (hk : k = 5 ∨ k = 6) : right3 (3, n, es) = true := by
  have hb := bnd_of h
  unfold bndB at hb
  simp only [decide_eq_true_eq] at hb
  have hk' := hk
  unfold right3
  rw [right_e 3 n es (by decide)]
  unfold bndB; simp [es]; omega
theorem rr_some (v : V3) (h : right3 v = true) : rr3 (text3 v) = (v, true) := by
  by_cases hk : 1 ≤ v.1 ∧ v.1 ≤ 4
  · unfold rr3; rw [rl_yes v h hk, if_pos rfl]
  have ha := rl_apart v h hk
  obtain ⟨k, n, s⟩ := v
  have h' : rightB k n s = true := h
  simp only at hk
  unfold rr3
  rw [ha, if_neg (by decide)]
  rcases kinds_of h' with ⟨rfl, rfl⟩ | ⟨rfl, rfl⟩ | ⟨rfl, rfl⟩ | ⟨rfl, rfl⟩ | rfl | ⟨rfl, rfl⟩ | ⟨rfl, rfl⟩
  · have hb := bnd_of h'
    unfold bndB at hb
    simp only [decide_eq_true_eq] at hb
    obtain rfl : n = 0 := by omega
    rw [if_pos (show text3 (0, 0, es) = unsetL from tx_0 h')]; rfl
  · omega
  · omega
  · omega
  · omega
  · have hn : right3 (3, n, es) = true := num_right h' (.inl rfl)
    have hl := rl_yes (3, n, es) hn ⟨by simp, by simp⟩
    rw [show text3 (3, n, es) = Lib.itoa n from tx_3 hn] at hl
    obtain ⟨c, r, e, _⟩ := itoa_head n
    rw [tx_5 h', if_neg (show 64 :: Lib.itoa n ≠ unsetL from head_ne (by decide)), if_neg (by rw [e]; simp), List.drop_one, List.tail_cons, hl, if_neg (by simp)]
    simp only
    rw [tx_5 h', if_pos rfl]
  · have hn : right3 (3, n, es) = true := num_right h' (.inr rfl)
    have hl := rl_yes (3, n, es) hn ⟨by simp, by simp⟩
    rw [show text3 (3, n, es) = Lib.itoa n from tx_3 hn] at hl
    obtain ⟨c, r, e, _⟩ := itoa_head n
    rw [tx_6 h', if_neg (show 38 :: Lib.itoa n ≠ unsetL from head_ne (by decide)), if_neg (by rw [e]; simp), List.drop_one, List.tail_cons, hl, if_neg (by simp)]
    simp only
    rw [if_neg, tx_6 h', if_pos rfl]
    intro e5
    cases hr : right3 (5, n, es)
    · rw [text_no hr] at e5; simp at e5
    · rw [tx_5 hr] at e5; simp at e5
theorem rr_eq (s : ByteArray) : rr3 s.data.toList = read3 s := by
  by_cases h : ∃ v, right3 v = true ∧ text3 v = s.data.toList
  · obtain ⟨v, hv, e⟩ := h
    rw [← e, rr_some v hv, ← bs_of s, ← e, read_text v, if_pos hv]
  · have hn : ∀ v, right3 v = true → text3 v ≠ s.data.toList := fun v hv e => h ⟨v, hv, e⟩
    rw [rr_none _ hn]
    unfold read3
    rw [if_neg]
    intro hs
    unfold same at hs
    rw [bs_list, beq_iff_eq] at hs
    cases hr : right3 (guess3 s)
    · rw [text_no hr] at hs
      have e : s = bs [] := by rw [← bs_of s, ← hs]
      rw [e, guess_none] at hr
      rw [right_z3] at hr
      cases hr
    · exact hn _ hr hs
end Go.Proofs.YtibjhcgfjhbgoaaGreatDoor.Va
