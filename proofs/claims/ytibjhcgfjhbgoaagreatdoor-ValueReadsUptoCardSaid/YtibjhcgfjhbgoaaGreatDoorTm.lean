/-
  Plain laws of the texts: a numeral is read again, quotes that were doubled are single again, the text of a right value is read as this value.
-/
import Derived.Test.YtibjhcgfjhbgoaaGreatDoorVp
import Derived.Lib.Replace
import Derived.Lib.ItoaNum
import Derived.Lib.ItoaLen
import Derived.Lib.AtoiAll
namespace Go.Proofs.YtibjhcgfjhbgoaaGreatDoor.Va
open Go Go.RowKit Mp

theorem bytes_of_list {a b : ByteArray} (h : a.data.toList = b.data.toList) : a = b := WideShapes.bytes_inj h
theorem bs_list (l : List UInt8) : (bs l).data.toList = l := by unfold bs; simp
theorem bs_size (l : List UInt8) : (bs l).size = l.length := by
  exact (show (bs l).size = (bs l).data.toList.length from Array.length_toList.symm).trans (by rw [bs_list])
theorem bs_of (s : ByteArray) : bs s.data.toList = s := bytes_of_list (bs_list _)
/-! Replacing -/
theorem ra_eq (s old new : List UInt8) (hn : (old == new) = false) : Lib.replaceAll s old new = Lib.replaceK old new (Lib.count s old) s := by
  unfold Lib.replaceAll Lib.replace Lib.replaceNum
  rw [if_neg (by rw [hn]; decide), if_pos (.inl (by decide))]
theorem ra_miss (s old new : List UInt8) (hn : (old == new) = false) (h : Lib.index s old = -1) : Lib.replaceAll s old new = s := by
  rw [ra_eq s old new hn, Lib.count_miss h]; rfl
theorem ra_hit (s old new : List UInt8) (hn : (old == new) = false) (ho : old ≠ []) (i : Nat) (h : Lib.index s old = i) : Lib.replaceAll s old new = s.take i ++ new ++ Lib.replaceAll (s.drop (i + old.length)) old new := by
  rw [ra_eq s old new hn, Lib.count_hit ho h, Nat.add_comm 1, Lib.replaceK_hit old new _ s i h, ra_eq _ old new hn]
theorem ra_skip (b : UInt8) (l old new : List UInt8) (hn : (old == new) = false) (ho : old ≠ []) (hp : old.isPrefixOf (b :: l) = false) : Lib.replaceAll (b :: l) old new = b :: Lib.replaceAll l old new := by
  have hi : Lib.index (b :: l) old = if Lib.index l old == -1 then -1 else Lib.index l old + 1 := by rw [Lib.index, hp]; simp
  by_cases hm : Lib.index l old = -1
  · rw [ra_miss (b :: l) old new hn (by rw [hi, if_pos (beq_iff_eq.2 hm)]), ra_miss l old new hn hm]
  · have hge := Lib.index_ge l old
    obtain ⟨j, hj⟩ : ∃ j : Nat, Lib.index l old = j := ⟨(Lib.index l old).toNat, by omega⟩
    have hi' : Lib.index (b :: l) old = ((j + 1 : Nat) : Int) := by rw [hi, if_neg (fun e => hm (beq_iff_eq.1 e)), hj]; omega
    rw [ra_hit (b :: l) old new hn ho (j + 1) hi', ra_hit l old new hn ho j hj]
    have e : j + 1 + old.length = (j + old.length) + 1 := by omega
    rw [e]; rfl
theorem ra_here (s old new : List UInt8) (hn : (old == new) = false) (ho : old ≠ []) (hp : old.isPrefixOf s = true) : Lib.replaceAll s old new = new ++ Lib.replaceAll (s.drop old.length) old new := by
  have hi : Lib.index s old = ((0 : Nat) : Int) := by
    cases s with
    | nil => cases old with
      | nil => exact absurd rfl ho
      | cons _ _ => simp [List.isPrefixOf] at hp
    | cons b l => rw [Lib.index, hp]; simp
  rw [ra_hit s old new hn ho 0 hi]; simp
/-- Quotes are doubled. -/
def quo : List UInt8 → List UInt8
  | [] => []
  | c :: l => if c = 39 then 39 :: 39 :: quo l else c :: quo l
theorem quo_snoc : ∀ (l : List UInt8) (c : UInt8), quo (l ++ [c]) = quo l ++ (if c = 39 then [39, 39] else [c])
  | [], c => by by_cases h : c = 39 <;> simp [quo, h]
  | b :: l, c => by
    have ih := quo_snoc l c
    by_cases h : b = 39 <;> simp [quo, h, ih]
theorem quo_len : ∀ l : List UInt8, l.length ≤ (quo l).length ∧ (quo l).length ≤ 2 * l.length
  | [] => by simp [quo]
  | c :: l => by
    have := quo_len l
    by_cases h : c = 39 <;> simp [quo, h] <;> omega
theorem quoted_eq : ∀ l : List UInt8, Lib.replaceAll l [39] [39, 39] = quo l
  | [] => by rw [ra_miss [] _ _ (by decide) (by decide)]; rfl
  | c :: l => by
    by_cases h : c = 39
    · subst h
      rw [ra_here (39 :: l) [39] [39, 39] (by decide) (by decide) (by simp [List.isPrefixOf])]
      simp [quo, quoted_eq l]
    · rw [ra_skip c l [39] [39, 39] (by decide) (by decide) (by simp [List.isPrefixOf]; exact fun e => h e.symm)]
      simp [quo, h, quoted_eq l]
theorem unquoted : ∀ l : List UInt8, Lib.replaceAll (quo l) [39, 39] [39] = l
  | [] => by rw [show quo [] = [] from rfl, ra_miss [] _ _ (by decide) (by decide)]
  | c :: l => by
    by_cases h : c = 39
    · subst h
      rw [show quo (39 :: l) = 39 :: 39 :: quo l by simp [quo], ra_here (39 :: 39 :: quo l) [39, 39] [39] (by decide) (by decide) (by simp [List.isPrefixOf])]
      simp [unquoted l]
    · rw [show quo (c :: l) = c :: quo l by simp [quo, h], ra_skip c (quo l) [39, 39] [39] (by decide) (by decide) (by simp [List.isPrefixOf]; intro e; exact absurd e.symm h), unquoted l]
theorem trim_end (l : List UInt8) : Lib.trimSuffix (l ++ [39]) [39] = l := by
  unfold Lib.trimSuffix Lib.hasSuffix
  rw [if_pos (by rw [List.isSuffixOf_iff_suffix]; exact List.suffix_append l [39])]
  simp
/-! Numerals -/
theorem dig_nat (d : Nat) (h : d < 10) : (UInt8.ofNat (48 + d)).toNat = 48 + d := by rw [UInt8.toNat_ofNat']; omega
theorem parse_snoc : ∀ (l : List UInt8) (acc v d : Nat), d < 10 → Lib.parseUint10 acc l = .ok v → v < 1844674407370955161 → Lib.parseUint10 acc (l ++ [UInt8.ofNat (48 + d)]) = .ok (v * 10 + d)
  | [], acc, v, d, hd, h, hv => by
    simp only [Lib.parseUint10] at h
    injection h with h
    subst h
    simp only [List.nil_append, Lib.parseUint10, dig_nat d hd]
    rw [if_pos (by omega), if_neg (by omega), if_neg (by omega)]
    congr 2; omega
  | c :: l, acc, v, d, hd, h, hv => by
    simp only [List.cons_append, Lib.parseUint10] at h ⊢
    by_cases h1 : 48 ≤ c.toNat ∧ c.toNat ≤ 57
    · rw [if_pos h1] at h ⊢
      by_cases h2 : 1844674407370955162 ≤ acc
      · rw [if_pos h2] at h; cases h
      · rw [if_neg h2] at h ⊢
        by_cases h3 : 18446744073709551616 ≤ acc * 10 + (c.toNat - 48)
        · rw [if_pos h3] at h; cases h
        · rw [if_neg h3] at h ⊢
          exact parse_snoc l _ v d hd h hv
    · rw [if_neg h1] at h; cases h
theorem dec_big {u : Nat} (h : ¬ u < 10) : Lib.decDigits u = Lib.decDigits (u / 10) ++ [UInt8.ofNat (48 + u % 10)] := by rw [Lib.decDigits, dif_neg h]
theorem parse_dec : ∀ (k u : Nat), u < k → u < 10000000000000000000 → Lib.parseUint10 0 (Lib.decDigits u) = .ok u
  | 0, _, h, _ => absurd h (Nat.not_lt_zero _)
  | k + 1, u, hk, hu => by
    by_cases h : u < 10
    · rw [Lib.decDigits_one h]
      have := parse_snoc [] 0 0 u h rfl (by decide)
      simpa using this
    · rw [dec_big h, parse_snoc (Lib.decDigits (u / 10)) 0 (u / 10) (u % 10) (by omega) (parse_dec k (u / 10) (by omega) (by omega)) (by omega)]
      congr 1; omega
theorem dec_ne (u : Nat) : Lib.decDigits u ≠ [] := by
  by_cases h : u < 10
  · rw [Lib.decDigits_one h]; simp
  · rw [dec_big h]; simp
theorem dec_digit : ∀ (k u : Nat), u < k → ∀ c, c ∈ Lib.decDigits u → 48 ≤ c.toNat ∧ c.toNat ≤ 57
  | 0, _, h, _, _ => absurd h (Nat.not_lt_zero _)
  | k + 1, u, hk, c, hc => by
    by_cases h : u < 10
    · rw [Lib.decDigits_one h] at hc
      obtain rfl := List.mem_singleton.1 hc
      rw [dig_nat u h]; omega
    · rw [dec_big h] at hc
      rcases List.mem_append.1 hc with hc | hc
      · exact dec_digit k (u / 10) (by omega) c hc
      · obtain rfl := List.mem_singleton.1 hc
        rw [dig_nat (u % 10) (by omega)]; omega
theorem atoi_of {l : List UInt8} {u : Nat} (hne : l ≠ []) (hd : ∀ c, c ∈ l → 48 ≤ c.toNat ∧ c.toNat ≤ 57) (hp : Lib.parseUint10 0 l = .ok u) (hu : u < 9223372036854775808) : Lib.atoiAll l = .ok u := by
  cases l with
  | nil => exact absurd rfl hne
  | cons c r =>
    have h1 := hd c (List.mem_cons_self ..)
    unfold Lib.atoiAll
    simp only
    rw [if_neg (by omega)]
    unfold Lib.parseMag
    rw [if_neg (by simp), hp]
    simp only
    rw [if_neg (by omega), if_neg (by omega), if_neg (by omega)]
theorem atoi_neg {l : List UInt8} {u : Nat} (hne : l ≠ []) (hp : Lib.parseUint10 0 l = .ok u) (hu : u < 9223372036854775808) : Lib.atoiAll (45 :: l) = .ok (-(u : Int)) := by
  unfold Lib.atoiAll
  simp only
  rw [if_pos (.inr (by decide))]
  unfold Lib.parseMag
  rw [if_neg hne, hp]
  simp only
  rw [if_neg (by simp), if_neg (by omega), if_pos (by decide)]
theorem atoi_itoa (n : Int) (h1 : -1000000000000000 ≤ n) (h2 : n ≤ 1000000000000000) : Lib.atoiAll (Lib.itoa n) = .ok n := by
  unfold Lib.itoa
  by_cases h : n < 0
  · rw [if_pos h, atoi_neg (dec_ne _) (parse_dec _ n.natAbs (Nat.lt_succ_self _) (by omega)) (by omega)]
    congr 1; omega
  · rw [if_neg h, atoi_of (dec_ne _) (dec_digit _ _ (Nat.lt_succ_self _)) (parse_dec _ n.toNat (Nat.lt_succ_self _) (by omega)) (by omega)]
    congr 1; omega
/-- What a numeral begins with. -/
theorem itoa_head (n : Int) : ∃ c r, Lib.itoa n = c :: r ∧ (c = 45 ∨ 48 ≤ c.toNat ∧ c.toNat ≤ 57) := by
  unfold Lib.itoa
  by_cases h : n < 0
  · rw [if_pos h]; exact ⟨45, _, rfl, .inl rfl⟩
  · rw [if_neg h]
    cases e : Lib.decDigits n.toNat with
    | nil => exact absurd e (dec_ne _)
    | cons c r => exact ⟨c, r, rfl, .inr (dec_digit _ _ (Nat.lt_succ_self _) c (by rw [e]; exact List.mem_cons_self ..))⟩
end Go.Proofs.YtibjhcgfjhbgoaaGreatDoor.Va
