/-
  Contracts of the reference's Decimal and Quote.
-/
import Derived.Test.YtibjhcgfjhbgoaaGreatDoorTg
import Derived.Test.YtibjhcgfjhbgoaaGreatDoorSy
import Derived.Laws.IdiomStrings
import Derived.IntWalk
namespace Go.Proofs.YtibjhcgfjhbgoaaGreatDoor.Va
open Go Go.RowKit Mp

theorem conv0 (w : World) (x : Int) (c : UInt8) (hx : x = c.toNat) : (convert 56 9 (.slice (some ⟨w.heap.size, 0, none⟩) 1 1)).run Tryz.prog (w.alloc (.cells #[.int .u8 x] 5)) = .ok (.string ⟨#[c]⟩) (w.alloc (.cells #[.int .u8 x] 5)) := by
  refine run_convert_bytes_back _ 56 9 5 ⟨w.heap.size, 0, none⟩ 1 [c] Tryz.underlying56 Tryz.underlying5 Tryz.underlying9 fun j hj => ?_
  obtain rfl : j = 0 := by simpa using hj
  subst hx
  exact (Own.new w #[.int .u8 (c.toNat : Int)] 5).cell 0
/-- What is left of the digits of u when m of them are still to come, and s stands there. -/
def Dec (u m : Nat) (s : ByteArray) : Prop := (m = 0 ∧ s.data.toList = Lib.decDigits u) ∨ (m ≠ 0 ∧ Lib.decDigits m ++ s.data.toList = Lib.decDigits u)
theorem Dec.zero {u : Nat} {s : ByteArray} (h : Dec u 0 s) : s.data.toList = Lib.decDigits u := by
  rcases h with ⟨_, h⟩ | ⟨h, _⟩
  · exact h
  · exact absurd rfl h
theorem ret_str {a b : ByteArray} (h : a = b) : Ending.returned (.string a) = Ending.returned (.string b) := by rw [h]
theorem Dec.step {u m : Nat} {s : ByteArray} (h : Dec u m s) (hm : m ≠ 0) : Dec u (m / 10) (⟨#[UInt8.ofNat (48 + m % 10)]⟩ ++ s) := by
  rcases h with ⟨h, _⟩ | ⟨_, h⟩
  · exact absurd h hm
  have e : ((⟨#[UInt8.ofNat (48 + m % 10)]⟩ : ByteArray) ++ s).data.toList = UInt8.ofNat (48 + m % 10) :: s.data.toList := by simp
  by_cases h10 : m < 10
  · refine .inl ⟨by omega, ?_⟩
    rw [e, ← h, Lib.decDigits_one h10, Nat.mod_eq_of_lt h10]; rfl
  · refine .inr ⟨by omega, ?_⟩
    rw [e, ← h, dec_big h10]; simp
theorem Dec.len {u m : Nat} {s : ByteArray} (h : Dec u m s) (hu : u ≤ 1000000000000000) : s.size ≤ 30 := by
  have h1 := Lib.itoa_length_le (u : Int) (by omega) (by omega)
  unfold Lib.itoa at h1
  rw [if_neg (by omega)] at h1
  simp only [Int.toNat_natCast] at h1
  have h2 : s.data.toList.length = s.size := Array.length_toList
  rcases h with ⟨_, h⟩ | ⟨_, h⟩
  · rw [h] at h2; omega
  · have h3 := congrArg List.length h
    rw [List.length_append] at h3; omega
set_option maxRecDepth 3000 in
theorem decimal_pos (u : Nat) (h0 : u ≠ 0) (hu : u ≤ 1000000000000000) (w : World) :
    Calls Tryz.prog 31 #[.int .i64 u] w fun e w' => e = .returned (.string (bs (Lib.decDigits u))) ∧ Below w.heap.size w w' := by
  have e0 : ((u : Int) == 0) = false := by simpa using h0
  have u0 : (0 : Int) ≤ u := by omega
  have u1 : (u : Int) ≤ 1000000000000000 := by omega
  go_enter Tryz.func31, Tryz.ntmps31
  go_wp2_with fail
  go_loopw [3, 4] (fun s m wr => ∃ (a : Nat) (t : ByteArray), a ≤ u ∧ s = .string t ∧ m = .int .i64 a ∧ Hid (Dec u a t) ∧ Hid (Below w.heap.size w wr)) (fun _ m _ => (intOf m).toNat)
  case atStart => exact ⟨u, ⟨#[]⟩, Nat.le_refl _, rfl, rfl, Lib.hid (.inr ⟨h0, by simp⟩), Lib.hid (Below.refl _ _)⟩
  case round =>
    obtain ⟨a, t, ha, rfl, rfl, hd, hB⟩ := hrel
    by_cases hz : a = 0
    · subst hz
      go_wp2_with fail
      go_ret
      exact ⟨ret_str (bytes_of_list (by rw [bs_list]; exact hd.out.zero)), hB.out⟩
    · have hne : ((a : Int) != 0) = true := by simpa using hz
      have a0 : (0 : Int) ≤ a := by omega
      have a1 : (a : Int) ≤ 1000000000000000 := by omega
      have ht := hd.out.len hu
      obtain ⟨c, hc⟩ : ∃ c : UInt8, c = UInt8.ofNat (48 + a % 10) := ⟨_, rfl⟩
      have hcv := conv0 wr (48 + (a : Int) % 10) c (by rw [hc, dig_nat _ (Nat.mod_lt _ (by decide))]; omega)
      have HC := Lib.hid hc
      clear hc
      go_wp2_with fail
      refine ⟨⟨a / 10, ⟨#[c]⟩ ++ t, by omega, rfl, by go_num, Lib.hid (by rw [HC.out]; exact hd.out.step hz), Lib.hid (hB.out.alloc (hB.out.size) _)⟩, ?_⟩
      simp [intOf]; omega
set_option maxRecDepth 3000 in
theorem decimal_neg (u : Nat) (h0 : u ≠ 0) (hu : u ≤ 1000000000000000) (w : World) :
    Calls Tryz.prog 31 #[.int .i64 (-(u : Int))] w fun e w' => e = .returned (.string (bs (45 :: Lib.decDigits u))) ∧ Below w.heap.size w w' := by
  have e0 : ((-(u : Int)) == 0) = false := by simpa using h0
  have u0 : (-(u : Int)) < 0 := by omega
  have u1 : (-1000000000000000 : Int) ≤ -(u : Int) := by omega
  go_enter Tryz.func31, Tryz.ntmps31
  go_wp2_with fail
  go_loopw [3, 4] (fun s m wr => ∃ (a : Nat) (t : ByteArray), a ≤ u ∧ s = .string t ∧ m = .int .i64 (-(a : Int)) ∧ Hid (Dec u a t) ∧ Hid (Below w.heap.size w wr)) (fun _ m _ => (-(intOf m)).toNat)
  case atStart => exact ⟨u, ⟨#[]⟩, Nat.le_refl _, rfl, rfl, Lib.hid (.inr ⟨h0, by simp⟩), Lib.hid (Below.refl _ _)⟩
  case round =>
    obtain ⟨a, t, ha, rfl, rfl, hd, hB⟩ := hrel
    have ht := hd.out.len hu
    by_cases hz : a = 0
    · subst hz
      go_wp2_with fail
      go_ret
      exact ⟨ret_str (bytes_of_list (by rw [bs_list]; have := hd.out.zero; simp [this])), hB.out⟩
    · have hne : ((-(a : Int)) != 0) = true := by simpa using hz
      have a0 : (-(a : Int)) ≤ 0 := by omega
      have a1 : (-1000000000000000 : Int) ≤ -(a : Int) := by omega
      obtain ⟨c, hc⟩ : ∃ c : UInt8, c = UInt8.ofNat (48 + a % 10) := ⟨_, rfl⟩
      have hx : (48 : Int) + (a : Int) % 10 = c.toNat := by rw [hc, dig_nat _ (Nat.mod_lt _ (by decide))]; omega
      have HC := Lib.hid hc
      clear hc
      by_cases h10 : 0 < (a : Int) % 10
      · have hcv := conv0 wr (48 + (a : Int) % 10) c hx
        clear hx
        go_wp2_with fail
        refine ⟨⟨a / 10, ⟨#[c]⟩ ++ t, by omega, rfl, by go_num, Lib.hid (by rw [HC.out]; exact hd.out.step hz), Lib.hid (hB.out.alloc (hB.out.size) _)⟩, ?_⟩
        simp [intOf]; omega
      · have h10' : (a : Int) % 10 = 0 := by omega
        have hcv := conv0 wr 48 c (by omega)
        clear hx h10
        go_wp2_with fail
        refine ⟨⟨a / 10, ⟨#[c]⟩ ++ t, by omega, rfl, by go_num, Lib.hid (by rw [HC.out]; exact hd.out.step hz), Lib.hid (hB.out.alloc (hB.out.size) _)⟩, ?_⟩
        simp [intOf]; omega
theorem decimal_any (n : Int) (h : -1000000000000000 ≤ n ∧ n ≤ 1000000000000000) (w : World) :
    Calls Tryz.prog 31 #[.int .i64 n] w fun e w' => e = .returned (.string (bs (Lib.itoa n))) ∧ Below w.heap.size w w' := by
  by_cases h0 : n = 0
  · subst h0
    go_enter Tryz.func31, Tryz.ntmps31
    go_wp2_with fail
    go_ret
    exact ⟨ret_str (bytes_of_list (by rw [bs_list]; decide +kernel)), Below.refl _ _⟩
  unfold Lib.itoa
  by_cases hn : n < 0
  · obtain ⟨u, hu⟩ : ∃ u : Nat, n = -(u : Int) := ⟨n.natAbs, by omega⟩
    subst hu
    rw [if_pos hn, show (-(u : Int)).natAbs = u by omega]
    exact decimal_neg u (by omega) (by omega) w
  · obtain ⟨u, hu⟩ : ∃ u : Nat, n = (u : Int) := ⟨n.toNat, by omega⟩
    subst hu
    rw [if_neg hn, Int.toNat_natCast]
    exact decimal_pos u (by omega) (by omega) w
def Quo (s : ByteArray) (k : Nat) (t : ByteArray) : Prop := t.data.toList = 39 :: quo (s.data.toList.take k)
theorem Quo.len {s t : ByteArray} {k : Nat} (h : Quo s k t) (hs : s.size ≤ 200) : t.size ≤ 401 := by
  have h1 := congrArg List.length (show t.data.toList = _ from h)
  have h2 := (quo_len (s.data.toList.take k)).2
  have h3 : (s.data.toList.take k).length ≤ 200 := by rw [List.length_take]; have : s.data.toList.length = s.size := Array.length_toList; omega
  have h4 : t.data.toList.length = t.size := Array.length_toList
  rw [List.length_cons] at h1
  omega
theorem ext_one (s : ByteArray) (k : Nat) (h : k < s.size) : (s.extract k (k + 1)).data.toList = [s[k]] := by
  rw [Lib.extract_data, show k + 1 - k = 1 by omega, drop_data s k h]; rfl
theorem take_one (s : ByteArray) (k : Nat) (h : k < s.size) : s.data.toList.take (k + 1) = s.data.toList.take k ++ [s[k]] := by
  rw [List.take_succ_eq_append_getElem (by simpa using h)]; rfl
theorem Quo.one {s t : ByteArray} {k : Nat} (h : Quo s k t) (hk : k < s.size) (hc : s[k] ≠ 39) : Quo s (k + 1) (t ++ s.extract k (k + 1)) := by
  unfold Quo at h ⊢
  rw [ByteArray.data_append, Array.toList_append, h, ext_one s k hk, take_one s k hk, quo_snoc, if_neg hc]; rfl
theorem Quo.two {s t : ByteArray} {k : Nat} (h : Quo s k t) (hk : k < s.size) (hc : s[k] = 39) : Quo s (k + 1) (t ++ s.extract k (k + 1) ++ ⟨#[39]⟩) := by
  unfold Quo at h ⊢
  rw [ByteArray.data_append, Array.toList_append, ByteArray.data_append, Array.toList_append, h, ext_one s k hk, take_one s k hk, quo_snoc, if_pos hc, hc]; simp
set_option maxRecDepth 3000 in
theorem quote_any (s : ByteArray) (hs : s.size ≤ 200) (w : World) :
    Calls Tryz.prog 44 #[.string s] w fun e w' => e = .returned (.string (bs (39 :: (quo s.data.toList ++ [39])))) ∧ w = w' := by
  have hm : (s.size : Int) ≤ 200 := by omega
  go_enter Tryz.func44, Tryz.ntmps44
  go_wp2_with fail
  go_loop [3, 4] (fun o i => ∃ (k : Nat) (t : ByteArray), k ≤ s.size ∧ i = .int .i64 k ∧ o = .string t ∧ Hid (Quo s k t)) (fun _ i => s.size - (intOf i).toNat)
  case atStart => exact ⟨0, ⟨#[39]⟩, Nat.zero_le _, rfl, rfl, Lib.hid (by unfold Quo; simp [quo])⟩
  case round =>
    obtain ⟨k, t, hk, rfl, rfl, hq⟩ := hrel
    have ht := hq.out.len hs
    by_cases hlt : k < s.size
    · have i1 : (0 : Int) ≤ k := by omega
      have i2 : (k : Int) < s.size := by omega
      have i3 : (k : Int) + 1 ≤ s.size := by omega
      by_cases hc : s[k] = 39
      · have h1 := Lib.hid (hq.out.two hlt hc)
        have hb : ((s[k].toNat : Int) == 39) = true := by rw [hc]; rfl
        clear hc
        go_wp2_with fail
        go_round
        case rel => exact ⟨k + 1, _, by omega, by go_num, rfl, h1⟩
        case measure => simp [intOf]; omega
      · have h1 := Lib.hid (hq.out.one hlt hc)
        have hb : ((s[k].toNat : Int) == 39) = false := by
          simp only [beq_eq_false_iff_ne]
          exact fun h => hc (UInt8.toNat_inj.1 (by show s[k].toNat = 39; omega))
        clear hc
        go_wp2_with fail
        go_round
        case rel => exact ⟨k + 1, _, by omega, by go_num, rfl, h1⟩
        case measure => simp [intOf]; omega
    · obtain rfl : k = s.size := by omega
      go_wp2_with fail
      go_ret
      refine ⟨ret_str (bytes_of_list ?_), rfl⟩
      have h1 : t.data.toList = 39 :: quo (s.data.toList.take s.size) := hq.out
      have h2 : s.data.toList.take s.size = s.data.toList := List.take_of_length_le (by rw [show s.data.toList.length = s.size from Array.length_toList]; exact Nat.le_refl _)
      rw [bs_list, ByteArray.data_append, Array.toList_append, h1, h2]; rfl
end Go.Proofs.YtibjhcgfjhbgoaaGreatDoor.Va
