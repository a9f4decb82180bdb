/-
  The reference's Decimal at numbers that are not negative.
-/
import Derived.Test.YtpgjmmlgaanelaaDoorCs
import Derived.Laws.IdiomStrings
import Derived.IntWalk
import Derived.WideShapes
import Derived.Lib.ItoaLen
import Derived.Lib.ItoaNum
namespace Go.Proofs.YtpgjmmlgaanelaaDoor.Ch
open Go Go.RowKit

def bsL (l : List UInt8) : ByteArray := ⟨l.toArray⟩
theorem bytes_of_list {a b : ByteArray} (h : a.data.toList = b.data.toList) : a = b := WideShapes.bytes_inj h
theorem bs_list (l : List UInt8) : (bsL l).data.toList = l := by unfold bsL; simp
theorem bsL_app (a b : List UInt8) : bsL a ++ bsL b = bsL (a ++ b) := bytes_of_list (by simp [bs_list])
theorem bsL_size (a : List UInt8) : (bsL a).size = a.length := by show a.toArray.size = _; rw [List.size_toArray]
theorem digit_char (n : Nat) (h : n < 10) : UInt8.ofNat (Nat.digitChar n).toNat = UInt8.ofNat (48 + n) := by
  have : ∀ n : Fin 10, UInt8.ofNat (Nat.digitChar n.val).toNat = UInt8.ofNat (48 + n.val) := by decide
  exact this ⟨n, h⟩
theorem digits_dec (n : Nat) : Lib.decDigits n = digits n := by
  induction n using Nat.strongRecOn with
  | _ u ih =>
    unfold Lib.decDigits
    by_cases h : u < 10
    · rw [dif_pos h]
      unfold digits
      rw [Nat.toDigits_of_lt_base h, List.map_cons, List.map_nil, digit_char u h]
    · rw [dif_neg h, ih (u / 10) (by omega)]
      unfold digits
      have e := Nat.toDigits_append_toDigits (b := 10) (n := u / 10) (d := u % 10) (by omega) (by omega) (by omega)
      rw [show 10 * (u / 10) + u % 10 = u by omega] at e
      rw [← e, List.map_append, Nat.toDigits_of_lt_base (by omega : u % 10 < 10), List.map_cons, List.map_nil, digit_char _ (by omega)]
theorem digits_lt {n : Nat} (h : n < 10) : digits n = [UInt8.ofNat (48 + n)] := by rw [← digits_dec, Lib.decDigits, dif_pos h]
theorem digits_ge {n : Nat} (h : ¬ n < 10) : digits n = digits (n / 10) ++ [UInt8.ofNat (48 + n % 10)] := by rw [← digits_dec, ← digits_dec, Lib.decDigits, dif_neg h]
theorem digits_len (n : Nat) (h : n ≤ 9223372036854775807) : (digits n).length ≤ 21 := by
  have h1 := Lib.itoa_length_le (n : Int) (by omega) (by omega)
  unfold Lib.itoa at h1
  rw [if_neg (by omega), Int.toNat_natCast, digits_dec] at h1
  exact h1
theorem dig_nat (n : Nat) (h : n < 10) : (UInt8.ofNat (48 + n)).toNat = 48 + n := by
  rw [UInt8.toNat_ofNat']; omega
theorem conv0 (w : World) (x : Int) (c : UInt8) (hx : x = c.toNat) : (convert 42 9 (.slice (some ⟨w.heap.size, 0, none⟩) 1 1)).run Tryd.prog (w.alloc (.cells #[.int .u8 x] 5)) = .ok (.string ⟨#[c]⟩) (w.alloc (.cells #[.int .u8 x] 5)) := by
  refine run_convert_bytes_back _ 42 9 5 ⟨w.heap.size, 0, none⟩ 1 [c] Tryd.underlying42 Tryd.underlying5 Tryd.underlying9 fun j hj => ?_
  obtain rfl : j = 0 := by simpa using hj
  subst hx
  exact (Bk.new w #[.int .u8 (c.toNat : Int)] 5).cell 0 _ rfl
/-- What is left of the digits of u when m of them are still to come, and s stands there. -/
def Dec (u m : Nat) (s : ByteArray) : Prop := (m = 0 ∧ s.data.toList = digits u) ∨ (m ≠ 0 ∧ digits m ++ s.data.toList = digits u)
theorem Dec.zero {u : Nat} {s : ByteArray} (h : Dec u 0 s) : s.data.toList = digits u := by
  rcases h with ⟨_, h⟩ | ⟨h, _⟩
  · exact h
  · exact absurd rfl h
theorem ret_str {a b : ByteArray} (h : a = b) : Ending.returned (.string a) = Ending.returned (.string b) := by rw [h]
theorem Dec.step {u m : Nat} {s : ByteArray} (h : Dec u m s) (hm : m ≠ 0) : Dec u (m / 10) (⟨#[UInt8.ofNat (48 + m % 10)]⟩ ++ s) := by
  rcases h with ⟨h, _⟩ | ⟨_, h⟩
  · exact absurd h hm
  have e : ((⟨#[UInt8.ofNat (48 + m % 10)]⟩ : ByteArray) ++ s).data.toList = UInt8.ofNat (48 + m % 10) :: s.data.toList := by simp
  by_cases h10 : m < 10
  · refine .inl ⟨by omega, ?_⟩
    rw [e, ← h, digits_lt h10, Nat.mod_eq_of_lt h10]; rfl
  · refine .inr ⟨by omega, ?_⟩
    rw [e, ← h, digits_ge h10]; simp
theorem Dec.len {u m : Nat} {s : ByteArray} (h : Dec u m s) (hu : u ≤ 9223372036854775807) : s.size ≤ 30 := by
  have h1 := digits_len u hu
  have h2 : s.data.toList.length = s.size := Array.length_toList
  rcases h with ⟨_, h⟩ | ⟨_, h⟩
  · rw [h] at h2; omega
  · have h3 := congrArg List.length h
    rw [List.length_append] at h3; omega
set_option maxRecDepth 3000 in
theorem ref_decimal (u : Nat) (hu : u ≤ 9223372036854775807) (w : World) :
    Calls Tryd.prog 38 #[.int .i64 u] w fun e w' => e = .returned (.string (bsL (digits u))) ∧ Below w.heap.size w w' := by
  by_cases h0 : u = 0
  · subst h0
    go_enter Tryd.func38, Tryd.ntmps38
    go_wp2_with fail
    go_ret
    exact ⟨ret_str (bytes_of_list (by rw [bs_list]; decide +kernel)), Below.refl _ _⟩
  have e0 : ((u : Int) == 0) = false := by simpa using h0
  have u0 : (0 : Int) ≤ u := by omega
  have u1 : (u : Int) ≤ 9223372036854775807 := by omega
  go_enter Tryd.func38, Tryd.ntmps38
  go_wp2_with fail
  go_loopw [3, 4] (fun s m wr => ∃ (a : Nat) (t : ByteArray), a ≤ u ∧ s = .string t ∧ m = .int .i64 a ∧ Hid (Dec u a t) ∧ Hid (Below w.heap.size w wr)) (fun _ m _ => (intOf m).toNat)
  case atStart => exact ⟨u, ⟨#[]⟩, Nat.le_refl _, rfl, rfl, Lib.hid (.inr ⟨h0, by simp⟩), Lib.hid (Below.refl _ _)⟩
  case round =>
    obtain ⟨a, t, ha, rfl, rfl, hd, hB⟩ := hrel
    by_cases hz : a = 0
    · subst hz
      go_wp2_with fail
      go_ret
      exact ⟨ret_str (bytes_of_list (by rw [bs_list]; exact hd.out.zero)), hB.out⟩
    · have hne : ((a : Int) != 0) = true := by simpa using hz
      have a0 : (0 : Int) ≤ a := by omega
      have a1 : (a : Int) ≤ 9223372036854775807 := by omega
      have ht := hd.out.len hu
      obtain ⟨c, hc⟩ : ∃ c : UInt8, c = UInt8.ofNat (48 + a % 10) := ⟨_, rfl⟩
      have hcv := conv0 wr (48 + (a : Int) % 10) c (by rw [hc, dig_nat _ (Nat.mod_lt _ (by decide))]; omega)
      have HC := Lib.hid hc
      clear hc
      go_wp2_with fail
      refine ⟨⟨a / 10, ⟨#[c]⟩ ++ t, by omega, rfl, by go_num, Lib.hid (by rw [HC.out]; exact hd.out.step hz), Lib.hid (hB.out.alloc (hB.out.size) _)⟩, ?_⟩
      simp [intOf]; omega
end Go.Proofs.YtpgjmmlgaanelaaDoor.Ch
