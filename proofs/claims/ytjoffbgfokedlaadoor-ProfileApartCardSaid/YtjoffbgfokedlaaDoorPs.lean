/-
  A profile and a place in boxes; the closure that calls Back; the examples of the chapter: the laws' sanity.
-/
import Derived.Test.YtjoffbgfokedlaaDoorPk
import Derived.Deep.RegionHeld3
namespace Go.Proofs.YtjoffbgfokedlaaDoor.Pf
open Go Go.RowKit

theorem digit_char (n : Nat) (h : n < 10) : UInt8.ofNat (Nat.digitChar n).toNat = UInt8.ofNat (48 + n) := by
  have : ∀ n : Fin 10, UInt8.ofNat (Nat.digitChar n.val).toNat = UInt8.ofNat (48 + n.val) := by decide
  exact this ⟨n, h⟩
def digits (n : Nat) : List UInt8 := (Nat.toDigits 10 n).map fun c => UInt8.ofNat c.toNat
theorem digits_dec (n : Nat) : Lib.decDigits n = digits n := by
  induction n using Nat.strongRecOn with
  | _ u ih =>
    unfold Lib.decDigits
    by_cases h : u < 10
    · rw [dif_pos h]
      unfold digits
      rw [Nat.toDigits_of_lt_base h, List.map_cons, List.map_nil, digit_char u h]
    · rw [dif_neg h, ih (u / 10) (by omega)]
      unfold digits
      have e := Nat.toDigits_append_toDigits (b := 10) (n := u / 10) (d := u % 10) (by omega) (by omega) (by omega)
      rw [show 10 * (u / 10) + u % 10 = u by omega] at e
      rw [← e, List.map_append, Nat.toDigits_of_lt_base (by omega : u % 10 < 10), List.map_cons, List.map_nil, digit_char _ (by omega)]
theorem num_is (n : Int) : numT n = if n < 0 then 45 :: digits n.natAbs else digits n.toNat := by
  unfold numT Lib.itoa
  rw [digits_dec, digits_dec]
/-- A block of the law's own, apart from the profile. -/
structure Own (F : Nat → Prop) (w : World) (b : Nat) (c : Array Value) (T : TypeId) : Prop where
  k : Bk w b c T
  f : ¬ F b
section
variable {K : Kit} {w0 w w' : World} {p n n' : Nat} {t t' : Pst} {F F' : Nat → Prop} {b : Nat} {c : Array Value} {T : TypeId}
theorem Own.low (h : Own F w b c T) (hb : Below w.heap.size w w') : Own F w' b c T := ⟨Bk.low hb h.k, h.f⟩
theorem Own.code (h : Own F w b c T) (k : Chg F w w') (s : Sub F F' w) : Own F' w' b c T :=
  ⟨by have h1 := h.k; unfold Bk at *; rw [k.block _ h.k.lt h.f]; exact h1, fun e => (s _ e).elim h.f (by have := h.k.lt; omega)⟩
theorem Own.alloc (h : Own F w b c T) (o : Obj) : Own F (w.alloc o) b c T := ⟨h.k.alloc o, h.f⟩
theorem Own.new (h : Tr K w0 w p t F n) (c : Array Value) (T : TypeId) : Own F (w.alloc (.cells c T)) w.heap.size c T := ⟨Bk.new w c T, fun e => Nat.lt_irrefl _ (K.lt h.h _ e)⟩
end
/-- Back again and again. -/
def itB (t : Pst) (a : Plc) : Nat → Pst
  | 0 => t
  | k + 1 => ((itB t a k).back a).2
set_option maxRecDepth 100000 in
set_option maxHeartbeats 2000000 in
theorem backs_any (K : Kit) (w0 w : World) (p : Nat) (t : Pst) (F : Nat → Prop) (n b1 b3 g m c : Nat) (a : Plc) (xs : List Bool) (cs : Array Value) (hm : xs.length = m) (hc : ∀ (j : Nat) x, xs[j]? = some x → cs[j]? = some (.bool x)) (h : Tr K w0 w p t F n) (h1 : Own F w b1 #[.pointer (some ⟨p, 0, none⟩)] 26) (h3 : Own F w b3 #[.int .i64 a.1, .int .i64 a.2] 43)
    (hg : Own F w g cs 4) (ha : okP a) (hn : n + m ≤ 1000) (hx : ∀ (k : Nat) x, xs[k]? = some x → ((itB t a k).back a).1 = x) :
    Calls Tryd.prog 27 #[.slice (some ⟨g, 0, none⟩) m c, .pointer (some ⟨b1, 0, none⟩), .pointer (some ⟨b3, 0, none⟩)] w fun e w' => ∃ F', e = .returned (.bool true) ∧ Tr K w0 w' p (itB t a m) F' (n + m) ∧ Chg F w w' ∧ Sub F F' w := by
  have TR := Lib.hid h
  have O1 := Lib.hid h1
  have O3 := Lib.hid h3
  have OG := Lib.hid hg
  have HC := Lib.hid hc
  have HX := Lib.hid hx
  have HA := Lib.hid ha
  have HM := Lib.hid hm
  have m0 : (m : Int) ≤ 1000 := by omega
  clear h h1 h3 hg hc hx ha hm
  go_enter Tryd.func27, Tryd.ntmps27
  go_wp2_with fail
  go_loopw [9] (fun i wr => ∃ (k : Nat) (F' : Nat → Prop), k ≤ m ∧ i = .int .i64 k ∧ Hid (Tr K w0 wr p (itB t a k) F' (n + k)) ∧ Hid (Chg F w wr ∧ Sub F F' w) ∧ Hid (Own F' wr b1 #[.pointer (some ⟨p, 0, none⟩)] 26) ∧ Hid (Own F' wr b3 #[.int .i64 a.1, .int .i64 a.2] 43) ∧ Hid (Own F' wr g cs 4)) (fun i _ => m - (intOf i).toNat)
  case atStart => exact ⟨0, F, by omega, rfl, TR, Lib.hid ⟨Chg.refl _ _, Sub.refl _ _⟩, O1, O3, OG⟩
  case round =>
    clear TR O1 O3 OG
    obtain ⟨k, F', hk, rfl, TR, CS, O1, O3, OG⟩ := hrel
    by_cases hlt : k < m
    · have hxs := List.getElem?_eq_getElem (l := xs) (i := k) (by rw [HM.out]; exact hlt)
      obtain ⟨x, hxe⟩ : ∃ x, xs[k]'(by rw [HM.out]; exact hlt) = x := ⟨_, rfl⟩
      rw [hxe] at hxs
      have c0 := OG.out.k.cell k (.bool x) (HC.out k x hxs)
      have c1 := O1.out.k.cell 0 (.pointer (some ⟨p, 0, none⟩)) rfl
      have c2 := O3.out.k.cell 0 (.int .i64 a.1) rfl
      have c3 := O3.out.k.cell 1 (.int .i64 a.2) rfl
      have BE := Lib.hid (show (itB t a k).back a = (x, itB t a (k + 1)) from Prod.ext (HX.out k x hxs) rfl)
      have hkm : (k : Int) < m := by omega
      have K1 := Lib.hid hlt
      clear hxs hxe
      go_wp2_with fail
      refine (back_at TR.out (by omega) HA.out BE.out).mono ?_
      rintro e w3 ⟨F2, rfl, ht, hc, hs⟩
      have T2 := Lib.hid ht
      have C2 := Lib.hid (show Chg F w w3 ∧ Sub F F2 w from ⟨CS.out.1.trans hc CS.out.2, fun b hb => (hs b hb).elim (CS.out.2 b) fun h => .inr (Nat.le_trans CS.out.1.size h)⟩)
      have P1 := Lib.hid (O1.out.code hc hs)
      have P3 := Lib.hid (O3.out.code hc hs)
      have PG := Lib.hid (OG.out.code hc hs)
      clear ht hc hs c0 c1 c2 c3 TR CS O1 O3 OG
      go_wp2_with fail
      go_roundw
      case rel => exact ⟨k + 1, F2, K1.out, by go_num, T2, C2, P1, P3, PG⟩
      case measure =>
        have := K1.out
        simp [intOf]; omega
    · obtain rfl : k = m := by omega
      go_wp2_with fail
      go_ret
      exact ⟨F', rfl, TR.out, CS.out.1, CS.out.2⟩
def aS : Plc := (1, 2)
def sA : Pst := itB (st0 2 1 3 2) aS 2
def sB : Pst := itB sA aS 4
def sC : Pst := (sB.left aS 5).2
def sD : Pst := (sC.left aS 5).2
def sE : Pst := sD.failed aS 30
def sF : Pst := itB sE aS 2
def sG : Pst := sF.failed aS 30
theorem qa : ∀ (k : Nat) x, [false, true][k]? = some x → ((itB (st0 2 1 3 2) aS k).back aS).1 = x := fun k x h => by
  rcases k with _ | _ | k
  · obtain rfl : false = x := by simpa using h
    kernel_rfl
  · obtain rfl : true = x := by simpa using h
    kernel_rfl
  · simp at h
theorem qb : ∀ (k : Nat) x, [false, false, false, true][k]? = some x → ((itB sA aS k).back aS).1 = x := fun k x h => by
  rcases k with _ | _ | _ | _ | k
  · obtain rfl : false = x := by simpa using h
    kernel_rfl
  · obtain rfl : false = x := by simpa using h
    kernel_rfl
  · obtain rfl : false = x := by simpa using h
    kernel_rfl
  · obtain rfl : true = x := by simpa using h
    kernel_rfl
  · simp at h
theorem qf : ∀ (k : Nat) x, [false, true][k]? = some x → ((itB sE aS k).back aS).1 = x := fun k x h => by
  rcases k with _ | _ | k
  · obtain rfl : false = x := by simpa using h
    kernel_rfl
  · obtain rfl : true = x := by simpa using h
    kernel_rfl
  · simp at h
theorem q1 : sA.tier aS = 1 := by kernel_rfl
theorem q2 : sB.tier aS = 2 := by kernel_rfl
theorem q3 : sB.left aS 5 = (false, sC) := by kernel_rfl
theorem q4 : sC.left aS 5 = (true, sD) := by kernel_rfl
theorem q5 : sD.tier aS = 1 := by kernel_rfl
theorem q6 : sE.tier aS = 0 := by kernel_rfl
theorem q7 : sG.tier aS = -1 := by kernel_rfl
theorem q8 : sG.D = [⟨aS, 1, tWarm ++ numT 1⟩, ⟨aS, 2, tHot ++ numT 3⟩, ⟨aS, 1, tExit ++ numT 5 ++ tLeft ++ numT 2 ++ tTimes⟩, ⟨aS, 0, tErr ++ numT 30⟩, ⟨aS, 1, tWarm ++ numT 1⟩, ⟨aS, -1, (tErr ++ numT 30) ++ tGiven⟩] := by kernel_rfl
theorem q9 : sG.L.map (fun q => (q.1, q.2.tier, q.2.calls, q.2.count, q.2.fails)) = [(aS, -1, 8, 0, 3)] := by kernel_rfl
def w1 : ByteArray := ⟨#[119, 97, 114, 109, 32, 49]⟩
def w2 : ByteArray := ⟨#[104, 111, 116, 32, 51]⟩
def w3 : ByteArray := ⟨#[101, 120, 105, 116, 32, 53, 32, 108, 101, 102, 116, 32, 50, 32, 116, 105, 109, 101, 115]⟩
def w4 : ByteArray := ⟨#[101, 114, 114, 111, 114, 32, 51, 48]⟩
def w6 : ByteArray := ⟨#[101, 114, 114, 111, 114, 32, 51, 48, 44, 32, 103, 105, 118, 101, 110, 32, 117, 112]⟩
def wT : ByteArray := ⟨#[49, 32, 50, 32, 45, 49, 32, 56, 32, 48, 32, 51, 10]⟩
theorem n0 : numT 0 = [48] := by rw [num_is]; kernel_rfl
theorem n1 : numT 1 = [49] := by rw [num_is]; kernel_rfl
theorem n2 : numT 2 = [50] := by rw [num_is]; kernel_rfl
theorem n3 : numT 3 = [51] := by rw [num_is]; kernel_rfl
theorem n5 : numT 5 = [53] := by rw [num_is]; kernel_rfl
theorem n8 : numT 8 = [56] := by rw [num_is]; kernel_rfl
theorem n30 : numT 30 = [51, 48] := by rw [num_is]; kernel_rfl
theorem nm : numT (-1) = [45, 49] := by rw [num_is]; kernel_rfl
theorem qw : sG.D.map (fun d => (d.plc, bsL d.why)) = [(aS, w1), (aS, w2), (aS, w3), (aS, w4), (aS, w1), (aS, w6)] := by
  rw [q8, n1, n2, n3, n5, n30]
  kernel_rfl
theorem line_is (q : Plc × Spot) : lineT q = numT q.1.1 ++ 32 :: (numT q.1.2 ++ 32 :: (numT q.2.tier ++ 32 :: (numT q.2.calls ++ 32 :: (numT q.2.count ++ 32 :: (numT q.2.fails ++ [10]))))) := rfl
theorem qt : sG.text = wT.data.toList := by
  have h : sG.text = (sG.L.map (fun q => (q.1, q.2.tier, q.2.calls, q.2.count, q.2.fails))).flatMap (fun q => numT q.1.1 ++ 32 :: (numT q.1.2 ++ 32 :: (numT q.2.1 ++ 32 :: (numT q.2.2.1 ++ 32 :: (numT q.2.2.2.1 ++ 32 :: (numT q.2.2.2.2 ++ [10])))))) := by
    unfold Pst.text
    rw [List.flatMap_map]
    rfl
  rw [h, q9]
  show numT 1 ++ 32 :: (numT 2 ++ 32 :: (numT (-1) ++ 32 :: (numT 8 ++ 32 :: (numT 0 ++ 32 :: (numT 3 ++ [10]))))) ++ [] = _
  rw [n1, n2, n3, n0, n8, nm]
  kernel_rfl
end Go.Proofs.YtjoffbgfokedlaaDoor.Pf
