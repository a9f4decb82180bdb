/-
  Numbers as words; words joined by blanks.
-/
import Derived.Test.YtjoffbgfokedlaaDoorSa
import Derived.Test.YtjoffbgfokedlaaDoorShelf
import Derived.Lib.LaidTab
import Derived.Maps.AppendAt
import Derived.Lib.AppendIntMem
namespace Go.Proofs.YtjoffbgfokedlaaDoor.Pf
open Go Go.RowKit

theorem itoa_c (n : Int) (hn : I64 n) (w : World) (hG : Pw w) : Calls Tryd.prog 47 #[.int .i64 n] w fun e w' => e = .returned (.string (bsL (numT n))) ∧ Below w.heap.size w w' :=
  (Tryd.strconv_Itoa n hn.1 hn.2 w hG).mono fun _ _ ⟨h, k, os, hw⟩ => ⟨h, by rw [hw]; exact Lib.below_grow _ _ (Nat.le_refl _) _ _⟩
theorem join_c (g n c : Nat) (xs : List ByteArray) (y : List UInt8) (w : World) (hn : xs.length = n) (hb : ∀ j x, xs[j]? = some x → w.cell? ⟨g, j, none⟩ = some (.string x)) (hg : g < w.heap.size) (hc : n ≤ c) (hl : n ≤ 1000) (hy : Lib.join (xs.map (·.data.toList)) [32] = y) (hs : y.length ≤ 100000) :
    Calls Tryd.prog 46 #[.slice (some ⟨g, 0, none⟩) n c] w fun e w' => e = .returned (.string (bsL y)) ∧ Below w.heap.size w w' := by
  subst hn
  have J := Lib.hid (Tryd.strings_Join g 0 c xs ⟨#[32]⟩ w (fun j x hx => by rw [Nat.zero_add]; exact hb j x hx) hg (by omega) hc (by
    show (Lib.join (xs.map (·.data.toList)) [32]).length ≤ _
    rw [hy]; omega))
  have HY := Lib.hid hy
  clear hb hy
  go_enter Tryd.func46, Tryd.ntmps46
  go_wp2_with fail
  refine J.out.mono ?_
  rintro e w1 ⟨rfl, hB⟩
  have HB := Lib.hid hB
  clear hB
  go_wp2_with fail
  go_ret
  exact ⟨by rw [← HY.out]; rfl, HB.out⟩
def bWarm : ByteArray := ⟨#[119, 97, 114, 109]⟩
def bHot : ByteArray := ⟨#[104, 111, 116]⟩
def bExit : ByteArray := ⟨#[101, 120, 105, 116]⟩
def bLeft : ByteArray := ⟨#[108, 101, 102, 116]⟩
def bTimes : ByteArray := ⟨#[116, 105, 109, 101, 115]⟩
def bErr : ByteArray := ⟨#[101, 114, 114, 111, 114]⟩
/-- A word and another one. -/
theorem join_two (g : Nat) (x y : ByteArray) (l : List UInt8) (w : World) (hb : Bk w g #[.string x, .string y] 9) (hl : x.data.toList ++ 32 :: y.data.toList = l) (hs : l.length ≤ 100000) :
    Calls Tryd.prog 46 #[.slice (some ⟨g, 0, none⟩) 2 2] w fun e w' => e = .returned (.string (bsL l)) ∧ Below w.heap.size w w' :=
  join_c g 2 2 [x, y] l w rfl (fun j z hz => by
    rcases j with _ | _ | j
    · obtain rfl : x = z := by simpa using hz
      exact hb.cell 0 _ rfl
    · obtain rfl : y = z := by simpa using hz
      exact hb.cell 1 _ rfl
    · simp at hz) hb.lt (by omega) (by omega) (by rw [← hl]; simp [Lib.join_cons, Lib.joinTail]) hs
theorem join_five (g : Nat) (x y z u o : ByteArray) (l : List UInt8) (w : World) (hb : Bk w g #[.string x, .string y, .string z, .string u, .string o] 9) (hl : x.data.toList ++ 32 :: (y.data.toList ++ 32 :: (z.data.toList ++ 32 :: (u.data.toList ++ 32 :: o.data.toList))) = l) (hs : l.length ≤ 100000) :
    Calls Tryd.prog 46 #[.slice (some ⟨g, 0, none⟩) 5 5] w fun e w' => e = .returned (.string (bsL l)) ∧ Below w.heap.size w w' :=
  join_c g 5 5 [x, y, z, u, o] l w rfl (fun j q hq => by
    rcases j with _ | _ | _ | _ | _ | j
    · obtain rfl : x = q := by simpa using hq
      exact hb.cell 0 _ rfl
    · obtain rfl : y = q := by simpa using hq
      exact hb.cell 1 _ rfl
    · obtain rfl : z = q := by simpa using hq
      exact hb.cell 2 _ rfl
    · obtain rfl : u = q := by simpa using hq
      exact hb.cell 3 _ rfl
    · obtain rfl : o = q := by simpa using hq
      exact hb.cell 4 _ rfl
    · simp at hq) hb.lt (by omega) (by omega) (by rw [← hl]; simp [Lib.join_cons, Lib.joinTail]) hs
end Go.Proofs.YtjoffbgfokedlaaDoor.Pf
