/-
  The reference's Decimal.
  The reference's text of a tree: mathematics.
  The reference's text of a tree: the walk.
-/
import Derived.Test.YtjodmjadpooipaaGreatDoorMa
import Derived.Test.YtjodmjadpooipaaGreatDoorMg
import Derived.Test.YtjodmjadpooipaaGreatDoorTe
namespace Go.Proofs.YtjodmjadpooipaaGreatDoor.Sh
open Go Go.RowKit

theorem bsL_app (a b : List UInt8) : bsL a ++ bsL b = bsL (a ++ b) := by
  apply ByteArray.ext
  simp [bsL, ByteArray.data_append]
theorem bsL_size (a : List UInt8) : (bsL a).size = a.length := by show a.toArray.size = _; rw [List.size_toArray]
theorem digits_lt {n : Nat} (h : n < 10) : digits n = [UInt8.ofNat (48 + n)] := by rw [← digits_dec, Lib.decDigits, dif_pos h]
theorem digits_ge {n : Nat} (h : ¬ n < 10) : digits n = digits (n / 10) ++ [UInt8.ofNat (48 + n % 10)] := by rw [← digits_dec, ← digits_dec, Lib.decDigits, dif_neg h]
theorem digits_len (n : Nat) (h : n ≤ 65536) : (digits n).length ≤ 21 := by
  rw [← itoa_nat]; exact Lib.itoa_length_le (n : Int) (by omega) (by omega)
end Go.Proofs.YtjodmjadpooipaaGreatDoor.Sh
namespace Go.Proofs.YtjodmjadpooipaaGreatDoor.Sh
open Go Go.RowKit

/-- Some of a list, written behind a text. -/
def catL {α : Type} (f : α → List UInt8) (b : List UInt8) (l : List α) (k : Nat) : List UInt8 := b ++ (l.take k).flatMap f
theorem catL_zero {α : Type} (f : α → List UInt8) (b : List UInt8) (l : List α) : catL f b l 0 = b := by simp [catL]
theorem catL_next {α : Type} (f : α → List UInt8) (b : List UInt8) {l : List α} {k : Nat} {x : α} (h : l[k]? = some x) : catL f b l (k + 1) = catL f b l k ++ f x := by
  obtain ⟨hk, e⟩ := List.getElem?_eq_some_iff.1 h
  unfold catL
  rw [List.take_succ_eq_append_getElem hk, List.flatMap_append, List.flatMap_singleton, e, List.append_assoc]
theorem catL_all {α : Type} (f : α → List UInt8) (b : List UInt8) (l : List α) : catL f b l l.length = b ++ l.flatMap f := by unfold catL; rw [List.take_length]
theorem catL_len {α : Type} (f : α → List UInt8) (b : List UInt8) (l : List α) (c : Nat) (h : ∀ x ∈ l, (f x).length ≤ c) (k : Nat) (hk : k ≤ l.length) : (catL f b l k).length ≤ b.length + k * c := by
  induction k with
  | zero => rw [catL_zero]; omega
  | succ k ih =>
    have hk' : k < l.length := hk
    rw [catL_next f b (List.getElem?_eq_getElem hk'), List.length_append, Nat.add_mul]
    have h1 := ih (by omega)
    have h2 := h _ (List.getElem_mem hk')
    omega
def fR (r : Nat) : List UInt8 := 32 :: digits r
def fN (n : ByteArray) : List UInt8 := 32 :: n.data.toList
def fK (p : ByteArray × Nat) : List UInt8 := 32 :: p.1.data.toList ++ [58] ++ digits p.2
theorem bsL_of (n : ByteArray) : bsL n.data.toList = n := by
  apply ByteArray.ext
  simp [bsL]
theorem fN_eq : fN = fun n => 32 :: n.data.toList := rfl
theorem fK_eq : fK = fun p => 32 :: p.1.data.toList ++ [58] ++ digits p.2 := rfl
def rootsL (t : Tre) : List UInt8 := catL fR [114, 111, 111, 116, 115] t.roots t.roots.length ++ [10]
/-- The text up to shape k. -/
def T2 (t : Tre) (k : Nat) : List UInt8 := rootsL t ++ ((t.L.take k).mapIdx textSh).flatten
theorem T2_zero (t : Tre) : T2 t 0 = rootsL t := by simp [T2]
theorem T2_next (t : Tre) {k : Nat} (h : k < t.L.length) : T2 t (k + 1) = T2 t k ++ textSh k (t.sh k) := by
  unfold T2
  rw [List.take_succ_eq_append_getElem h, List.mapIdx_append, List.flatten_append, sh_lt h]
  simp [List.length_take, Nat.min_eq_left (Nat.le_of_lt h)]
theorem T2_all (t : Tre) : T2 t t.L.length = t.text := by
  unfold T2 rootsL Tre.text
  rw [List.take_length, catL_all]
  rfl
/-- A shape's line, in the pieces that are written. -/
theorem textSh_none {k : Nat} {x : Shp} (h : x.ali = none) : textSh k x = digits k ++ [32] ++ digits x.cls ++ x.names.flatMap fN ++ [32, 62] ++ x.links.flatMap fK ++ [10] := by
  unfold textSh
  rw [h]
  simp [fN_eq, fK_eq]
theorem textSh_some {k a : Nat} {x : Shp} (h : x.ali = some a) : textSh k x = digits k ++ [32] ++ digits x.cls ++ x.names.flatMap fN ++ [32, 61, 32] ++ digits a ++ [10] := by
  unfold textSh
  rw [h]
  simp [fN_eq]
theorem T2_len {t : Tre} {m : Nat} (hw : t.WF m) (hsz : ∀ s, ∀ x ∈ (t.sh s).names, x.size ≤ 1) (h64 : ∀ s, (t.sh s).names.length ≤ 200) (hs : Srt t) (k : Nat) (hk : k ≤ t.L.length) : (T2 t k).length ≤ 10000 + k * 2000001 := by
  have few := hw.few
  induction k with
  | zero =>
    rw [T2_zero]
    unfold rootsL
    have h1 := catL_len fR [114, 111, 111, 116, 115] t.roots 22 (fun r hr => by
      obtain ⟨j, hj, rfl⟩ := List.getElem_of_mem hr
      have h1 := (hw.ro j (by rw [← hw.rl]; exact hj)).1
      rw [List.getD_eq_getElem?_getD, List.getElem?_eq_getElem hj, Option.getD_some] at h1
      have := digits_len t.roots[j] (by omega)
      unfold fR
      simp only [List.length_cons]
      omega) t.roots.length (Nat.le_refl _)
    have h2 := m_few hw
    have h3 := hw.rl
    simp only [List.length_append, List.length_cons, List.length_nil] at h1 ⊢
    omega
  | succ k ih =>
    rw [T2_next t hk, List.length_append, ← text_row t k hk]
    have h1 := ih (by omega)
    have h2 := (rows_small hw hsz h64 hs (rowP t (trs t t.L.length) k) (List.mem_cons_of_mem _ (List.mem_map.2 ⟨k, List.mem_range.2 hk, rfl⟩))).2
    rw [List.length_append]
    simp only [List.length_cons, List.length_nil]
    omega
theorem links_form {w : World} {v : Value} {l : List (ByteArray × Nat)} (h : Links w v l) :
    ∃ A c, v = .slice A l.length c ∧ ∀ j q, l[j]? = some q → ∃ g, A = some ⟨g, 0, none⟩ ∧ w.cell? ⟨g, j * 2, none⟩ = some (.string q.1) ∧ w.cell? ⟨g, j * 2 + 1, none⟩ = some (.int .i64 q.2) := by
  obtain ⟨xs, o, hx⟩ := h
  rcases o.2 with ⟨rfl, h0⟩ | ⟨g, cap, cur, rfl, _⟩
  · exact ⟨none, 0, by rw [h0], fun j q hq => by have := (List.getElem?_eq_some_iff.1 hq).1; omega⟩
  · refine ⟨_, _, rfl, fun j q hq => ⟨g, rfl, ?_, ?_⟩⟩
    · have hj := (List.getElem?_eq_some_iff.1 hq).1
      rw [World.ownsRow.cellAt o (j * 2) (by omega)]; exact (hx j q hq).1
    · have hj := (List.getElem?_eq_some_iff.1 hq).1
      rw [World.ownsRow.cellAt o (j * 2 + 1) (by omega)]; exact (hx j q hq).2
theorem below_drawn {B : Nat} {w w' : World} (h : Below B w w') (k : Nat) : Below B w (w'.drewN k) := h.trans ⟨rfl, rfl, rfl, Nat.le_refl _, fun _ _ => rfl⟩
end Go.Proofs.YtjodmjadpooipaaGreatDoor.Sh
namespace Go.Proofs.YtjodmjadpooipaaGreatDoor.Sh
open Go Go.RowKit

end Go.Proofs.YtjodmjadpooipaaGreatDoor.Sh
