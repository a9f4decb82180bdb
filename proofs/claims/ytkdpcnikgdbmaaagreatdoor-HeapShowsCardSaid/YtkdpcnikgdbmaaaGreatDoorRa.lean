/-
  What a program prints for a value: Show of the heap, and of the reference.
  Show of the landed heap.
  Show of the reference.
-/
import Derived.Test.YtkdpcnikgdbmaaaGreatDoorPb
import Derived.Lib.LaidTab
import Derived.Lib.AppendIntMem
namespace Go.Proofs.YtkdpcnikgdbmaaaGreatDoor.Hp
open Go Go.RowKit Go.Maps Go.Sort Go.Shelf Va

/-- The powers of ten lie as the text lays them. -/
def Pw (w : World) : Prop := Lib.TabIs Tryz.prog w "internal/strconv.uint64pow10" .u64 Lib.pow10Tab
theorem Pw.below {w w' : World} (h : Pw w) (hb : Below w.heap.size w w') : Pw w' := (Lib.tabBelow_of_tabIs h).on hb |>.here
def dig (n : Int) : ByteArray := ⟨(Lib.itoa n).toArray⟩
def sQ : ByteArray := ⟨#[63]⟩
def nameB (ns : List ByteArray) (n : Int) : ByteArray := if 0 ≤ n ∧ n < ns.length then ns.getD n.toNat ⟨#[]⟩ else sQ
theorem nameB_in {ns : List ByteArray} {k : Nat} {s : ByteArray} (h : ns[k]? = some s) : nameB ns k = s := by
  have hk := (List.getElem?_eq_some_iff.1 h).1
  unfold nameB
  rw [if_pos ⟨by omega, by omega⟩, List.getD_eq_getElem?_getD, Int.toNat_natCast, h]
  rfl
theorem nameB_out {ns : List ByteArray} {n : Int} (h : ¬ (0 ≤ n ∧ n < ns.length)) : nameB ns n = sQ := if_neg h
/-- A row of classes of which the names are read. -/
def ClsAt (w : World) (P : Nat → Prop) (A : Option Addr) (ns : List ByteArray) : Prop :=
  ∀ j x, ns[j]? = some x → ∃ b, A = some ⟨b, 0, none⟩ ∧ P b ∧ w.cell? ⟨b, j * 3, none⟩ = some (.string x)
theorem ClsAt.keep {w w' : World} {P Q : Nat → Prop} {A : Option Addr} {ns : List ByteArray} (h : ClsAt w P A ns) (hk : ∀ b, P b → Q b ∧ w'.heap[b]? = w.heap[b]?) : ClsAt w' Q A ns := fun j z hz => by
  obtain ⟨b, rfl, hb, hc⟩ := h j z hz
  exact ⟨b, rfl, (hk _ hb).1, (World.cell?_of_block (a := ⟨b, j * 3, none⟩) (hk _ hb).2).trans hc⟩
theorem nameOf_any (P : Nat → Prop) (A : Option Addr) (ns : List ByteArray) (n c : Nat) (i : Int) (w : World) (hn : ns.length = n) (h : SlS w P A ns) (hl : n ≤ 1000) :
    Calls Tryz.prog 75 #[.slice A n c, .int .i64 i] w fun e w' => e = .returned (.string (nameB ns i)) ∧ w = w' := by
  subst hn
  by_cases h0 : 0 ≤ i
  · by_cases h1 : i < ns.length
    · obtain ⟨k, rfl⟩ := Int.eq_ofNat_of_zero_le h0
      have hk : k < ns.length := by omega
      have hg := List.getElem?_eq_getElem hk
      rw [nameB_in hg]
      obtain ⟨b, o, rfl, _, x0⟩ := h k _ hg
      generalize ns[k] = s at *
      clear h hg
      go_enter Tryz.func75, Tryz.ntmps75
      go_wp2_with fail
      go_ret
      exact ⟨rfl, rfl⟩
    · rw [nameB_out (fun h => h1 h.2)]
      have h2 : (ns.length : Int) ≤ i := by omega
      clear h h1
      go_enter Tryz.func75, Tryz.ntmps75
      go_wp2_with fail
      go_ret
      exact ⟨rfl, rfl⟩
  · rw [nameB_out (fun h => h0 h.1)]
    have h2 : i < 0 := by omega
    clear h h0
    go_enter Tryz.func75, Tryz.ntmps75
    go_wp2_with fail
    go_ret
    exact ⟨rfl, rfl⟩
theorem refName_any (P : Nat → Prop) (A : Option Addr) (ns : List ByteArray) (n c : Nat) (i : Int) (w : World) (hn : ns.length = n) (h : SlS w P A ns) (hl : n ≤ 1000) :
    Calls Tryz.prog 78 #[.slice A n c, .int .i64 i] w fun e w' => e = .returned (.string (nameB ns i)) ∧ w = w' := by
  subst hn
  by_cases h0 : 0 ≤ i
  · by_cases h1 : i < ns.length
    · obtain ⟨k, rfl⟩ := Int.eq_ofNat_of_zero_le h0
      have hk : k < ns.length := by omega
      have hg := List.getElem?_eq_getElem hk
      rw [nameB_in hg]
      obtain ⟨b, o, rfl, _, x0⟩ := h k _ hg
      generalize ns[k] = s at *
      clear h hg
      go_enter Tryz.func78, Tryz.ntmps78
      go_wp2_with fail
      go_ret
      exact ⟨rfl, rfl⟩
    · rw [nameB_out (fun h => h1 h.2)]
      have h2 : (ns.length : Int) ≤ i := by omega
      clear h h1
      go_enter Tryz.func78, Tryz.ntmps78
      go_wp2_with fail
      go_ret
      exact ⟨rfl, rfl⟩
  · rw [nameB_out (fun h => h0 h.1)]
    have h2 : i < 0 := by omega
    clear h h0
    go_enter Tryz.func78, Tryz.ntmps78
    go_wp2_with fail
    go_ret
    exact ⟨rfl, rfl⟩
theorem className_any (P : Nat → Prop) (A : Option Addr) (ns : List ByteArray) (n c : Nat) (i : Int) (w : World) (hn : ns.length = n) (h : ClsAt w P A ns) (hl : n ≤ 1000) :
    Calls Tryz.prog 99 #[.slice A n c, .int .i64 i] w fun e w' => e = .returned (.string (nameB ns i)) ∧ w = w' := by
  subst hn
  by_cases h0 : 0 ≤ i
  · by_cases h1 : i < ns.length
    · obtain ⟨k, rfl⟩ := Int.eq_ofNat_of_zero_le h0
      have hk : k < ns.length := by omega
      have hg := List.getElem?_eq_getElem hk
      rw [nameB_in hg]
      obtain ⟨b, rfl, _, x0⟩ := h k _ hg
      generalize ns[k] = s at *
      clear h hg
      go_enter Tryz.func99, Tryz.ntmps99
      go_wp2_with fail
      go_ret
      exact ⟨rfl, rfl⟩
    · rw [nameB_out (fun h => h1 h.2)]
      have h2 : (ns.length : Int) ≤ i := by omega
      clear h h1
      go_enter Tryz.func99, Tryz.ntmps99
      go_wp2_with fail
      go_ret
      exact ⟨rfl, rfl⟩
  · rw [nameB_out (fun h => h0 h.1)]
    have h2 : i < 0 := by omega
    clear h h0
    go_enter Tryz.func99, Tryz.ntmps99
    go_wp2_with fail
    go_ret
    exact ⟨rfl, rfl⟩
def sTrue : ByteArray := ⟨#[116, 114, 117, 101]⟩
def sFalse : ByteArray := ⟨#[102, 97, 108, 115, 101]⟩
theorem fbIn_any (b : Bool) (w : World) : Calls Tryz.prog 97 #[.bool b] w fun e w' => e = .returned (.string (if b then sTrue else sFalse)) ∧ w = w' := by
  cases b
  · go_enter Tryz.func97, Tryz.ntmps97
    go_wp2_with fail
    go_ret
    exact ⟨rfl, rfl⟩
  · go_enter Tryz.func97, Tryz.ntmps97
    go_wp2_with fail
    go_ret
    exact ⟨rfl, rfl⟩
theorem fb_any (b : Bool) (w : World) : Calls Tryz.prog 73 #[.bool b] w fun e w' => e = .returned (.string (if b then sTrue else sFalse)) ∧ w = w' := by
  cases b
  all_goals
    go_enter Tryz.func73, Tryz.ntmps73
    go_wp2_with fail
    refine (fbIn_any _ w).mono ?_
    rintro e w2 ⟨rfl, rfl⟩
    go_wp2_with fail
    go_ret
    exact ⟨rfl, rfl⟩
theorem itoa_any (n : Int) (h : -10 ≤ n ∧ n ≤ 100) (w : World) (hG : Pw w) : Calls Tryz.prog 74 #[.int .i64 n] w fun e w' => e = .returned (.string (dig n)) ∧ Below w.heap.size w w' :=
  (Tryz.strconv_Itoa n (by omega) (by omega) w hG).mono fun _ _ ⟨h, k, os, hw⟩ => ⟨h, by rw [hw]; exact Lib.below_grow _ _ (Nat.le_refl _) _ _⟩
set_option maxHeartbeats 1000000 in
theorem decimal_any (n : Int) (h : -2 ≤ n ∧ n ≤ 6) (w : World) : Calls Tryz.prog 77 #[.int .i64 n] w fun e w' => e = .returned (.string (dig n)) ∧ w = w' := by
  rcases (show n = -2 ∨ n = -1 ∨ n = 0 ∨ n = 1 ∨ n = 2 ∨ n = 3 ∨ n = 4 ∨ n = 5 ∨ n = 6 by omega) with rfl | rfl | rfl | rfl | rfl | rfl | rfl | rfl | rfl
  all_goals
    go_enter Tryz.func77, Tryz.ntmps77
    go_wp2_with fail
    go_ret
    exact ⟨by kernel_rfl, rfl⟩
end Go.Proofs.YtkdpcnikgdbmaaaGreatDoor.Hp
namespace Go.Proofs.YtkdpcnikgdbmaaaGreatDoor.Hp
open Go Go.RowKit Go.Maps Go.Sort Go.Shelf Va

def sNone : ByteArray := ⟨#[110, 111, 110, 101]⟩
def sArr : ByteArray := ⟨#[97, 114, 114, 97, 121, 32]⟩
def sClo : ByteArray := ⟨#[99, 108, 111, 115, 117, 114, 101, 32]⟩
def sFun : ByteArray := ⟨#[60, 102, 117, 110, 32]⟩
def sLt : ByteArray := ⟨#[60]⟩
def sGt : ByteArray := ⟨#[62]⟩
def sNil : ByteArray := ⟨#[110, 105, 108]⟩
def cellB (ns : List ByteArray) (c : Cel) : ByteArray := if c.kind = 1 then nameB ns c.cls else if c.kind = 2 then sArr ++ dig c.items.length else if c.kind = 3 then sClo ++ nameB ns c.fn else sWeak
def descB (l : List Ent) (ns : List ByteArray) (v : Val) : ByteArray := match denC l v with
  | none => sNone
  | some c => cellB ns c
theorem nameB_size {ns : List ByteArray} (h : ∀ s ∈ ns, s.size ≤ 140737488351232) (n : Int) : (nameB ns n).size ≤ 140737488351232 := by
  unfold nameB
  split
  · rename_i hn
    have hk : n.toNat < ns.length := by omega
    rw [List.getD_eq_getElem?_getD, List.getElem?_eq_getElem hk]
    exact h _ (List.getElem_mem hk)
  · unfold sQ; simp only [ByteArray.size]; decide
theorem kind_of {c : Cel} (h : c.right = true) : c.kind = 1 ∨ c.kind = 2 ∨ c.kind = 3 ∨ c.kind = 4 := by
  unfold Cel.right at h
  rw [Bool.and_eq_true] at h
  obtain ⟨_, h⟩ := h
  by_cases h1 : c.kind = 1
  · exact .inl h1
  · by_cases h2 : c.kind = 2
    · exact .inr (.inl h2)
    · by_cases h3 : c.kind = 3
      · exact .inr (.inr (.inl h3))
      · by_cases h4 : c.kind = 4
        · exact .inr (.inr (.inr h4))
        · rw [if_neg h1, if_neg h2, if_neg h3, if_neg h4] at h; cases h
set_option maxHeartbeats 2000000 in
theorem describe_any (F P1 P2 : Nat → Prop) (p : Nat) (mb : Option Nat) (f : Int → Hd) (l : List Ent) (next : Int) (v : Val) (A1 A2 : Option Addr) (ns : List ByteArray) (n c1 c2 : Nat) (w : World) (H : HeapA w F p mb f l next) (hF : ∀ g, F g → g < w.heap.size) (hG : Pw w) (hid : I64 v.n) (hv : v.k = 5) (hf : Fine l next)
    (hn : ns.length = n) (hl : n ≤ 1000) (h1 : ClsAt w P1 A1 ns) (h2 : SlS w P2 A2 ns) (hP1 : ∀ b, P1 b → b < w.heap.size) (hP2 : ∀ b, P2 b → b < w.heap.size) (hs : ∀ s ∈ ns, s.size ≤ 140737488351232) :
    Calls Tryz.prog 76 #[.pointer (some ⟨p, 0, none⟩), .slice A1 n c1, .slice A2 n c2, valV v] w fun e w' => e = .returned (.string (descB l ns v)) ∧ Below w.heap.size w w' := by
  have DE := Lib.hid (fun (w' : World) (hb : Below w.heap.size w w') => denoted_any F p mb f l next v w' (fun g hg => Nat.lt_of_lt_of_le (hF g hg) hb.size) (H.low hF hb) hid)
  have CN := Lib.hid (fun (w' : World) (hb : Below w.heap.size w w') (i : Int) => className_any P1 A1 ns n c1 i w' hn (h1.keep fun b hb' => ⟨hb', hb.block b (hP1 b hb')⟩) hl)
  have NN := Lib.hid (fun (w' : World) (hb : Below w.heap.size w w') (i : Int) => nameOf_any P2 A2 ns n c2 i w' hn (h2.low hP2 hb) hl)
  have IT := Lib.hid (fun (w' : World) (hb : Below w.heap.size w w') (i : Int) (hi : -10 ≤ i ∧ i ≤ 100) => itoa_any i hi w' (hG.below hb))
  have SZ := Lib.hid (fun i => nameB_size hs i)
  have hden : descB l ns v = match denC l v with
    | none => sNone
    | some c => cellB ns c := rfl
  cases hd : denC l v with
  | none =>
    rw [hd] at hden
    simp only at hden
    rw [denC_none f hd] at DE
    have HD := Lib.hid hden
    obtain ⟨vk, vn, vs⟩ := v
    simp only at hv
    subst hv
    rw [HD.out]
    unfold valV at *
    simp only at DE ⊢
    clear H hF hid h1 h2 hP1 hP2 hs hden hd CN NN IT SZ HD hn hf hG
    go_enter Tryz.func76, Tryz.ntmps76
    go_wp2_with fail
    refine (DE.out _ (by (repeat' (first | exact Below.refl _ _ | refine Below.alloc ?_ (by simp <;> omega) _)))).mono ?_
    rintro e w2 ⟨rfl, hb⟩
    have HB := Lib.hid (Below.trans (by (repeat' (first | exact Below.refl _ _ | refine Below.alloc ?_ (by simp <;> omega) _)) : Below w.heap.size w _) (hb.mono (by simp)))
    clear hb DE
    go_wp2_with fail
    go_ret
    exact ⟨rfl, HB.out⟩
  | some c0 =>
    rw [hd] at hden
    simp only at hden
    have hlk : look l v.n = some c0 := by unfold denC at hd; rw [if_pos hv] at hd; exact hd
    have hm := look_some hlk
    rw [show denOf l f v = some ⟨(f v.n).b, 0, none⟩ by unfold denOf; rw [if_pos hv]; exact (H.of hm).1] at DE
    obtain ⟨B5, ic, B6, jc, e1, e2, -, -⟩ := (H.of hm).2.rows
    have bk := (H.of hm).2.blk
    unfold rowC at bk
    rw [e2] at bk
    have KC := Lib.hid (fun (w' : World) (hb : Below w.heap.size w w') => bk.low hb)
    have HD := Lib.hid hden
    have KN := kind_of (hf.ok _ hm).1
    have c3 := (hf.few _ hm).2
    simp only at KN c3
    obtain ⟨vk, vn, vs⟩ := v
    simp only at hv
    subst hv
    rw [HD.out]
    unfold valV at *
    simp only at DE KC ⊢
    generalize (f vn).b = cb at *
    generalize (f vn).N = NN0 at *
    clear H hF hid h1 h2 hP1 hP2 hs hden hd HD hn hf hm hlk bk e1 e2 hG
    unfold cellB
    obtain ⟨kind, cls, fn, ten, names, items⟩ := c0
    simp only at KN c3 KC ⊢
    rcases KN with rfl | rfl | rfl | rfl
    · rw [if_pos rfl]
      go_enter Tryz.func76, Tryz.ntmps76
      go_wp2_with fail
      refine (DE.out _ (by (repeat' (first | exact Below.refl _ _ | refine Below.alloc ?_ (by simp <;> omega) _)))).mono ?_
      rintro e w2 ⟨rfl, hb⟩
      have HB := Lib.hid (Below.trans (by (repeat' (first | exact Below.refl _ _ | refine Below.alloc ?_ (by simp <;> omega) _)) : Below w.heap.size w _) (hb.mono (by simp)))
      have k0 := (KC.out _ HB.out).cell 0 (.int .i64 1) rfl
      have k1 := (KC.out _ HB.out).cell 1 (.int .i64 cls) rfl
      clear hb DE KC
      go_wp2_with fail
      refine (CN.out _ HB.out cls).mono ?_
      rintro e w3 ⟨rfl, rfl⟩
      go_wp2_with fail
      go_ret
      exact ⟨rfl, HB.out⟩
    · rw [if_neg (by decide), if_pos rfl]
      go_enter Tryz.func76, Tryz.ntmps76
      go_wp2_with fail
      refine (DE.out _ (by (repeat' (first | exact Below.refl _ _ | refine Below.alloc ?_ (by simp <;> omega) _)))).mono ?_
      rintro e w2 ⟨rfl, hb⟩
      have HB := Lib.hid (Below.trans (by (repeat' (first | exact Below.refl _ _ | refine Below.alloc ?_ (by simp <;> omega) _)) : Below w.heap.size w _) (hb.mono (by simp)))
      have k0 := (KC.out _ HB.out).cell 0 (.int .i64 2) rfl
      have k5 := (KC.out _ HB.out).cell 5 _ rfl
      clear hb DE KC
      go_wp2_with fail
      refine (IT.out _ HB.out items.length (by omega)).mono ?_
      rintro e w3 ⟨rfl, hb3⟩
      have HB3 := Lib.hid (HB.out.trans (hb3.mono HB.out.size))
      have ds : (dig items.length).size ≤ 100 := by
        rcases (show items.length = 0 ∨ items.length = 1 ∨ items.length = 2 ∨ items.length = 3 by omega) with h | h | h | h <;> rw [h] <;> exact of_decide_eq_true (by kernel_rfl)
      have d9 : ¬ 9223372036854775807 < 6 + (dig items.length).size := by omega
      clear hb3
      go_wp2_with fail
      go_ret
      exact ⟨rfl, HB3.out⟩
    · rw [if_neg (by decide), if_neg (by decide), if_pos rfl]
      go_enter Tryz.func76, Tryz.ntmps76
      go_wp2_with fail
      refine (DE.out _ (by (repeat' (first | exact Below.refl _ _ | refine Below.alloc ?_ (by simp <;> omega) _)))).mono ?_
      rintro e w2 ⟨rfl, hb⟩
      have HB := Lib.hid (Below.trans (by (repeat' (first | exact Below.refl _ _ | refine Below.alloc ?_ (by simp <;> omega) _)) : Below w.heap.size w _) (hb.mono (by simp)))
      have k0 := (KC.out _ HB.out).cell 0 (.int .i64 3) rfl
      have k2 := (KC.out _ HB.out).cell 2 (.int .i64 fn) rfl
      clear hb DE KC
      go_wp2_with fail
      refine (NN.out _ HB.out fn).mono ?_
      rintro e w3 ⟨rfl, rfl⟩
      have ds := SZ.out fn
      have d9 : ¬ 9223372036854775807 < 8 + (nameB ns fn).size := by omega
      go_wp2_with fail
      go_ret
      exact ⟨rfl, HB.out⟩
    · rw [if_neg (by decide), if_neg (by decide), if_neg (by decide)]
      go_enter Tryz.func76, Tryz.ntmps76
      go_wp2_with fail
      refine (DE.out _ (by (repeat' (first | exact Below.refl _ _ | refine Below.alloc ?_ (by simp <;> omega) _)))).mono ?_
      rintro e w2 ⟨rfl, hb⟩
      have HB := Lib.hid (Below.trans (by (repeat' (first | exact Below.refl _ _ | refine Below.alloc ?_ (by simp <;> omega) _)) : Below w.heap.size w _) (hb.mono (by simp)))
      have k0 := (KC.out _ HB.out).cell 0 (.int .i64 4) rfl
      clear hb DE KC
      go_wp2_with fail
      go_ret
      exact ⟨rfl, HB.out⟩
/-- What is printed for a value. -/
def showB (l : List Ent) (ns : List ByteArray) (v : Val) : ByteArray :=
  if v.k = 0 then sUnset else if v.k = 1 then sNil else if v.k = 2 then (if v.n = 1 then sTrue else sFalse) else if v.k = 3 then dig v.n else if v.k = 4 then v.s
  else if v.k = 6 then sFun ++ nameB ns v.n ++ sGt else if v.k = 5 then sLt ++ descB l ns v ++ sGt else ⟨#[]⟩
/-- The values that are shown. -/
def Sv (v : Val) : Prop := I64 v.n ∧ (v.k = 0 ∨ v.k = 1 ∨ v.k = 2 ∨ (v.k = 3 ∧ -2 ≤ v.n ∧ v.n ≤ 6) ∨ v.k = 4 ∨ v.k = 5 ∨ v.k = 6 ∨ v.k = 9)
theorem size_app (a b : ByteArray) : (a ++ b).size = a.size + b.size := ByteArray.size_append
theorem dig_size (n : Int) (h : 0 ≤ n ∧ n ≤ 3) : (dig n).size ≤ 100 := by
  rcases (show n = 0 ∨ n = 1 ∨ n = 2 ∨ n = 3 by omega) with h | h | h | h <;> rw [h] <;> exact of_decide_eq_true (by kernel_rfl)
theorem descB_size {l : List Ent} {ns : List ByteArray} {next : Int} (hf : Fine l next) (h : ∀ s ∈ ns, s.size ≤ 140737488351232) (v : Val) : (descB l ns v).size ≤ 140737488351232 + 100 := by
  unfold descB
  have hm : ∀ i, (nameB ns i).size ≤ 140737488351232 := nameB_size h
  cases hd : denC l v with
  | none => simp only; exact of_decide_eq_true (by kernel_rfl)
  | some c =>
    simp only
    unfold cellB
    split
    · have := hm c.cls; omega
    · split
      · have hk : c.items.length ≤ 3 := by
          unfold denC at hd
          split at hd
          · exact (hf.few _ (look_some hd)).2
          · cases hd
        rw [size_app]
        have := dig_size c.items.length (by omega)
        have : sArr.size = 6 := by rfl
        omega
      · split
        · rw [size_app]
          have := hm c.fn
          have : sClo.size = 8 := by rfl
          omega
        · exact of_decide_eq_true (by kernel_rfl)
set_option maxHeartbeats 2000000 in
theorem show_any (F P1 P2 : Nat → Prop) (p : Nat) (mb : Option Nat) (f : Int → Hd) (l : List Ent) (next : Int) (v : Val) (A1 A2 : Option Addr) (ns : List ByteArray) (n c1 c2 : Nat) (w : World) (H : HeapA w F p mb f l next) (hF : ∀ g, F g → g < w.heap.size) (hG : Pw w) (hv : Sv v) (hf : Fine l next)
    (hn : ns.length = n) (hl : n ≤ 1000) (h1 : ClsAt w P1 A1 ns) (h2 : SlS w P2 A2 ns) (hP1 : ∀ b, P1 b → b < w.heap.size) (hP2 : ∀ b, P2 b → b < w.heap.size) (hs : ∀ s ∈ ns, s.size ≤ 140737488351232) :
    Calls Tryz.prog 29 #[.pointer (some ⟨p, 0, none⟩), .slice A1 n c1, .slice A2 n c2, valV v] w fun e w' => e = .returned (.string (showB l ns v)) ∧ Below w.heap.size w w' := by
  obtain ⟨hid, hv⟩ := hv
  have DS := Lib.hid (fun (h5 : v.k = 5) (w' : World) (hb : Below w.heap.size w w') => describe_any F P1 P2 p mb f l next v A1 A2 ns n c1 c2 w' (H.low hF hb) (fun g hg => Nat.lt_of_lt_of_le (hF g hg) hb.size) (hG.below hb) hid h5 hf hn hl (h1.keep fun b hb' => ⟨hb', hb.block b (hP1 b hb')⟩) (h2.low hP2 hb) (fun b hb' => Nat.lt_of_lt_of_le (hP1 b hb') hb.size) (fun b hb' => Nat.lt_of_lt_of_le (hP2 b hb') hb.size) hs)
  have NN := Lib.hid (fun (w' : World) (hb : Below w.heap.size w w') (i : Int) => nameOf_any P2 A2 ns n c2 i w' hn (h2.low hP2 hb) hl)
  have IT := Lib.hid (fun (w' : World) (hb : Below w.heap.size w w') (i : Int) (hi : -10 ≤ i ∧ i ≤ 100) => itoa_any i hi w' (hG.below hb))
  have SN := Lib.hid (nameB_size hs)
  have SD := Lib.hid (descB_size hf hs v)
  clear H hF hG hf hn h1 h2 hP1 hP2 hs
  obtain ⟨vk, vn, vs⟩ := v
  unfold showB valV at *
  simp only at hv hid DS SD ⊢
  rcases hv with rfl | rfl | rfl | ⟨rfl, h3⟩ | rfl | rfl | rfl | rfl
  · rw [if_pos rfl]
    go_enter Tryz.func29, Tryz.ntmps29
    go_wp2_with fail
    go_ret
    exact ⟨rfl, by (repeat' (first | exact Below.refl _ _ | refine Below.alloc ?_ (by simp <;> omega) _))⟩
  · rw [if_neg (by decide), if_pos rfl]
    go_enter Tryz.func29, Tryz.ntmps29
    go_wp2_with fail
    go_ret
    exact ⟨rfl, by (repeat' (first | exact Below.refl _ _ | refine Below.alloc ?_ (by simp <;> omega) _))⟩
  · rw [if_neg (by decide), if_neg (by decide), if_pos rfl]
    by_cases hb1 : vn = 1
    · subst hb1
      rw [if_pos rfl]
      go_enter Tryz.func29, Tryz.ntmps29
      go_wp2_with fail
      refine (fb_any true _).mono ?_
      rintro e w2 ⟨rfl, rfl⟩
      go_wp2_with fail
      go_ret
      exact ⟨rfl, by (repeat' (first | exact Below.refl _ _ | refine Below.alloc ?_ (by simp <;> omega) _))⟩
    · rw [if_neg hb1]
      have e1 : (vn == 1) = false := by simp [hb1]
      clear hb1
      go_enter Tryz.func29, Tryz.ntmps29
      go_wp2_with fail
      refine (fb_any false _).mono ?_
      rintro e w2 ⟨rfl, rfl⟩
      go_wp2_with fail
      go_ret
      exact ⟨rfl, by (repeat' (first | exact Below.refl _ _ | refine Below.alloc ?_ (by simp <;> omega) _))⟩
  · rw [if_neg (by decide), if_neg (by decide), if_neg (by decide), if_pos rfl]
    go_enter Tryz.func29, Tryz.ntmps29
    go_wp2_with fail
    refine (IT.out _ (by (repeat' (first | exact Below.refl _ _ | refine Below.alloc ?_ (by simp <;> omega) _))) vn (by omega)).mono ?_
    rintro e w2 ⟨rfl, hb⟩
    have HB := Lib.hid (Below.trans (by (repeat' (first | exact Below.refl _ _ | refine Below.alloc ?_ (by simp <;> omega) _)) : Below w.heap.size w _) (hb.mono (by simp)))
    clear hb
    go_wp2_with fail
    go_ret
    exact ⟨rfl, HB.out⟩
  · rw [if_neg (by decide), if_neg (by decide), if_neg (by decide), if_neg (by decide), if_pos rfl]
    go_enter Tryz.func29, Tryz.ntmps29
    go_wp2_with fail
    go_ret
    exact ⟨rfl, by (repeat' (first | exact Below.refl _ _ | refine Below.alloc ?_ (by simp <;> omega) _))⟩
  · rw [if_neg (by decide), if_neg (by decide), if_neg (by decide), if_neg (by decide), if_neg (by decide), if_neg (by decide), if_pos rfl]
    go_enter Tryz.func29, Tryz.ntmps29
    go_wp2_with fail
    refine (DS.out (by trivial) _ (by (repeat' (first | exact Below.refl _ _ | refine Below.alloc ?_ (by simp <;> omega) _)))).mono ?_
    rintro e w2 ⟨rfl, hb⟩
    have HB := Lib.hid (Below.trans (by (repeat' (first | exact Below.refl _ _ | refine Below.alloc ?_ (by simp <;> omega) _)) : Below w.heap.size w _) (hb.mono (by simp)))
    have ds := SD.out
    have d9 : ¬ 9223372036854775807 < 1 + (descB l ns ⟨5, vn, vs⟩).size := by omega
    have d8 : ¬ 9223372036854775807 < (sLt ++ descB l ns ⟨5, vn, vs⟩).size + 1 := by rw [size_app, show sLt.size = 1 from rfl]; omega
    clear hb
    go_wp2_with fail
    go_ret
    exact ⟨rfl, HB.out⟩
  · rw [if_neg (by decide), if_neg (by decide), if_neg (by decide), if_neg (by decide), if_neg (by decide), if_pos rfl]
    go_enter Tryz.func29, Tryz.ntmps29
    go_wp2_with fail
    refine (NN.out _ (by (repeat' (first | exact Below.refl _ _ | refine Below.alloc ?_ (by simp <;> omega) _))) vn).mono ?_
    rintro e w2 ⟨rfl, rfl⟩
    have ds := SN.out vn
    have d9 : ¬ 9223372036854775807 < 5 + (nameB ns vn).size := by omega
    have d8 : ¬ 9223372036854775807 < (sFun ++ nameB ns vn).size + 1 := by rw [size_app, show sFun.size = 5 from rfl]; omega
    go_wp2_with fail
    go_ret
    exact ⟨rfl, by (repeat' (first | exact Below.refl _ _ | refine Below.alloc ?_ (by simp <;> omega) _))⟩
  · rw [if_neg (by decide), if_neg (by decide), if_neg (by decide), if_neg (by decide), if_neg (by decide), if_neg (by decide), if_neg (by decide)]
    go_enter Tryz.func29, Tryz.ntmps29
    go_wp2_with fail
    go_ret
    exact ⟨rfl, by (repeat' (first | exact Below.refl _ _ | refine Below.alloc ?_ (by simp <;> omega) _))⟩
theorem st_show (w0 w : World) (P1 P2 : Nat → Prop) (p : Nat) (l : List Ent) (next : Int) (v : Val) (A1 A2 : Option Addr) (ns : List ByteArray) (n c1 c2 : Nat) (h : St w0 w p l next) (hG : Pw w) (hv : Sv v) (hf : Fine l next)
    (hn : ns.length = n) (hl : n ≤ 1000) (h1 : ClsAt w P1 A1 ns) (h2 : SlS w P2 A2 ns) (hP1 : ∀ b, P1 b → b < w.heap.size) (hP2 : ∀ b, P2 b → b < w.heap.size) (hs : ∀ s ∈ ns, s.size ≤ 140737488351232) :
    Calls Tryz.prog 29 #[.pointer (some ⟨p, 0, none⟩), .slice A1 n c1, .slice A2 n c2, valV v] w fun e w' => e = .returned (.string (showB l ns v)) ∧ Below w.heap.size w w' := by
  obtain ⟨F, mb, f, h⟩ := h
  exact show_any F P1 P2 p mb f l next v A1 A2 ns n c1 c2 w h.heap h.fl hG hv hf hn hl h1 h2 hP1 hP2 hs
end Go.Proofs.YtkdpcnikgdbmaaaGreatDoor.Hp
namespace Go.Proofs.YtkdpcnikgdbmaaaGreatDoor.Hp
open Go Go.RowKit Go.Maps Go.Sort Go.Shelf Va

theorem place_at' {l : List Ent} (hs : (ids l).Pairwise (· < ·)) {i : Int} (h : i ∈ ids l) : ∃ (k : Nat) (c : Cel), l[k]? = some (i, c) ∧ plc (ids l) i = k ∧ (ids l)[k]? = some i := by
  obtain ⟨k, hk⟩ := List.mem_iff_getElem?.1 h
  have hk' := hk
  unfold ids at hk'
  rw [List.getElem?_map, Option.map_eq_some_iff] at hk'
  obtain ⟨⟨j, c⟩, hx, rfl⟩ := hk'
  exact ⟨k, c, hx, plc_at hs hk, hk⟩
theorem assoc3 (a b c d : ByteArray) : a ++ (b ++ c) ++ d = (a ++ b) ++ c ++ d := by rw [← ByteArray.append_assoc]
set_option maxRecDepth 100000 in
set_option maxHeartbeats 4000000 in
theorem refCell_any (P1 P2 : Nat → Prop) (q : Nat) (v : Value) (es : List Ac.En) (l : List Ent) (next : Int) (id : Int) (A1 A2 : Option Addr) (ns : List ByteArray) (n c1 c2 : Nat) (w : World) (h : RefL w q v es l next) (hf : Fine l next) (vs : ByteArray)
    (hn : ns.length = n) (hl : n ≤ 100) (h1 : ClsAt w P1 A1 ns) (h2 : SlS w P2 A2 ns) (hP1 : ∀ b, P1 b → b < w.heap.size) (hP2 : ∀ b, P2 b → b < w.heap.size) (hs : ∀ s ∈ ns, s.size ≤ 140737488351232) :
    Calls Tryz.prog 79 #[.pointer (some ⟨q, 0, none⟩), .slice A1 n c1, .slice A2 n c2, .int .i64 id] w fun e w' => e = .returned (.string (sLt ++ descB l ns ⟨5, id, vs⟩ ++ sGt)) ∧ Below w.heap.size w w' := by
  obtain ⟨Ae, ce, rfl, hE⟩ := h.cps.slot
  obtain ⟨iS, hiS, hS0, hS1, hS2⟩ := info_parts Ac.infoS
  have l8 := hf.len
  obtain ⟨ln, hln⟩ : ∃ ln, l.length = ln := ⟨_, rfl⟩
  have PL := Lib.hid (fun (w' : World) (hb : Below w.heap.size w w') (i : Int) => ref_place (h.below hb (Nat.le_refl _)) (by omega) hf.sorted i)
  have h0 := h.top.cell 0 (.slice Ae l.length ce) rfl
  have ql := h.top.lt
  rw [hln] at h0
  have HE := Lib.hid hE
  have FI := Lib.hid hf
  have CL := Lib.hid h1
  have NN := Lib.hid (fun (w' : World) (hb : Below w.heap.size w w') (i : Int) => refName_any P2 A2 ns n c2 i w' hn (h2.low hP2 hb) (by omega))
  have SN := Lib.hid (nameB_size hs)
  have HN := Lib.hid hn
  have HP1 := Lib.hid hP1
  have HLN := Lib.hid hln
  have PLR := Lib.hid (PL.out w (Below.refl _ _) id)
  clear PL h hf hE hn h1 h2 hP1 hP2 hs hln
  by_cases hm : id ∈ ids l
  · obtain ⟨k0, c0, hx, hp, hi⟩ := place_at' FI.out.sorted hm
    rw [hp] at PLR
    have hd : descB l ns ⟨5, id, vs⟩ = cellB ns c0 := by
      have : denC l ⟨5, id, vs⟩ = some c0 := by unfold denC; rw [if_pos rfl]; exact look_mem FI.out.sorted (List.mem_of_getElem? hx)
      unfold descB; rw [this]
    rw [hd]
    have k0l : k0 < ln := by rw [← HLN.out]; exact (List.getElem?_eq_some_iff.1 hx).1
    have k0i : (k0 : Int) < ln := by omega
    have KN := kind_of (FI.out.ok _ (List.mem_of_getElem? hx)).1
    have c3 := (FI.out.few _ (List.mem_of_getElem? hx)).2
    simp only at KN c3
    have hel : k0 < es.length := by rw [HE.out.len, HLN.out]; exact k0l
    have he := List.getElem?_eq_getElem hel
    have hent := HE.out.ent k0 _ _ he hx
    obtain ⟨ge, rfl, hPg, hcells⟩ := HE.out.row k0 _ he
    generalize es[k0] = e at *
    obtain ⟨eid, ek, ec, ef, et, nA, nn, nc, iA, mm, ic⟩ := e
    obtain ⟨a1, a2, a3, a4, a5, a6, a7, a8, a9⟩ := hent
    simp only at a1 a2 a3 a4 a5 a6 a7 a8 a9
    subst a2; subst a3; subst a4; subst a5
    have x1 : w.cell? ⟨ge, k0 * 7 + 1, none⟩ = some (.int .i64 c0.kind) := hcells 1 _ rfl
    have x2 := hcells 2 _ rfl
    have x3 := hcells 3 _ rfl
    have x4 := hcells 4 _ rfl
    have x5 := hcells 5 _ rfl
    have x6 := hcells 6 _ rfl
    have MM := Lib.hid a7
    have mm3 : mm ≤ 3 := by omega
    clear hcells a1 a6 a7 a8 a9 he hel hx hi hd hp hm HE
    unfold cellB
    obtain ⟨kind, cls, fn, ten, names, items⟩ := c0
    simp only at KN c3 MM x1 x2 x3 x4 ⊢
    rcases KN with rfl | rfl | rfl | rfl
    · rw [if_pos rfl]
      go_enter Tryz.func79, Tryz.ntmps79
      go_wp2_with fail
      refine PLR.out.mono ?_
      rintro e w2 ⟨rfl, rfl⟩
      go_wp2_with fail
      have ax := (Below.refl w.heap.size w).alloc (Nat.le_refl _) (.cells #[.int .i64 1, .int .i64 cls, .int .i64 fn, .int .i64 ten, .slice nA nn nc, .slice iA mm ic] 46)
      have BX := Lib.hid (Bk.new w #[.int .i64 1, .int .i64 cls, .int .i64 fn, .int .i64 ten, .slice nA nn nc, .slice iA mm ic] 46)
      have sx : w.heap.size < (w.alloc (.cells #[.int .i64 1, .int .i64 cls, .int .i64 fn, .int .i64 ten, .slice nA nn nc, .slice iA mm ic] 46)).heap.size := by simp
      generalize w.alloc (.cells #[.int .i64 1, .int .i64 cls, .int .i64 fn, .int .i64 ten, .slice nA nn nc, .slice iA mm ic] 46) = wx at *
      go_loopw [11, 12] (fun rv i wr => ∃ j : Nat, j ≤ n ∧ i = .int .i64 j ∧ Hid (wr.ownsRow wx.heap.size 9 1 rv (ns.take j).length ((ns.take j).map Value.string)) ∧ Hid (Below wx.heap.size wx wr)) (fun _ i _ => n - (intOf i).toNat)
      case atStart => exact ⟨0, by omega, rfl, Lib.hid (World.ownsRow_nil _ _ _ _), Lib.hid (Below.refl _ _)⟩
      case round =>
        obtain ⟨j, hj, rfl, hrow, hb⟩ := hrel
        have szr := hb.out.size
        by_cases hlt : j < n
        · have jl : j < ns.length := by rw [HN.out]; exact hlt
          have hg := List.getElem?_eq_getElem jl
          obtain ⟨b1, rfl, hb1, x0⟩ := CL.out j _ hg
          have bl := HP1.out _ hb1
          have y0 : wr.cell? ⟨b1, j * 3, none⟩ = some (.string ns[j]) := (hb.out.cell (p := ⟨b1, j * 3, none⟩) (by show b1 < _; omega)).trans ((ax.cell (p := ⟨b1, j * 3, none⟩) bl).trans x0)
          have TK := Lib.hid (List.take_succ_eq_append_getElem jl)
          have ji : (j : Int) < n := by omega
          have GL : (ns.take j).length ≤ 100 := by rw [List.length_take]; omega
          generalize ns[j] = s at *
          clear hg x0 jl
          generalize ns.take j = G at *
          go_wp2_with (at_builtin; refine wpList_append_lies _ rfl _ _ 43 rfl wx.heap.size 9 iS _ 1 16 Tryz.underlying43 hiS hS0 hS1 hS2 rfl (by decide) _ _ _ rfl (World.ownsRow.alloc hrow.out _) ⟨wr.heap.size, 0, none⟩ 1 1 [.string s] rfl rfl (cell_one_new _ _ _) ?qa1 (by decide) ?qa2 ?qa3 ?qa4 _ rfl ?_)
          case qa1 => simp [Value.oneCell']
          case qa2 => unfold maxLen; omega
          case qa3 => omega
          case qa4 => simp; omega
          intro g1 cap1 w6 hown hgrow hat hlt3
          have R3 := Lib.hid (show w6.ownsRow wx.heap.size 9 1 (.slice (some ⟨g1, 0, none⟩) (G.length + 1) cap1) (ns.take (j + 1)).length ((ns.take (j + 1)).map Value.string) by
            rw [TK.out, List.length_append, List.map_append]
            exact hown)
          have F3 := Lib.hid ((hb.out.alloc hb.out.size _).grown hgrow (by simp; omega) (fun k hk => (row_cells hrow.out hk).1))
          clear hown hgrow hat hlt3
          go_wp2_with fail
          go_roundw
          case rel => exact ⟨j + 1, by omega, by go_num, R3, F3⟩
          case measure => simp [intOf]; omega
        · obtain rfl : n = j := by omega
          have hrow' := hrow.out
          rw [show ns.take n = ns by rw [← HN.out, List.take_length]] at hrow'
          obtain ⟨A9, c9, hu, hS9⟩ := own_names hrow'
          rw [HN.out] at hu
          subst hu
          have NX := Lib.hid (refName_any _ A9 ns n c9 cls wr HN.out hS9 (by omega))
          have Bw := Lib.hid (ax.trans (hb.out.mono ax.size))
          have k1 := (BX.out.low hb.out).cell 1 (.int .i64 cls) rfl
          have ds := SN.out cls
          have d9 : ¬ 9223372036854775807 < 1 + (nameB ns cls).size := by omega
          have d8 : ¬ 9223372036854775807 < (sLt ++ nameB ns cls).size + 1 := by rw [size_app, show sLt.size = 1 from rfl]; omega
          clear hrow hrow' hb hS9 ax
          go_wp2_with fail
          refine NX.out.mono ?_
          rintro e w3 ⟨rfl, rfl⟩
          go_wp2_with fail
          go_ret
          exact ⟨rfl, Bw.out⟩
    · rw [if_neg (by decide), if_pos rfl]
      have ds := dig_size items.length (by omega)
      rw [MM.out] at ds ⊢
      rw [assoc3]
      have d9 : ¬ 9223372036854775807 < 7 + (dig mm).size := by omega
      have d8 : ¬ 9223372036854775807 < (sLt ++ sArr ++ dig mm).size + 1 := by rw [size_app, show (sLt ++ sArr).size = 7 from rfl]; omega
      have d8' : ¬ 9223372036854775807 < ((⟨#[60, 97, 114, 114, 97, 121, 32]⟩ : ByteArray) ++ dig mm).size + 1 := by rw [size_app, show (⟨#[60, 97, 114, 114, 97, 121, 32]⟩ : ByteArray).size = 7 from rfl]; omega
      have DM := Lib.hid (fun w' => decimal_any mm (by omega) w')
      go_enter Tryz.func79, Tryz.ntmps79
      go_wp2_with fail
      refine PLR.out.mono ?_
      rintro e w2 ⟨rfl, rfl⟩
      go_wp2_with fail
      refine (DM.out _).mono ?_
      rintro e w3 ⟨rfl, rfl⟩
      go_wp2_with fail
      go_ret
      exact ⟨rfl, by (repeat' (first | exact Below.refl _ _ | refine Below.alloc ?_ (by simp <;> omega) _))⟩
    · rw [if_neg (by decide), if_neg (by decide), if_pos rfl, assoc3]
      have ds := SN.out fn
      have d9 : ¬ 9223372036854775807 < 9 + (nameB ns fn).size := by omega
      have d8 : ¬ 9223372036854775807 < ((⟨#[60, 99, 108, 111, 115, 117, 114, 101, 32]⟩ : ByteArray) ++ nameB ns fn).size + 1 := by rw [size_app, show (⟨#[60, 99, 108, 111, 115, 117, 114, 101, 32]⟩ : ByteArray).size = 9 from rfl]; omega
      go_enter Tryz.func79, Tryz.ntmps79
      go_wp2_with fail
      refine PLR.out.mono ?_
      rintro e w2 ⟨rfl, rfl⟩
      go_wp2_with fail
      refine (NN.out _ (by (repeat' (first | exact Below.refl _ _ | refine Below.alloc ?_ (by simp <;> omega) _))) fn).mono ?_
      rintro e w3 ⟨rfl, rfl⟩
      go_wp2_with fail
      go_ret
      exact ⟨rfl, by (repeat' (first | exact Below.refl _ _ | refine Below.alloc ?_ (by simp <;> omega) _))⟩
    · rw [if_neg (by decide), if_neg (by decide), if_neg (by decide), show sLt ++ sWeak ++ sGt = ⟨#[60, 119, 101, 97, 107, 62]⟩ by kernel_rfl]
      go_enter Tryz.func79, Tryz.ntmps79
      go_wp2_with fail
      refine PLR.out.mono ?_
      rintro e w2 ⟨rfl, rfl⟩
      go_wp2_with fail
      go_ret
      exact ⟨rfl, by (repeat' (first | exact Below.refl _ _ | refine Below.alloc ?_ (by simp <;> omega) _))⟩
  · rw [show plc (ids l) id = -1 by unfold plc; rw [if_neg hm]] at PLR
    rw [show descB l ns ⟨5, id, vs⟩ = sNone by
      have : denC l ⟨5, id, vs⟩ = none := by
        cases hd : denC l ⟨5, id, vs⟩ with
        | none => rfl
        | some c => exact absurd (den_inv hd).2.2 hm
      unfold descB; rw [this], show sLt ++ sNone ++ sGt = ⟨#[60, 110, 111, 110, 101, 62]⟩ by kernel_rfl]
    clear hm
    go_enter Tryz.func79, Tryz.ntmps79
    go_wp2_with fail
    refine PLR.out.mono ?_
    rintro e w2 ⟨rfl, rfl⟩
    go_wp2_with fail
    go_ret
    exact ⟨rfl, Below.refl _ _⟩
set_option maxHeartbeats 2000000 in
theorem refShow_any (P1 P2 : Nat → Prop) (q : Nat) (v0 : Value) (es : List Ac.En) (l : List Ent) (next : Int) (v : Val) (A1 A2 : Option Addr) (ns : List ByteArray) (n c1 c2 : Nat) (w : World) (h : RefL w q v0 es l next) (hf : Fine l next) (hv : Sv v)
    (hn : ns.length = n) (hl : n ≤ 100) (h1 : ClsAt w P1 A1 ns) (h2 : SlS w P2 A2 ns) (hP1 : ∀ b, P1 b → b < w.heap.size) (hP2 : ∀ b, P2 b → b < w.heap.size) (hs : ∀ s ∈ ns, s.size ≤ 140737488351232) :
    Calls Tryz.prog 30 #[.pointer (some ⟨q, 0, none⟩), .slice A1 n c1, .slice A2 n c2, valV v] w fun e w' => e = .returned (.string (showB l ns v)) ∧ Below w.heap.size w w' := by
  obtain ⟨hid, hv⟩ := hv
  have DS := Lib.hid (fun (w' : World) (hb : Below w.heap.size w w') => refCell_any P1 P2 q v0 es l next v.n A1 A2 ns n c1 c2 w' (h.below hb (Nat.le_refl _)) hf v.s hn hl (h1.keep fun b hb' => ⟨hb', hb.block b (hP1 b hb')⟩) (h2.low hP2 hb) (fun b hb' => Nat.lt_of_lt_of_le (hP1 b hb') hb.size) (fun b hb' => Nat.lt_of_lt_of_le (hP2 b hb') hb.size) hs)
  have NN := Lib.hid (fun (w' : World) (hb : Below w.heap.size w w') (i : Int) => refName_any P2 A2 ns n c2 i w' hn (h2.low hP2 hb) (by omega))
  have SN := Lib.hid (nameB_size hs)
  clear h hf hn h1 h2 hP1 hP2 hs
  obtain ⟨vk, vn, vs⟩ := v
  unfold showB valV at *
  simp only at hv hid DS ⊢
  rcases hv with rfl | rfl | rfl | ⟨rfl, h3⟩ | rfl | rfl | rfl | rfl
  · rw [if_pos rfl]
    go_enter Tryz.func30, Tryz.ntmps30
    go_wp2_with fail
    go_ret
    exact ⟨rfl, by (repeat' (first | exact Below.refl _ _ | refine Below.alloc ?_ (by simp <;> omega) _))⟩
  · rw [if_neg (by decide), if_pos rfl]
    go_enter Tryz.func30, Tryz.ntmps30
    go_wp2_with fail
    go_ret
    exact ⟨rfl, by (repeat' (first | exact Below.refl _ _ | refine Below.alloc ?_ (by simp <;> omega) _))⟩
  · rw [if_neg (by decide), if_neg (by decide), if_pos rfl]
    by_cases hb1 : vn = 1
    · subst hb1
      rw [if_pos rfl]
      go_enter Tryz.func30, Tryz.ntmps30
      go_wp2_with fail
      go_ret
      exact ⟨rfl, by (repeat' (first | exact Below.refl _ _ | refine Below.alloc ?_ (by simp <;> omega) _))⟩
    · rw [if_neg hb1]
      have e1 : (vn == 1) = false := by simp [hb1]
      clear hb1
      go_enter Tryz.func30, Tryz.ntmps30
      go_wp2_with fail
      go_ret
      exact ⟨rfl, by (repeat' (first | exact Below.refl _ _ | refine Below.alloc ?_ (by simp <;> omega) _))⟩
  · rw [if_neg (by decide), if_neg (by decide), if_neg (by decide), if_pos rfl]
    go_enter Tryz.func30, Tryz.ntmps30
    go_wp2_with fail
    refine (decimal_any vn h3 _).mono ?_
    rintro e w2 ⟨rfl, rfl⟩
    go_wp2_with fail
    go_ret
    exact ⟨rfl, by (repeat' (first | exact Below.refl _ _ | refine Below.alloc ?_ (by simp <;> omega) _))⟩
  · rw [if_neg (by decide), if_neg (by decide), if_neg (by decide), if_neg (by decide), if_pos rfl]
    go_enter Tryz.func30, Tryz.ntmps30
    go_wp2_with fail
    go_ret
    exact ⟨rfl, by (repeat' (first | exact Below.refl _ _ | refine Below.alloc ?_ (by simp <;> omega) _))⟩
  · rw [if_neg (by decide), if_neg (by decide), if_neg (by decide), if_neg (by decide), if_neg (by decide), if_neg (by decide), if_pos rfl]
    go_enter Tryz.func30, Tryz.ntmps30
    go_wp2_with fail
    refine (DS.out _ (by (repeat' (first | exact Below.refl _ _ | refine Below.alloc ?_ (by simp <;> omega) _)))).mono ?_
    rintro e w2 ⟨rfl, hb⟩
    have HB := Lib.hid (Below.trans (by (repeat' (first | exact Below.refl _ _ | refine Below.alloc ?_ (by simp <;> omega) _)) : Below w.heap.size w _) (hb.mono (by simp)))
    clear hb
    go_wp2_with fail
    go_ret
    exact ⟨rfl, HB.out⟩
  · rw [if_neg (by decide), if_neg (by decide), if_neg (by decide), if_neg (by decide), if_neg (by decide), if_pos rfl]
    go_enter Tryz.func30, Tryz.ntmps30
    go_wp2_with fail
    refine (NN.out _ (by (repeat' (first | exact Below.refl _ _ | refine Below.alloc ?_ (by simp <;> omega) _))) vn).mono ?_
    rintro e w2 ⟨rfl, rfl⟩
    have ds := SN.out vn
    have d9 : ¬ 9223372036854775807 < 5 + (nameB ns vn).size := by omega
    have d8 : ¬ 9223372036854775807 < (sFun ++ nameB ns vn).size + 1 := by rw [size_app, show sFun.size = 5 from rfl]; omega
    go_wp2_with fail
    go_ret
    exact ⟨rfl, by (repeat' (first | exact Below.refl _ _ | refine Below.alloc ?_ (by simp <;> omega) _))⟩
  · rw [if_neg (by decide), if_neg (by decide), if_neg (by decide), if_neg (by decide), if_neg (by decide), if_neg (by decide), if_neg (by decide)]
    go_enter Tryz.func30, Tryz.ntmps30
    go_wp2_with fail
    go_ret
    exact ⟨rfl, by (repeat' (first | exact Below.refl _ _ | refine Below.alloc ?_ (by simp <;> omega) _))⟩
end Go.Proofs.YtkdpcnikgdbmaaaGreatDoor.Hp
