/-
  Show of strings and of weak cells; the law's ref, number, text, nils; Ints.
-/
import Derived.Test.YtephblgakkeclaaDoorIf
import Derived.BigRegion
namespace Go.Proofs.YtephblgakkeclaaDoor.Hp
open Go Go.RowKit Go.Maps Go.Sort Go.Shelf Va

def sWeak : ByteArray := ⟨#[119, 101, 97, 107]⟩
def sAngled : ByteArray := ⟨#[60, 119, 101, 97, 107, 62]⟩
set_option maxHeartbeats 1000000 in
theorem describe_weak (F : Nat → Prop) (p : Nat) (mb : Option Nat) (f : Int → Hd) (l : List Ent) (next : Int) (v : Val) (c0 : Cel) (Cs Ns : Value) (w : World) (H : HeapA w F p mb f l next) (hF : ∀ g, F g → g < w.heap.size) (hid : I64 v.n) (hv : v.k = 5) (hm : (v.n, c0) ∈ l) (hk0 : c0.kind = 4) :
    Calls Tryd.prog 38 #[.pointer (some ⟨p, 0, none⟩), Cs, Ns, valV v] w fun e w' => e = .returned (.string sWeak) ∧ Below w.heap.size w w' := by
  have DE := Lib.hid (fun (w' : World) (hb : Below w.heap.size w w') => denoted_any F p mb f l next v w' (fun g hg => Nat.lt_of_lt_of_le (hF g hg) hb.size) (H.low hF hb) hid)
  rw [show denOf l f v = some ⟨(f v.n).b, 0, none⟩ by unfold denOf; rw [if_pos hv]; exact (H.of hm).1] at DE
  have bk := (H.of hm).2.blk
  unfold rowC at bk
  rw [hk0] at bk
  have KC := Lib.hid (fun (w' : World) (hb : Below w.heap.size w w') => (bk.low hb).cell 0 (.int .i64 4) rfl)
  clear H hF hm hk0 bk hid
  obtain ⟨vk, vn, vs⟩ := v
  simp only at hv
  subst hv
  unfold valV at *
  simp only at DE KC ⊢
  generalize (f vn).b = cb at *
  go_enter Tryd.func38, Tryd.ntmps38
  go_wp2_with fail
  refine (DE.out _ (by (repeat' (first | exact Below.refl _ _ | refine Below.alloc ?_ (by simp <;> omega) _)))).mono ?_
  rintro e w2 ⟨rfl, hb⟩
  have HB := Lib.hid (Below.trans (by (repeat' (first | exact Below.refl _ _ | refine Below.alloc ?_ (by simp <;> omega) _)) : Below w.heap.size w _) (hb.mono (by simp)))
  have k0 := KC.out _ HB.out
  clear hb DE KC
  go_wp2_with fail
  go_ret
  exact ⟨rfl, HB.out⟩
set_option maxHeartbeats 1000000 in
theorem show_weak (F : Nat → Prop) (p : Nat) (mb : Option Nat) (f : Int → Hd) (l : List Ent) (next : Int) (v : Val) (c0 : Cel) (Cs Ns : Value) (w : World) (H : HeapA w F p mb f l next) (hF : ∀ g, F g → g < w.heap.size) (hid : I64 v.n) (hv : v.k = 5) (hm : (v.n, c0) ∈ l) (hk0 : c0.kind = 4) :
    Calls Tryd.prog 20 #[.pointer (some ⟨p, 0, none⟩), Cs, Ns, valV v] w fun e w' => e = .returned (.string sAngled) ∧ Below w.heap.size w w' := by
  have DE := Lib.hid (fun (w' : World) (hb : Below w.heap.size w w') => describe_weak F p mb f l next v c0 Cs Ns w' (H.low hF hb) (fun g hg => Nat.lt_of_lt_of_le (hF g hg) hb.size) hid hv hm hk0)
  obtain ⟨vk, vn, vs⟩ := v
  simp only at hv
  subst hv
  clear H hF hm hk0 hid
  unfold valV at *
  simp only at DE ⊢
  go_enter Tryd.func20, Tryd.ntmps20
  go_wp2_with fail
  refine (DE.out _ (by (repeat' (first | exact Below.refl _ _ | refine Below.alloc ?_ (by simp <;> omega) _)))).mono ?_
  rintro e w2 ⟨rfl, hb⟩
  have HB := Lib.hid (Below.trans (by (repeat' (first | exact Below.refl _ _ | refine Below.alloc ?_ (by simp <;> omega) _)) : Below w.heap.size w _) (hb.mono (by simp)))
  clear hb DE
  go_wp2_with fail
  go_ret
  exact ⟨rfl, HB.out⟩
set_option maxHeartbeats 1000000 in
theorem show_str (p : Value) (n : Int) (s : ByteArray) (Cs Ns : Value) (w : World) :
    Calls Tryd.prog 20 #[p, Cs, Ns, valV ⟨4, n, s⟩] w fun e w' => e = .returned (.string s) ∧ Below w.heap.size w w' := by
  unfold valV
  simp only
  go_enter Tryd.func20, Tryd.ntmps20
  go_wp2_with fail
  go_ret
  exact ⟨rfl, by (repeat' (first | exact Below.refl _ _ | refine Below.alloc ?_ (by simp <;> omega) _))⟩
theorem ints_step {a b : List Int} {k : Nat} (h : k < a.length) (h' : k < b.length) : (a.take (k + 1) = b.take (k + 1)) ↔ (a.take k = b.take k ∧ a[k] = b[k]) := by
  rw [List.take_succ_eq_append_getElem h, List.take_succ_eq_append_getElem h']
  constructor
  · intro e
    have := List.append_inj e (by simp; omega)
    exact ⟨this.1, by simpa using this.2⟩
  · rintro ⟨e1, e2⟩
    rw [e1, e2]
set_option maxHeartbeats 1000000 in
theorem ints_any (P Q : Nat → Prop) (A B : Option Addr) (a b : List Int) (n c m d : Nat) (w : World) (hn : a.length = n) (hm : b.length = m) (hA : IntsAt w P A a) (hB : IntsAt w Q B b) (hl : n ≤ 4398046511104) (hm' : m ≤ 4398046511104) :
    Calls Tryd.prog 22 #[.slice A n c, .slice B m d] w fun e w' => e = .returned (.bool (decide (a = b))) ∧ Below w.heap.size w w' := by
  subst hn hm
  by_cases hlen : a.length = b.length
  · have HA := Lib.hid hA
    have HB := Lib.hid hB
    have hli : ((a.length : Int) != b.length) = false := by simp [hlen]
    have HL := Lib.hid hlen
    clear hA hB hlen
    go_enter Tryd.func22, Tryd.ntmps22
    go_wp2_with fail
    go_loopw [5] (fun i wr => ∃ q : Nat, q ≤ a.length ∧ i = .int .i64 q ∧ Hid (a.take q = b.take q) ∧ Hid (Below w.heap.size w wr)) (fun i _ => a.length - (intOf i).toNat)
    case atStart => exact ⟨0, by omega, rfl, Lib.hid rfl, Lib.hid (Below.refl _ _)⟩
    case round =>
      obtain ⟨q, hq, rfl, heq, hfr⟩ := hrel
      by_cases hlt : q < a.length
      · have hlt2 : q < b.length := by have := HL.out; omega
        obtain ⟨ga, rfl, _, ca0⟩ := HA.out q _ (List.getElem?_eq_getElem hlt)
        obtain ⟨gb, rfl, _, cb0⟩ := HB.out q _ (List.getElem?_eq_getElem hlt2)
        have ca := (hfr.out.cell (p := ⟨ga, q, none⟩) (cell_lt ca0)).trans ca0
        have cb := (hfr.out.cell (p := ⟨gb, q, none⟩) (cell_lt cb0)).trans cb0
        have ST := Lib.hid (ints_step hlt hlt2)
        have ki : (q : Int) < a.length := by omega
        have kj : (q : Int) < b.length := by omega
        generalize a[q] = x at *
        generalize b[q] = y at *
        clear ca0 cb0
        by_cases hxy : x = y
        · subst hxy
          have E2 := Lib.hid (ST.out.2 ⟨heq.out, rfl⟩)
          go_wp2_with fail
          go_region
          have F2 := Lib.hid hfr.out.drew
          go_wp2_with fail
          go_roundw
          case rel => exact ⟨q + 1, by omega, by go_num, E2, F2⟩
          case measure => simp [intOf]; omega
        · have E2 := Lib.hid (show decide (a = b) = false from decide_eq_false fun e => hxy (ST.out.1 (by rw [e])).2)
          have hxy' : (x != y) = true := by simp [hxy]
          clear hxy
          go_wp2_with fail
          go_region
          have F2 := Lib.hid hfr.out.drew
          go_wp2_with fail
          go_ret
          exact ⟨by rw [E2.out]; rfl, F2.out⟩
      · obtain rfl : q = a.length := by omega
        have E2 := Lib.hid (show decide (a = b) = true from decide_eq_true (by have := heq.out; rwa [List.take_length, HL.out, List.take_length] at this))
        go_wp2_with fail
        go_ret
        exact ⟨by rw [E2.out]; rfl, hfr.out⟩
  · have E : decide (a = b) = false := decide_eq_false (fun e => hlen (by rw [e]))
    rw [E]
    have hli : ((a.length : Int) != b.length) = true := by simp; omega
    clear hA hB E hlen
    go_enter Tryd.func22, Tryd.ntmps22
    go_wp2_with fail
    go_ret
    exact ⟨rfl, Below.refl _ _⟩
theorem lawRef_any (n : Int) (w : World) : Calls Tryd.prog 9 #[.int .i64 n] w fun e w' => e = .returned (valV ⟨5, n, ⟨#[]⟩⟩) ∧ Below w.heap.size w w' := by
  go_enter Tryd.func9, Tryd.ntmps9
  go_wp2_with fail
  (try simp only [Exit.inBlock, Exit.then])
  refine bodyPost_ret (v := .agg #[.int .i64 5, .int .i64 n, .string ⟨#[]⟩]) ?_ rfl ?_
  · exact results_cell_row rfl _ _ w.heap.size _ _ (0, 0) _ rfl (heap_alloc_new _ _) Tryd.underlying36 rfl (by kernel_rfl)
  · exact ⟨rfl, (Below.refl _ w).alloc (Nat.le_refl _) _⟩
theorem lawNum_any (n : Int) (w : World) : Calls Tryd.prog 10 #[.int .i64 n] w fun e w' => e = .returned (valV ⟨3, n, ⟨#[]⟩⟩) ∧ Below w.heap.size w w' := by
  go_enter Tryd.func10, Tryd.ntmps10
  go_wp2_with fail
  (try simp only [Exit.inBlock, Exit.then])
  refine bodyPost_ret (v := .agg #[.int .i64 3, .int .i64 n, .string ⟨#[]⟩]) ?_ rfl ?_
  · exact results_cell_row rfl _ _ w.heap.size _ _ (0, 0) _ rfl (heap_alloc_new _ _) Tryd.underlying36 rfl (by kernel_rfl)
  · exact ⟨rfl, (Below.refl _ w).alloc (Nat.le_refl _) _⟩
theorem lawText_any (s : ByteArray) (w : World) : Calls Tryd.prog 21 #[.string s] w fun e w' => e = .returned (valV ⟨4, 0, s⟩) ∧ Below w.heap.size w w' := by
  go_enter Tryd.func21, Tryd.ntmps21
  go_wp2_with fail
  (try simp only [Exit.inBlock, Exit.then])
  refine bodyPost_ret (v := .agg #[.int .i64 4, .int .i64 0, .string s]) ?_ rfl ?_
  · exact results_cell_row rfl _ _ w.heap.size _ _ (0, 0) _ rfl (heap_alloc_new _ _) Tryd.underlying36 rfl (by kernel_rfl)
  · exact ⟨rfl, (Below.refl _ w).alloc (Nat.le_refl _) _⟩
end Go.Proofs.YtephblgakkeclaaDoor.Hp
