/-
  Contracts of New and Alloc.
-/
import Derived.Test.YtephblgakkeclaaDoorHj
import Derived.Test.YtephblgakkeclaaDoorHh
namespace Go.Proofs.YtephblgakkeclaaDoor.Hp
open Go Go.RowKit Go.Maps Va

theorem heap_new (w : World) (f : Int → Hd) : HeapA (w.alloc (.cells #[.map none, .int .i64 0] 56)) (New (fun _ => False) w.heap.size (w.alloc (.cells #[.map none, .int .i64 0] 56)).heap.size) w.heap.size none f [] 0 :=
  ⟨Bk.new w _ _, .inr (by simp), .inl ⟨rfl, rfl⟩, (fun e he => by cases he), (fun e he => by cases he), List.Pairwise.nil, by unfold I64; omega⟩
theorem new_any (f : Int → Hd) (w : World) : Calls Tryd.prog 5 #[] w fun e w' => e = .returned (.pointer (some ⟨w.heap.size, 0, none⟩)) ∧ Hid (HeapA w' (New (fun _ => False) w.heap.size w'.heap.size) w.heap.size none f [] 0 ∧ Below w.heap.size w w') := by
  have HN := Lib.hid (heap_new w f)
  go_enter Tryd.func5, Tryd.ntmps5
  go_wp2_with fail
  go_ret
  exact ⟨rfl, Lib.hid ⟨HN.out, (Below.refl _ w).alloc (Nat.le_refl _) _⟩⟩
theorem alloc_nil (c : Cel) (N I : Value) (w : World) : Calls Tryd.prog 6 #[.pointer none, celV c N I] w fun e w' => e = .returned (.tuple #[.int .i64 0, .int .i64 1]) ∧ Below w.heap.size w w' := by
  obtain ⟨kind, cls, fn, ten, names, items⟩ := c
  unfold celV
  simp only
  go_enter Tryd.func6, Tryd.ntmps6
  go_wp2_with fail
  go_ret2
  exact ⟨rfl, (Below.refl _ w).alloc (Nat.le_refl _) _⟩
theorem alloc_bad (P : Nat → Prop) (p : Nat) (c : Cel) (A B : Option Addr) (n nc m ic : Nat) (w : World)
    (hn : c.names.length = n) (hm : c.items.length = m) (hS : SlS w P A c.names) (hV : ValsAt w P B c.items) (hP : ∀ b, P b → b < w.heap.size) (hn' : n ≤ 4398046511104) (hm' : m ≤ 4398046511104) (hs : ∀ s ∈ c.names, s.size ≤ maxLen) (hf : ∀ v ∈ c.items, v.Fits) (hB : Bnds w) (hr : c.right = false) :
    Calls Tryd.prog 6 #[.pointer (some ⟨p, 0, none⟩), celV c (.slice A n nc) (.slice B m ic)] w fun e w' => e = .returned (.tuple #[.int .i64 0, .int .i64 1]) ∧ Below w.heap.size w w' := by
  have RC := Lib.hid (fun (o : Obj) => right_cell P c n m A B nc ic (w.alloc o) hn hm (hS.low hP ((Below.refl _ w).alloc (Nat.le_refl _) o)) (hV.low hP ((Below.refl _ w).alloc (Nat.le_refl _) o)) (fun b hb => by have := hP b hb; simp; omega) hn' hm' hs hf (fun i hi => by rw [((Below.refl _ w).alloc (Nat.le_refl _) o).cell (by exact hB.size)]; exact hB i hi))
  rw [hr] at RC
  clear hS hV hP hs hf hB hn hm hr
  obtain ⟨kind, cls, fn, ten, names, items⟩ := c
  unfold celV at *
  simp only at RC ⊢
  go_enter Tryd.func6, Tryd.ntmps6
  go_wp2_with fail
  refine (RC.out _).mono ?_
  rintro e w2 ⟨rfl, hb⟩
  have HB := Lib.hid (((Below.refl _ w).alloc (Nat.le_refl _) _).trans (hb.mono (by simp)))
  clear hb
  go_wp2_with fail
  go_ret2
  exact ⟨rfl, HB.out⟩
end Go.Proofs.YtephblgakkeclaaDoor.Hp
