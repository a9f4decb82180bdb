/-
  Contract of duplicate.
-/
import Derived.Test.YtkdpcnikgdbmaaaGreatDoorHe
import Derived.Laws.EntriesVeiled
namespace Go.Proofs.YtkdpcnikgdbmaaaGreatDoor.Hp
open Go Go.RowKit Go.Maps Va

/-- A cell as it is handed on: its fields, its two slices as they lie. -/
def celV (c : Cel) (N I : Value) : Value := .agg #[.int .i64 c.kind, .int .i64 c.cls, .int .i64 c.fn, .int .i64 c.ten, N, I]
/-- A cell's two rows, of their own: the names' block lies below M, the items' from M on. -/
def OwnC (w : World) (b M : Nat) (c : Cel) (N I : Value) : Prop :=
  b ≤ M ∧ w.ownsRow b 9 1 N c.names.length (c.names.map Value.string) ∧ (∀ k, N.ownBlock = some k → k < M) ∧ w.ownsRow M 64 3 I c.items.length (flatV c.items)
theorem own_keep {w w' : World} {base : Nat} {e : TypeId} {size n : Nat} {v : Value} {xs : List Value} (h : w.ownsRow base e size v n xs) (hk : ∀ g, base ≤ g → g < w.heap.size → w'.heap[g]? = w.heap[g]?) : w'.ownsRow base e size v n xs := by
  refine ⟨h.1, ?_⟩
  rcases h.2 with h' | ⟨g, cap, cur, e1, hb, hg, h'⟩
  · exact .inl h'
  · exact .inr ⟨g, cap, cur, e1, hb, by rw [hk g hb (Array.getElem?_eq_some_iff.1 hg).1]; exact hg, h'⟩
theorem own_mono {w : World} {base base' : Nat} {e : TypeId} {size n : Nat} {v : Value} {xs : List Value} (h : w.ownsRow base e size v n xs) (hb : base' ≤ base) : w.ownsRow base' e size v n xs := by
  refine ⟨h.1, ?_⟩
  rcases h.2 with h' | ⟨g, cap, cur, e1, hg, h'⟩
  · exact .inl h'
  · exact .inr ⟨g, cap, cur, e1, Nat.le_trans hb hg, h'⟩
theorem set_other (w : World) (b i : Nat) (v : Value) (g : Nat) (h : g ≠ b) : (w.setCell ⟨b, i, none⟩ v).heap[g]? = w.heap[g]? := by
  unfold World.setCell
  simp only [Array.getElem?_modify]
  rw [if_neg (fun e => h e.symm)]
set_option maxHeartbeats 1000000 in
theorem dup_any (P : Nat → Prop) (c : Cel) (A B : Option Addr) (n nc m ic : Nat) (w : World) (hn : c.names.length = n) (hm : c.items.length = m) (hS : SlS w P A c.names) (hV : ValsAt w P B c.items) (hP : ∀ b, P b → b < w.heap.size) (hn' : n ≤ 4398046511104) (hm' : m ≤ 4398046511104) :
    Calls Tryz.prog 59 #[celV c (.slice A n nc) (.slice B m ic)] w fun e w' => ∃ D d E e', e = .returned (celV c (.slice D n d) (.slice E m e')) ∧ Hid ((∃ M, OwnC w' w.heap.size M c (.slice D n d) (.slice E m e')) ∧ Below w.heap.size w w') := by
  obtain ⟨kind, cls, fn, ten, names, items⟩ := c
  unfold celV OwnC
  simp only at hn hm hS hV ⊢
  have HS := Lib.hid hS
  have HV := Lib.hid hV
  have HP := Lib.hid hP
  clear hS hV hP
  go_enter Tryz.func59, Tryz.ntmps59
  go_wp2_with fail
  refine (cloneS_any P A names n nc _ hn (HS.out.low HP.out (by (repeat' (first | exact Below.refl _ _ | refine Below.alloc ?_ (by simp <;> omega) _)))) (fun b hb => by have := HP.out b hb; simp; omega) hn').mono ?_
  rintro e w2 ⟨D, d, rfl, hh⟩
  have K1 := Lib.hid (((Bk.new w _ _).alloc _).below hh.out.2 (by simp; omega))
  have K2 := Lib.hid (Bk.below (heap_alloc2_new w _ _ : Bk _ _ _ _) hh.out.2 (by simp))
  have S1 := hh.out.2.size
  have HB := Lib.hid (Below.trans (by (repeat' (first | exact Below.refl _ _ | refine Below.alloc ?_ (by simp <;> omega) _)) : Below w.heap.size w _) (hh.out.2.mono (by simp; omega)))
  have HO := Lib.hid hh.out.1
  clear hh
  have c5 := K1.out.cell 5 _ rfl
  have f4 := K1.out.frozen 4
  have c4 := K1.out.cell 4 _ rfl
  simp only [World.size_alloc] at S1

  go_wp2_with fail
  have K1' := Lib.hid (K1.out.set 4 (.slice D n d))
  have K2' := Lib.hid (show Bk (w2.setCell ⟨w.heap.size, 4, none⟩ (.slice D n d)) (w.heap.size + 1) _ _ from (set_other _ _ _ _ _ (by omega)).trans K2.out)
  have HB' := Lib.hid (HB.out.setCell (p := ⟨w.heap.size, 4, none⟩) (Nat.le_refl _) (.slice D n d))
  have HO' := Lib.hid (own_keep (w' := w2.setCell ⟨w.heap.size, 4, none⟩ (.slice D n d)) HO.out (fun g hg _ => set_other _ _ _ _ _ (by simp at hg; omega)))
  have S2 : (w2.setCell ⟨w.heap.size, 4, none⟩ (.slice D n d)).heap.size = w2.heap.size := by simp [World.setCell]
  clear K1 K2 HB HO c5 f4 c4
  generalize w2.setCell ⟨w.heap.size, 4, none⟩ (.slice D n d) = w3 at *
  refine (cloneV_any P B items m ic _ hm (HV.out.low HP.out HB'.out) (fun b hb => by have := HP.out b hb; omega) hm').mono ?_
  rintro e w4 ⟨E, e', rfl, hh⟩
  have K1 := Lib.hid (K1'.out.below hh.out.2 (by omega))
  have K2 := Lib.hid (K2'.out.below hh.out.2 (by omega))
  have HB := Lib.hid (HB'.out.trans (hh.out.2.mono (by omega)))
  have HO := Lib.hid (own_keep HO'.out (fun g _ hg => hh.out.2.block g hg))
  have HI := Lib.hid hh.out.1
  have HM := Lib.hid (show ∀ k, (Value.slice D n d).ownBlock = some k → k < w3.heap.size from fun k hk => (World.ownsRow.lt HO'.out k hk).2)
  have S3 := hh.out.2.size
  clear K1' K2' HB' HO' hh
  have c0 := K1.out.cell 0 _ rfl
  have c1 := K1.out.cell 1 _ rfl
  have c2 := K1.out.cell 2 _ rfl
  have c3 := K1.out.cell 3 _ rfl
  have c4 := K1.out.cell 4 _ rfl
  have f5 := K1.out.frozen 5
  have c5 := K1.out.cell 5 _ rfl
  have r0 := K2.out.cell 0 _ rfl
  have r1 := K2.out.cell 1 _ rfl
  have r2 := K2.out.cell 2 _ rfl
  have r3 := K2.out.cell 3 _ rfl
  have r4 := K2.out.cell 4 _ rfl
  have r5 := K2.out.cell 5 _ rfl
  have g0 := K2.out.frozen 0
  have g1 := K2.out.frozen 1
  have g2 := K2.out.frozen 2
  have g3 := K2.out.frozen 3
  have g4 := K2.out.frozen 4
  have g5 := K2.out.frozen 5
  go_wp2_with fail
  have FB : Below w.heap.size w (((((((w4.setCell ⟨w.heap.size, 5, none⟩ (.slice E m e')).setCell ⟨w.heap.size + 1, 0, none⟩ (.int .i64 kind)).setCell ⟨w.heap.size + 1, 1, none⟩ (.int .i64 cls)).setCell ⟨w.heap.size + 1, 2, none⟩ (.int .i64 fn)).setCell ⟨w.heap.size + 1, 3, none⟩ (.int .i64 ten)).setCell ⟨w.heap.size + 1, 4, none⟩ (.slice D n d)).setCell ⟨w.heap.size + 1, 5, none⟩ (.slice E m e')) :=
    ((((((HB.out.setCell (p := ⟨_, _, none⟩) (by simp) _).setCell (p := ⟨_, _, none⟩) (by simp) _).setCell (p := ⟨_, _, none⟩) (by simp) _).setCell (p := ⟨_, _, none⟩) (by simp) _).setCell (p := ⟨_, _, none⟩) (by simp) _).setCell (p := ⟨_, _, none⟩) (by simp) _).setCell (p := ⟨_, _, none⟩) (by simp) _
  have FK : ∀ g, w.heap.size + 2 ≤ g → (((((((w4.setCell ⟨w.heap.size, 5, none⟩ (.slice E m e')).setCell ⟨w.heap.size + 1, 0, none⟩ (.int .i64 kind)).setCell ⟨w.heap.size + 1, 1, none⟩ (.int .i64 cls)).setCell ⟨w.heap.size + 1, 2, none⟩ (.int .i64 fn)).setCell ⟨w.heap.size + 1, 3, none⟩ (.int .i64 ten)).setCell ⟨w.heap.size + 1, 4, none⟩ (.slice D n d)).setCell ⟨w.heap.size + 1, 5, none⟩ (.slice E m e')).heap[g]? = w4.heap[g]? := fun g hg => by
    repeat rw [set_other _ _ _ _ g (by omega)]
  have FR : Bk (((((((w4.setCell ⟨w.heap.size, 5, none⟩ (.slice E m e')).setCell ⟨w.heap.size + 1, 0, none⟩ (.int .i64 kind)).setCell ⟨w.heap.size + 1, 1, none⟩ (.int .i64 cls)).setCell ⟨w.heap.size + 1, 2, none⟩ (.int .i64 fn)).setCell ⟨w.heap.size + 1, 3, none⟩ (.int .i64 ten)).setCell ⟨w.heap.size + 1, 4, none⟩ (.slice D n d)).setCell ⟨w.heap.size + 1, 5, none⟩ (.slice E m e')) (w.heap.size + 1) #[.int .i64 kind, .int .i64 cls, .int .i64 fn, .int .i64 ten, .slice D n d, .slice E m e'] 46 :=
    ((((((show Bk (w4.setCell ⟨w.heap.size, 5, none⟩ (.slice E m e')) (w.heap.size + 1) _ _ from (set_other _ _ _ _ _ (by omega)).trans K2.out).set 0 (.int .i64 kind)).set 1 (.int .i64 cls)).set 2 (.int .i64 fn)).set 3 (.int .i64 ten)).set 4 (.slice D n d)).set 5 (.slice E m e')
  generalize (((((((w4.setCell ⟨w.heap.size, 5, none⟩ (.slice E m e')).setCell ⟨w.heap.size + 1, 0, none⟩ (.int .i64 kind)).setCell ⟨w.heap.size + 1, 1, none⟩ (.int .i64 cls)).setCell ⟨w.heap.size + 1, 2, none⟩ (.int .i64 fn)).setCell ⟨w.heap.size + 1, 3, none⟩ (.int .i64 ten)).setCell ⟨w.heap.size + 1, 4, none⟩ (.slice D n d)).setCell ⟨w.heap.size + 1, 5, none⟩ (.slice E m e')) = w5 at *
  have FB := Lib.hid FB
  have FK := Lib.hid FK
  (try simp only [Exit.inBlock, Exit.then])
  refine bodyPost_ret (v := .agg #[.int .i64 kind, .int .i64 cls, .int .i64 fn, .int .i64 ten, .slice D n d, .slice E m e']) ?_ rfl ?_
  · exact results_cell_row rfl _ _ (w.heap.size + 1) _ _ (0, 0) _ rfl FR Tryz.underlying46 rfl (by kernel_rfl)
  · subst hn hm
    exact ⟨D, d, E, e', rfl, Lib.hid ⟨⟨w3.heap.size, by omega, own_mono (own_keep HO.out (fun g hg _ => FK.out g (by rw [World.size_alloc, World.size_alloc] at hg; omega))) (by rw [World.size_alloc, World.size_alloc]; omega), HM.out, own_keep HI.out (fun g hg _ => FK.out g (by omega))⟩, FB.out⟩⟩
end Go.Proofs.YtkdpcnikgdbmaaaGreatDoor.Hp
