/-
  Contracts of Alloc: refused by number, carried out.
-/
import Derived.Test.YtephblgakkeclaaDoorHk
namespace Go.Proofs.YtephblgakkeclaaDoor.Hp
open Go Go.RowKit Go.Maps Va

theorem MapA.len {w : World} {F : Nat → Prop} {mb : Option Nat} {l : List Ent} {f : Int → Hd} (h : MapA w F mb l f) (ty : TypeId) :
    (Builtin.len_ #[54] ty #[.map mb]).run Tryd.prog w = .ok (.int .i64 l.length) w := by
  rcases h with ⟨rfl, rfl⟩ | ⟨b, D, rfl, hb, ho, hD⟩
  · exact Maps.len_nil Tryd.underlying54 ty
  · rw [ho.len Tryd.underlying54 ty, hD.size_]
theorem right_at (P : Nat → Prop) (c : Cel) (A B : Option Addr) (n nc m ic : Nat) (w : World) (hn : c.names.length = n) (hm : c.items.length = m) (hS : SlS w P A c.names) (hV : ValsAt w P B c.items) (hP : ∀ b, P b → b < w.heap.size) (hn' : n ≤ 4398046511104) (hm' : m ≤ 4398046511104) (hs : ∀ s ∈ c.names, s.size ≤ maxLen) (hf : ∀ v ∈ c.items, v.Fits) (hB : Bnds w) (hr : c.right = true) (o : Obj) :
    Calls Tryd.prog 23 #[celV c (.slice A n nc) (.slice B m ic)] (w.alloc o) fun e w' => e = .returned (.bool true) ∧ Below w.heap.size w w' ∧ Below (w.heap.size + 1) (w.alloc o) w' := by
  refine (right_cell P c n m A B nc ic (w.alloc o) hn hm (hS.low hP ((Below.refl _ w).alloc (Nat.le_refl _) o)) (hV.low hP ((Below.refl _ w).alloc (Nat.le_refl _) o)) (fun b hb => by have := hP b hb; simp; omega) hn' hm' hs hf (fun i hi => by rw [((Below.refl _ w).alloc (Nat.le_refl _) o).cell (by exact hB.size)]; exact hB i hi)).mono ?_
  rintro e w2 ⟨rfl, hb⟩
  exact ⟨by rw [hr], ((Below.refl _ w).alloc (Nat.le_refl _) _).trans (hb.mono (by simp)), hb.mono (by simp)⟩
set_option maxHeartbeats 1000000 in
theorem alloc_many (F P : Nat → Prop) (p : Nat) (mb : Option Nat) (f : Int → Hd) (l : List Ent) (next : Int) (c : Cel) (A B : Option Addr) (n nc m ic : Nat) (w : World) (h : HeapA w F p mb f l next) (hF : ∀ g, F g → g < w.heap.size)
    (hn : c.names.length = n) (hm : c.items.length = m) (hS : SlS w P A c.names) (hV : ValsAt w P B c.items) (hP : ∀ b, P b → b < w.heap.size) (hn' : n ≤ 4398046511104) (hm' : m ≤ 4398046511104) (hs : ∀ s ∈ c.names, s.size ≤ maxLen) (hf : ∀ v ∈ c.items, v.Fits) (hB : Bnds w) (hr : c.right = true) (hl : 8000 ≤ l.length) :
    Calls Tryd.prog 6 #[.pointer (some ⟨p, 0, none⟩), celV c (.slice A n nc) (.slice B m ic)] w fun e w' => e = .returned (.tuple #[.int .i64 0, .int .i64 2]) ∧ Below w.heap.size w w' := by
  have RC := Lib.hid (right_at P c A B n nc m ic w hn hm hS hV hP hn' hm' hs hf hB hr)
  have H := Lib.hid h
  clear h hS hV hP hs hf hB hn hm hr
  have hl' : ¬ ((l.length : Int) < 8000) := by omega
  obtain ⟨kind, cls, fn, ten, names, items⟩ := c
  unfold celV at *
  simp only at RC ⊢
  go_enter Tryd.func6, Tryd.ntmps6
  go_wp2_with fail
  refine (RC.out _).mono ?_
  rintro e w2 ⟨rfl, hb, -⟩
  have HB := Lib.hid hb
  have H2 := Lib.hid (H.out.low hF hb)
  clear hb RC
  have p0 := H2.out.top.cell 0 (.map mb) rfl
  have pl := H2.out.top.lt
  have LN := H2.out.map.len
  go_wp2_with fail
  go_ret2
  exact ⟨rfl, HB.out⟩
theorem run_onemap (m : Nat) (w : World) : (binOp .eql 54 (.map (some m)) (.map none)).run Tryd.prog w = .ok (.bool false) w := by kernel_rfl
theorem run_nilmap (w : World) : (binOp .eql 54 (.map none) (.map none)).run Tryd.prog w = .ok (.bool true) w := by kernel_rfl
theorem CellAt.ne_top {w : World} {d : Hd} {c : Cel} {p : Nat} {cs : Array Value} (h : CellAt w d c) (hp : Bk w p cs 56) {g : Nat} (hg : d.has g) : g ≠ p := by
  rintro rfl
  unfold Bk at hp
  rcases hg with rfl | hg | hg
  · have := h.blk
    unfold Bk at this
    rw [hp] at this
    simp at this
  · obtain ⟨_, cur, h'⟩ := row_cells h.nms hg
    rw [hp] at h'
    simp at h'
  · obtain ⟨_, cur, h'⟩ := row_cells h.its hg
    rw [hp] at h'
    simp at h'
theorem HeapA.to {w : World} {F : Nat → Prop} {p : Nat} {mb : Option Nat} {f : Int → Hd} {l : List Ent} {next : Int} (h : HeapA w F p mb f l next) (nx : Int) (hn : I64 nx) : HeapA (w.setCell ⟨p, 1, none⟩ (.int .i64 nx)) F p mb f l nx := by
  refine ⟨h.top.set 1 (.int .i64 nx), h.fp, ?_, fun e he => ⟨(h.cells e he).1.keep fun g hg => set_other _ _ _ _ _ ((h.cells e he).1.ne_top h.top hg), (h.cells e he).2⟩, h.apart, h.sorted, hn⟩
  rcases h.map with h' | ⟨b, D, rfl, hb, ho, hD⟩
  · exact .inl h'
  · refine .inr ⟨b, D, rfl, hb, ho.setCell (a := ⟨p, 1, none⟩) ?_ _, hD⟩
    rintro rfl
    obtain ⟨es, cl, h'⟩ := own_isMap ho
    have := h.top
    unfold Bk at this
    rw [h'] at this
    cases this
set_option maxRecDepth 100000 in
set_option maxHeartbeats 1000000 in
theorem alloc_some (F P : Nat → Prop) (p mb : Nat) (f : Int → Hd) (l : List Ent) (next : Int) (c : Cel) (A B : Option Addr) (n nc m ic : Nat) (w : World) (h : HeapA w F p (some mb) f l next) (hF : ∀ g, F g → g < w.heap.size) (hlast : ∀ e ∈ l, e.1 < next) (h0 : 0 ≤ next) (hnx : next < 4398046511104)
    (hn : c.names.length = n) (hm : c.items.length = m) (hS : SlS w P A c.names) (hV : ValsAt w P B c.items) (hP : ∀ b, P b → b < w.heap.size) (hn' : n ≤ 4398046511104) (hm' : m ≤ 4398046511104) (hs : ∀ s ∈ c.names, s.size ≤ maxLen) (hf : ∀ v ∈ c.items, v.Fits) (hB : Bnds w) (hr : c.right = true) (hl : l.length < 8000) :
    Calls Tryd.prog 6 #[.pointer (some ⟨p, 0, none⟩), celV c (.slice A n nc) (.slice B m ic)] w fun e w' => e = .returned (.tuple #[.int .i64 next, .int .i64 0]) ∧ Hid (∃ f', HeapA w' (New F w.heap.size w'.heap.size) p (some mb) f' (l ++ [(next, c)]) (next + 1) ∧ (∀ i ∈ ids l, f' i = f i) ∧ Frm F w w') := by
  have RC := Lib.hid (right_at P c A B n nc m ic w hn hm hS hV hP hn' hm' hs hf hB hr)
  have H := Lib.hid h
  have HS := Lib.hid hS
  have HV := Lib.hid hV
  have HP := Lib.hid hP
  clear h hS hV hP hs hf hB hr
  have hl' : ((l.length : Int) < 8000) := by omega
  have HLA := Lib.hid hlast
  have HNX := Lib.hid hnx
  clear hlast hnx
  obtain ⟨kind, cls, fn, ten, names, items⟩ := c
  unfold celV at *
  simp only at RC hn hm HS HV ⊢
  have HN := Lib.hid hn
  have HM := Lib.hid hm
  clear hn hm
  go_enter Tryd.func6, Tryd.ntmps6
  go_wp2_with fail
  refine (RC.out _).mono ?_
  rintro e w2 ⟨rfl, hb, hb2⟩
  have K1 := Lib.hid ((Bk.new w _ _).below hb2 (by omega))
  clear hb2
  have k0 := K1.out.cell 0 (.int .i64 kind) rfl
  have k1 := K1.out.cell 1 (.int .i64 cls) rfl
  have k2 := K1.out.cell 2 (.int .i64 fn) rfl
  have k3 := K1.out.cell 3 (.int .i64 ten) rfl
  have k4 := K1.out.cell 4 (.slice A n nc) rfl
  have k5 := K1.out.cell 5 (.slice B m ic) rfl
  have HB := Lib.hid hb
  have H2 := Lib.hid (H.out.low hF hb)
  clear hb RC
  have p0 := H2.out.top.cell 0 (.map (some mb)) rfl
  have p1 := H2.out.top.cell 1 (.int .i64 next) rfl
  have pl := H2.out.top.lt
  have LN := H2.out.map.len
  have OM := run_onemap mb
  go_wp2_with fail
  refine (add_any F P p mb f l next next ⟨kind, cls, fn, ten, names, items⟩ A B n nc m ic w2 H2.out (fun g hg => Nat.lt_of_lt_of_le (hF g hg) HB.out.size) (by have := HNX.out; unfold I64; omega) HLA.out (by omega) HN.out HM.out (HS.out.low HP.out HB.out) (HV.out.low HP.out HB.out) (fun b hb => Nat.lt_of_lt_of_le (HP.out b hb) HB.out.size) hn' hm').mono ?_
  rintro e w3 ⟨rfl, hh⟩
  obtain ⟨f', H3, hk, hfr⟩ := hh.out
  have SZ2 := HB.out.size
  have q1 := H3.top.cell 1 (.int .i64 next) rfl
  have g1 := H3.top.frozen 1
  have FP := H3.fp
  have HX := Lib.hid (show ∃ f', HeapA (w3.setCell ⟨p, 1, none⟩ (.int .i64 (next + 1))) (New F w.heap.size (w3.setCell ⟨p, 1, none⟩ (.int .i64 (next + 1))).heap.size) p (some mb) f' (l ++ [(next, ⟨kind, cls, fn, ten, names, items⟩)]) (next + 1) ∧ (∀ i ∈ ids l, f' i = f i) ∧ Frm F w (w3.setCell ⟨p, 1, none⟩ (.int .i64 (next + 1))) by
    have es : (w3.setCell ⟨p, 1, none⟩ (.int .i64 (next + 1))).heap.size = w3.heap.size := by simp [World.setCell]
    have fp : F p := by
      rcases FP with h | h
      · exact h
      · have := hF p H.out.fp; omega
    refine ⟨f', ?_, hk, ?_⟩
    · rw [es]
      exact (H3.to (next + 1) (by have := HNX.out; unfold I64; omega)).keep fun g hg => ⟨by rcases hg with h | h; exact .inl h; exact .inr ⟨by omega, h.2⟩, rfl⟩
    · refine ((Frm.of_below HB.out).trans (hfr) (fun g _ h => h)).trans (G := F) ⟨rfl, rfl, rfl, by rw [es]; exact Nat.le_refl _, fun k _ hk' => set_other _ _ _ _ _ (fun e : k = p => hk' (e ▸ fp))⟩ (fun g _ h => h))
  have HW : ¬ (9223372036854775807 : Int) < next + 1 := by have := HNX.out; omega
  clear hh H3 hk hfr FP K1 k0 k1 k2 k3 k4 k5 p0 p1 pl LN OM
  go_wp2_with fail
  go_ret2
  exact ⟨rfl, HX⟩
end Go.Proofs.YtephblgakkeclaaDoor.Hp
