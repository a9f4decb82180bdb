/-
  Contract of Alloc on a heap without a map.
-/
import Derived.Test.YtephblgakkeclaaDoorHl
import Derived.Carry
namespace Go.Proofs.YtephblgakkeclaaDoor.Hp
open Go Go.RowKit Go.Maps Va

theorem HeapA.made {w : World} {F : Nat → Prop} {p : Nat} {f : Int → Hd} {next : Int} (h : HeapA w F p none f [] next) :
    HeapA ((w.alloc (.map #[] 0)).setCell ⟨p, 0, none⟩ (.map (some w.heap.size))) (New F w.heap.size (w.heap.size + 1)) p (some w.heap.size) f [] next := by
  have hp := h.top.lt
  refine ⟨(h.top.alloc _).set 0 _, .inl h.fp, .inr ⟨w.heap.size, _, rfl, .inr ⟨Nat.le_refl _, Nat.lt_succ_self _⟩, (World.ownsMap_made w Tryd.prog 3 ptrElem).setCell (a := ⟨p, 0, none⟩) (by simp; omega) _, ?_⟩, (fun e he => by cases he), (fun e he => by cases he), List.Pairwise.nil, h.fits⟩
  exact ⟨fun i _ => by simp [ids, DataW.atKey], fun i _ => by simp [ids, Maps.has], by simp [Maps.size]⟩
set_option maxRecDepth 100000 in
set_option maxHeartbeats 1000000 in
theorem alloc_none (F P : Nat → Prop) (p : Nat) (f : Int → Hd) (next : Int) (c : Cel) (A B : Option Addr) (n nc m ic : Nat) (w : World) (h : HeapA w F p none f [] next) (hF : ∀ g, F g → g < w.heap.size) (h0 : 0 ≤ next) (hnx : next < 4398046511104)
    (hn : c.names.length = n) (hm : c.items.length = m) (hS : SlS w P A c.names) (hV : ValsAt w P B c.items) (hP : ∀ b, P b → b < w.heap.size) (hPF : ∀ b, P b → ¬ F b) (hn' : n ≤ 4398046511104) (hm' : m ≤ 4398046511104) (hs : ∀ s ∈ c.names, s.size ≤ maxLen) (hf : ∀ v ∈ c.items, v.Fits) (hB : Bnds w) (hr : c.right = true) :
    Calls Tryd.prog 6 #[.pointer (some ⟨p, 0, none⟩), celV c (.slice A n nc) (.slice B m ic)] w fun e w' => e = .returned (.tuple #[.int .i64 next, .int .i64 0]) ∧ Hid (∃ f' mb, HeapA w' (New F w.heap.size w'.heap.size) p (some mb) f' [(next, c)] (next + 1) ∧ Frm F w w') := by
  have RC := Lib.hid (right_at P c A B n nc m ic w hn hm hS hV hP hn' hm' hs hf hB hr)
  have H := Lib.hid h
  have HS := Lib.hid hS
  have HV := Lib.hid hV
  have HP := Lib.hid hP
  clear h hS hV hP hs hf hB hr
  have HNX := Lib.hid hnx
  clear hnx
  obtain ⟨kind, cls, fn, ten, names, items⟩ := c
  unfold celV at *
  simp only at RC hn hm HS HV ⊢
  have HN := Lib.hid hn
  have HM := Lib.hid hm
  clear hn hm
  go_enter Tryd.func6, Tryd.ntmps6
  go_wp2_with fail
  refine (RC.out _).mono ?_
  rintro e w2 ⟨rfl, hb, hb2⟩
  have K1 := Lib.hid ((Bk.new w _ _).below hb2 (by omega))
  clear hb2
  have k0 := K1.out.cell 0 (.int .i64 kind) rfl
  have k1 := K1.out.cell 1 (.int .i64 cls) rfl
  have k2 := K1.out.cell 2 (.int .i64 fn) rfl
  have k3 := K1.out.cell 3 (.int .i64 ten) rfl
  have k4 := K1.out.cell 4 (.slice A n nc) rfl
  have k5 := K1.out.cell 5 (.slice B m ic) rfl
  have HB := Lib.hid hb
  have H2 := Lib.hid (H.out.low hF hb)
  clear hb RC
  have p0 := H2.out.top.cell 0 (.map none) rfl
  have p1 := H2.out.top.cell 1 (.int .i64 next) rfl
  have pl := H2.out.top.lt
  have LN := H2.out.map.len
  have OM := run_nilmap
  have hmm := @run_makeMap Tryd.prog
  have PL := hF p H.out.fp
  have KL := K1.out.lt
  have f0 := H2.out.top.frozen 0
  go_wp2_with fail
  have SZ2 := HB.out.size
  have EW := World.setCell_alloc_past (w := w2) (.map #[] 0) p 0 (.map (some w2.heap.size)) pl
  have HM2 := Lib.hid H2.out.made
  have FX := Lib.hid (show Frm F w ((w2.alloc (.map #[] 0)).setCell ⟨p, 0, none⟩ (.map (some w2.heap.size))) from
    (Frm.of_below (HB.out.alloc SZ2 _)).trans (G := F) ⟨rfl, rfl, rfl, by simp [World.setCell], fun k _ hk' => set_other _ _ _ _ _ (fun e : k = p => hk' (e ▸ H.out.fp))⟩ (fun g _ h => h))
  have SZ3 : ((w2.alloc (.map #[] 0)).setCell ⟨p, 0, none⟩ (.map (some w2.heap.size))).heap.size = w2.heap.size + 1 := by simp [World.setCell]
  rw [EW] at HM2 FX SZ3
  clear EW
  generalize ((w2.setCell ⟨p, 0, none⟩ (.map (some w2.heap.size))).alloc (.map #[] 0)) = wm at *
  have HBM := Lib.hid (show Frm F w wm from FX.out)
  have hP2 : ∀ b, P b → b < w.heap.size := HP.out
  refine (add_any (New F w2.heap.size (w2.heap.size + 1)) (fun b => P b) p w2.heap.size f [] next next ⟨kind, cls, fn, ten, names, items⟩ A B n nc m ic wm HM2.out (fun g hg => by rcases hg with h | h; exact Nat.lt_of_lt_of_le (hF g h) (by omega); omega) (by have := HNX.out; unfold I64; omega) (fun e he => by cases he) (by simp) HN.out HM.out (HS.out.keep fun b hb => ⟨hb, FX.out.block b (HP.out b hb) (hPF b hb)⟩) (HV.out.keep fun b hb => ⟨hb, FX.out.block b (HP.out b hb) (hPF b hb)⟩) (fun b hb => by have := hP2 b hb; omega) hn' hm').mono ?_
  rintro e w3 ⟨rfl, hh⟩
  obtain ⟨f', H3, hk, hfr⟩ := hh.out
  have q1 := H3.top.cell 1 (.int .i64 next) rfl
  have g1 := H3.top.frozen 1
  have HX := Lib.hid (show ∃ f' mb, HeapA (w3.setCell ⟨p, 1, none⟩ (.int .i64 (next + 1))) (New F w.heap.size (w3.setCell ⟨p, 1, none⟩ (.int .i64 (next + 1))).heap.size) p (some mb) f' [(next, ⟨kind, cls, fn, ten, names, items⟩)] (next + 1) ∧ Frm F w (w3.setCell ⟨p, 1, none⟩ (.int .i64 (next + 1))) by
    have es : (w3.setCell ⟨p, 1, none⟩ (.int .i64 (next + 1))).heap.size = w3.heap.size := by simp [World.setCell]
    have s3 := hfr.size
    refine ⟨f', w2.heap.size, ?_, ?_⟩
    · rw [es]
      refine (H3.to (next + 1) (by have := HNX.out; unfold I64; omega)).keep fun g hg => ⟨?_, rfl⟩
      rcases hg with (h | h) | h
      · exact .inl h
      · exact .inr ⟨by omega, by omega⟩
      · exact .inr ⟨by omega, h.2⟩
    · refine (FX.out.trans hfr (fun g hg h => ?_)).trans (G := F) ⟨rfl, rfl, rfl, by rw [es]; exact Nat.le_refl _, fun k _ hk' => set_other _ _ _ _ _ (fun e : k = p => hk' (e ▸ H.out.fp))⟩ (fun g _ h => h)
      rcases h with h | h
      · exact h
      · omega)
  have HW : ¬ (9223372036854775807 : Int) < next + 1 := by have := HNX.out; omega
  clear hh H3 hk hfr K1 hP2 HBM HM2 FX k0 k1 k2 k3 k4 k5 p0 p1 pl LN OM hmm f0
  go_wp2_with fail
  go_ret2
  exact ⟨rfl, HX⟩
end Go.Proofs.YtephblgakkeclaaDoor.Hp
