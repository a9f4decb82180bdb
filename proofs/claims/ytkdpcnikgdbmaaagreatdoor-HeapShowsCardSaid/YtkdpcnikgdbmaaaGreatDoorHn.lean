/-
  A cell's own rows read again; Cell.
-/
import Derived.Test.YtkdpcnikgdbmaaaGreatDoorHi
import Derived.Test.YtkdpcnikgdbmaaaGreatDoorHd
namespace Go.Proofs.YtkdpcnikgdbmaaaGreatDoor.Hp
open Go Go.RowKit Go.Maps Va

theorem own_names {w : World} {base : Nat} {T : TypeId} {v : Value} {l : List ByteArray} (h : w.ownsRow base T 1 v l.length (l.map Value.string)) : ∃ A c, v = .slice A l.length c ∧ SlS w (fun g => v.ownBlock = some g) A l := by
  rcases h.2 with ⟨rfl, h0⟩ | ⟨g, cap, cur, rfl, _⟩
  · refine ⟨none, 0, by rw [h0], fun j x hx => ?_⟩
    obtain rfl : l = [] := List.length_eq_zero_iff.1 h0
    cases hx
  · refine ⟨_, _, rfl, fun j x hx => ⟨g, 0, rfl, rfl, ?_⟩⟩
    have hj := (List.getElem?_eq_some_iff.1 hx).1
    rw [Nat.zero_add, World.ownsRow.cellAt h j (by omega), List.getElem?_map, hx]
    rfl
theorem own_vals {w : World} {base : Nat} {T : TypeId} {v : Value} {l : List Val} (h : w.ownsRow base T 3 v l.length (flatV l)) : ∃ A c, v = .slice A l.length c ∧ ValsAt w (fun g => v.ownBlock = some g) A l := by
  rcases h.2 with ⟨rfl, h0⟩ | ⟨g, cap, cur, rfl, _⟩
  · refine ⟨none, 0, by rw [h0], fun j x hx => ?_⟩
    obtain rfl : l = [] := List.length_eq_zero_iff.1 h0
    cases hx
  · refine ⟨_, _, rfl, fun j x hx => ⟨g, 0, rfl, rfl, ?_⟩⟩
    have hj := (List.getElem?_eq_some_iff.1 hx).1
    obtain ⟨f0, f1, f2⟩ := flatV_at l j x hx
    rw [Nat.zero_add]
    exact ⟨(World.ownsRow.cellAt h _ (by omega)).trans f0, (World.ownsRow.cellAt h _ (by omega)).trans f1, (World.ownsRow.cellAt h _ (by omega)).trans f2⟩
theorem CellAt.rows {w : World} {d : Hd} {c : Cel} (h : CellAt w d c) : ∃ A nc B ic, d.N = .slice A c.names.length nc ∧ d.I = .slice B c.items.length ic ∧ SlS w d.has A c.names ∧ ValsAt w d.has B c.items := by
  obtain ⟨A, nc, e1, h1⟩ := own_names h.nms
  obtain ⟨B, ic, e2, h2⟩ := own_vals h.its
  exact ⟨A, nc, B, ic, e1, e2, h1.keep fun g hg => ⟨.inr (.inl hg), rfl⟩, h2.keep fun g hg => ⟨.inr (.inr hg), rfl⟩⟩
theorem HeapA.of {w : World} {F : Nat → Prop} {p : Nat} {mb : Option Nat} {f : Int → Hd} {l : List Ent} {next : Int} (h : HeapA w F p mb f l next) {id : Int} {c : Cel} (hm : (id, c) ∈ l) : ptrOf l f id = some ⟨(f id).b, 0, none⟩ ∧ CellAt w (f id) c :=
  ⟨if_pos (List.mem_map.2 ⟨_, hm, rfl⟩), (h.cells _ hm).1⟩
set_option maxHeartbeats 1000000 in
theorem get_cell (F : Nat → Prop) (p : Nat) (mb : Option Nat) (f : Int → Hd) (l : List Ent) (next id : Int) (c : Cel) (w : World) (h : HeapA w F p mb f l next) (hF : ∀ g, F g → g < w.heap.size) (hid : I64 id) (hm : (id, c) ∈ l) (hn : c.names.length ≤ 4398046511104) (hi : c.items.length ≤ 4398046511104) :
    Calls Tryz.prog 26 #[.pointer (some ⟨p, 0, none⟩), .int .i64 id] w fun e w' => ∃ D d E e', e = .returned (.tuple #[celV c (.slice D c.names.length d) (.slice E c.items.length e'), .bool true]) ∧ Hid ((∃ b M, w.heap.size ≤ b ∧ OwnC w' b M c (.slice D c.names.length d) (.slice E c.items.length e')) ∧ Below w.heap.size w w') := by
  obtain ⟨hp, hc⟩ := h.of hm
  have CA := Lib.hid (fun (o : Obj) => cell_any F p mb f l next id (w.alloc o) (h.low hF ((Below.refl _ w).alloc (Nat.le_refl _) o)) hid)
  rw [hp] at CA
  have LT := Lib.hid (fun g (hg : (f id).has g) => Hd.lt_of hc hg)
  obtain ⟨A, nc, B, ic, e1, e2, hS, hV⟩ := hc.rows
  have hb := hc.blk
  unfold rowC at hb
  rw [e1, e2] at hb
  have DU := Lib.hid (fun (o : Obj) => dup_any (f id).has c A B c.names.length nc c.items.length ic (w.alloc o) rfl rfl (hS.low LT.out ((Below.refl _ w).alloc (Nat.le_refl _) o)) (hV.low LT.out ((Below.refl _ w).alloc (Nat.le_refl _) o)) (fun b hb => by have := LT.out b hb; simp; omega) hn hi)
  clear h hm hp hS hV hc e1 e2
  generalize (f id).b = cb at *
  obtain ⟨kind, cls, fn, ten, names, items⟩ := c
  unfold celV at *
  simp only at DU hb ⊢
  have bl := hb.lt
  have k0 := hb.cell 0 (.int .i64 kind) rfl
  have k1 := hb.cell 1 (.int .i64 cls) rfl
  have k2 := hb.cell 2 (.int .i64 fn) rfl
  have k3 := hb.cell 3 (.int .i64 ten) rfl
  have k4 := hb.cell 4 (.slice A names.length nc) rfl
  have k5 := hb.cell 5 (.slice B items.length ic) rfl
  clear hb
  go_enter Tryz.func26, Tryz.ntmps26
  go_wp2_with fail
  refine (CA.out _).mono ?_
  rintro e w1 ⟨rfl, rfl⟩
  go_wp2_with fail
  refine (DU.out _).mono ?_
  rintro e w2 ⟨D, d, E, e', rfl, hh⟩
  have K2 := Lib.hid ((Bk.new w _ _).below hh.out.2 (by simp))
  have HB := Lib.hid (((Below.refl _ w).alloc (Nat.le_refl _) _).trans (hh.out.2.mono (by simp)))
  have OC := Lib.hid hh.out.1
  clear hh
  have r0 := K2.out.cell 0 (.int .i64 0) rfl
  have r1 := K2.out.cell 1 (.int .i64 0) rfl
  have r2 := K2.out.cell 2 (.int .i64 0) rfl
  have r3 := K2.out.cell 3 (.int .i64 0) rfl
  have r4 := K2.out.cell 4 (.slice none 0 0) rfl
  have r5 := K2.out.cell 5 (.slice none 0 0) rfl
  have g0 := K2.out.frozen 0
  have g1 := K2.out.frozen 1
  have g2 := K2.out.frozen 2
  have g3 := K2.out.frozen 3
  have g4 := K2.out.frozen 4
  have g5 := K2.out.frozen 5
  have FB := Lib.hid (show Below w.heap.size w ((((((w2.setCell ⟨w.heap.size, 0, none⟩ (.int .i64 kind)).setCell ⟨w.heap.size, 1, none⟩ (.int .i64 cls)).setCell ⟨w.heap.size, 2, none⟩ (.int .i64 fn)).setCell ⟨w.heap.size, 3, none⟩ (.int .i64 ten)).setCell ⟨w.heap.size, 4, none⟩ (.slice D names.length d)).setCell ⟨w.heap.size, 5, none⟩ (.slice E items.length e')) from ((((((((((((HB.out).setCell (p := ⟨_, _, none⟩) (by simp) _)).setCell (p := ⟨_, _, none⟩) (by simp) _)).setCell (p := ⟨_, _, none⟩) (by simp) _)).setCell (p := ⟨_, _, none⟩) (by simp) _)).setCell (p := ⟨_, _, none⟩) (by simp) _)).setCell (p := ⟨_, _, none⟩) (by simp) _))
  have FK := Lib.hid (show ∀ g, w.heap.size < g → ((((((w2.setCell ⟨w.heap.size, 0, none⟩ (.int .i64 kind)).setCell ⟨w.heap.size, 1, none⟩ (.int .i64 cls)).setCell ⟨w.heap.size, 2, none⟩ (.int .i64 fn)).setCell ⟨w.heap.size, 3, none⟩ (.int .i64 ten)).setCell ⟨w.heap.size, 4, none⟩ (.slice D names.length d)).setCell ⟨w.heap.size, 5, none⟩ (.slice E items.length e')).heap[g]? = w2.heap[g]? from fun g hg => by
    repeat rw [set_other _ _ _ _ g (by omega)])
  have FR : Bk ((((((w2.setCell ⟨w.heap.size, 0, none⟩ (.int .i64 kind)).setCell ⟨w.heap.size, 1, none⟩ (.int .i64 cls)).setCell ⟨w.heap.size, 2, none⟩ (.int .i64 fn)).setCell ⟨w.heap.size, 3, none⟩ (.int .i64 ten)).setCell ⟨w.heap.size, 4, none⟩ (.slice D names.length d)).setCell ⟨w.heap.size, 5, none⟩ (.slice E items.length e')) w.heap.size #[.int .i64 kind, .int .i64 cls, .int .i64 fn, .int .i64 ten, .slice D names.length d, .slice E items.length e'] 46 :=
    (((((K2.out.set 0 (.int .i64 kind)).set 1 (.int .i64 cls)).set 2 (.int .i64 fn)).set 3 (.int .i64 ten)).set 4 (.slice D names.length d)).set 5 (.slice E items.length e')
  go_wp2_with fail
  generalize ((((((w2.setCell ⟨w.heap.size, 0, none⟩ (.int .i64 kind)).setCell ⟨w.heap.size, 1, none⟩ (.int .i64 cls)).setCell ⟨w.heap.size, 2, none⟩ (.int .i64 fn)).setCell ⟨w.heap.size, 3, none⟩ (.int .i64 ten)).setCell ⟨w.heap.size, 4, none⟩ (.slice D names.length d)).setCell ⟨w.heap.size, 5, none⟩ (.slice E items.length e')) = w5 at *
  have x0 := FR.cell 0 (.int .i64 kind) rfl
  have x1 := FR.cell 1 (.int .i64 cls) rfl
  have x2 := FR.cell 2 (.int .i64 fn) rfl
  have x3 := FR.cell 3 (.int .i64 ten) rfl
  have x4 := FR.cell 4 (.slice D names.length d) rfl
  have x5 := FR.cell 5 (.slice E items.length e') rfl
  (try simp only [Exit.inBlock, Exit.then])
  refine bodyPost_ret (v := .tuple #[.agg #[.int .i64 kind, .int .i64 cls, .int .i64 fn, .int .i64 ten, .slice D names.length d, .slice E items.length e'], .bool true]) ?_ rfl ?_
  · rw [results_cell_tmp rfl]
    go_simp
  · obtain ⟨M, h1, h2, h3, h4⟩ := OC.out
    exact ⟨D, d, E, e', rfl, Lib.hid ⟨⟨_, M, (by rw [World.size_alloc]; omega), h1, own_keep h2 (fun g hg _ => FK.out g (by rw [World.size_alloc] at hg; omega)), h3, own_keep h4 (fun g hg _ => FK.out g (by rw [World.size_alloc] at h1; omega))⟩, FB.out⟩⟩
theorem get_none (F : Nat → Prop) (p : Nat) (mb : Option Nat) (f : Int → Hd) (l : List Ent) (next id : Int) (w : World) (h : HeapA w F p mb f l next) (hF : ∀ g, F g → g < w.heap.size) (hid : I64 id) (hm : id ∉ ids l) :
    Calls Tryz.prog 26 #[.pointer (some ⟨p, 0, none⟩), .int .i64 id] w fun e w' => e = .returned (.tuple #[celV ⟨0, 0, 0, 0, [], []⟩ (.slice none 0 0) (.slice none 0 0), .bool false]) ∧ Below w.heap.size w w' := by
  have CA := Lib.hid (fun (o : Obj) => cell_any F p mb f l next id (w.alloc o) (h.low hF ((Below.refl _ w).alloc (Nat.le_refl _) o)) hid)
  rw [show ptrOf l f id = none from if_neg hm] at CA
  clear h hm
  unfold celV at *
  simp only
  go_enter Tryz.func26, Tryz.ntmps26
  go_wp2_with fail
  refine (CA.out _).mono ?_
  rintro e w1 ⟨rfl, rfl⟩
  go_wp2_with fail
  (try simp only [Exit.inBlock, Exit.then])
  refine bodyPost_ret (v := .tuple #[.agg #[.int .i64 0, .int .i64 0, .int .i64 0, .int .i64 0, .slice none 0 0, .slice none 0 0], .bool false]) ?_ rfl ?_
  · rw [results_cell_tmp rfl]
    go_simp
  · exact ⟨rfl, (Below.refl _ w).alloc (Nat.le_refl _) _⟩
end Go.Proofs.YtkdpcnikgdbmaaaGreatDoor.Hp
