/-
  The reference's World: appends onto its fields.
-/
import Derived.Test.YtbpehdpcnnaidaaDoorWh
import Derived.Deep.AppendLies
namespace Go.Proofs.YtbpehdpcnnaidaaDoor.Ac
open Go Go.RowKit Va

theorem bk_next {w w' : World} {g b : Nat} {cs : Array Value} {T : TypeId} (h : Bk w g cs T) (hg : w.grownBy w' (some b)) (hne : g ≠ b) : Bk w' g cs T := by
  have hlt := h.lt
  unfold Bk at *
  rw [hg.block g hlt (by simpa using hne)]; exact h
theorem heap_alloc2 (w : World) (o o' : Obj) : ((w.alloc o).alloc o').heap[w.heap.size + 1]? = some o' := by
  have h := heap_alloc_new (w.alloc o) o'
  rwa [World.size_alloc] at h
def pick (l : List Int) (q : Nat) : Int := l.getD q 0
theorem pick_cell {w : World} {g : Nat} {l : List Int} {T : TypeId} (h : Bk w g (l.map (Value.int .i64)).toArray T) (q : Nat) (hq : q < l.length) : w.cell? ⟨g, q, none⟩ = some (.int .i64 (pick l q)) := by
  refine h.cell q _ ?_
  unfold pick
  rw [List.getElem?_toArray, List.getElem?_map, List.getD_eq_getElem?_getD, List.getElem?_eq_getElem hq]; rfl
theorem pick_F (q : Nat) (hq : q < 5) : 0 ≤ pick [400, 400, 60, 12, 1000000000000000] q ∧ pick [400, 400, 60, 12, 1000000000000000] q ≤ 1000000000000000 := by
  rcases (show q = 0 ∨ q = 1 ∨ q = 2 ∨ q = 3 ∨ q = 4 by omega) with rfl | rfl | rfl | rfl | rfl <;> exact ⟨by decide, by decide⟩
theorem pick_L (q : Nat) (hq : q < 5) : 0 ≤ pick [2000, 2000, 200, 72, 30000] q ∧ pick [2000, 2000, 200, 72, 30000] q ≤ 30000 := by
  rcases (show q = 0 ∨ q = 1 ∨ q = 2 ∨ q = 3 ∨ q = 4 by omega) with rfl | rfl | rfl | rfl | rfl <;> exact ⟨by decide, by decide⟩
theorem pick_E (q : Nat) (hq : q < 5) : 0 ≤ pick [0, 7, 20, 1, 3] q ∧ pick [0, 7, 20, 1, 3] q ≤ 1000000000 := by
  rcases (show q = 0 ∨ q = 1 ∨ q = 2 ∨ q = 3 ∨ q = 4 by omega) with rfl | rfl | rfl | rfl | rfl <;> exact ⟨by decide, by decide⟩
theorem Wst.app0 {W w w' : World} {b C n c : Nat} {A : Option Addr} {d : Wd} (h : Wst W b C A n c d w) (v : V3) (g cap H : Nat) (hH : w.heap.size = H) (hown : w'.ownsRow W.heap.size 52 3 (.slice (some ⟨g, 0, none⟩) (d.vs.length + 1) cap) (d.vs.length + 1) (d.vs.flatMap vcells ++ vcells v)) (hg : w.grownBy w' (Value.slice d.iA d.vs.length d.ic).ownBlock) (hat : (Value.slice d.iA d.vs.length d.ic).ownBlock = some g ∨ g = H) :
    Wst W b C A n c ({ d with iA := some ⟨g, 0, none⟩, vs := d.vs ++ [v], ic := cap } : Wd) (w'.setCell ⟨C, 0, none⟩ (.slice (some ⟨g, 0, none⟩) (d.vs.length + 1) cap)) ∧ w'.cell? ⟨C, 0, none⟩ = some (.slice d.iA d.vs.length d.ic) ∧ w'.frozen? ⟨C, 0, none⟩ = false := by
  refine h.app 0 (by omega) ⟨52, 3, .slice (some ⟨g, 0, none⟩) (d.vs.length + 1) cap, d.vs.length + 1, (d.vs.flatMap vcells ++ vcells v)⟩ hg hown ?_ (fun j hj => ?_) ?_
  · rcases hat with e | e
    · exact .inl e.symm
    · exact .inr (by rw [hH, ← e]; rfl)
  · rcases (show j = 0 ∨ j = 1 ∨ j = 2 ∨ j = 3 ∨ j = 4 by omega) with rfl | rfl | rfl | rfl | rfl
    · exact by simp [upd, rowsOf, valRow, List.flatMap_append]
    · exact rfl
    · exact rfl
    · exact rfl
    · exact rfl
  · simp
theorem Wst.app1 {W w w' : World} {b C n c : Nat} {A : Option Addr} {d : Wd} (h : Wst W b C A n c d w) (v : Int) (g cap H : Nat) (hH : w.heap.size = H) (hown : w'.ownsRow W.heap.size 3 1 (.slice (some ⟨g, 0, none⟩) (d.cs.length + 1) cap) (d.cs.length + 1) (d.cs.map (Value.int .i64) ++ [Value.int .i64 v])) (hg : w.grownBy w' (Value.slice d.cA d.cs.length d.cc).ownBlock) (hat : (Value.slice d.cA d.cs.length d.cc).ownBlock = some g ∨ g = H) :
    Wst W b C A n c ({ d with cA := some ⟨g, 0, none⟩, cs := d.cs ++ [v], cc := cap } : Wd) (w'.setCell ⟨C, 1, none⟩ (.slice (some ⟨g, 0, none⟩) (d.cs.length + 1) cap)) ∧ w'.cell? ⟨C, 1, none⟩ = some (.slice d.cA d.cs.length d.cc) ∧ w'.frozen? ⟨C, 1, none⟩ = false := by
  refine h.app 1 (by omega) ⟨3, 1, .slice (some ⟨g, 0, none⟩) (d.cs.length + 1) cap, d.cs.length + 1, (d.cs.map (Value.int .i64) ++ [Value.int .i64 v])⟩ hg hown ?_ (fun j hj => ?_) ?_
  · rcases hat with e | e
    · exact .inl e.symm
    · exact .inr (by rw [hH, ← e]; rfl)
  · rcases (show j = 0 ∨ j = 1 ∨ j = 2 ∨ j = 3 ∨ j = 4 by omega) with rfl | rfl | rfl | rfl | rfl
    · exact rfl
    · exact by simp [upd, rowsOf, intRow]
    · exact rfl
    · exact rfl
    · exact rfl
  · simp
theorem Wst.app2 {W w w' : World} {b C n c : Nat} {A : Option Addr} {d : Wd} (h : Wst W b C A n c d w) (v : Int) (g cap H : Nat) (hH : w.heap.size = H) (hown : w'.ownsRow W.heap.size 3 1 (.slice (some ⟨g, 0, none⟩) (d.hs.length + 1) cap) (d.hs.length + 1) (d.hs.map (Value.int .i64) ++ [Value.int .i64 v])) (hg : w.grownBy w' (Value.slice d.hA d.hs.length d.hc).ownBlock) (hat : (Value.slice d.hA d.hs.length d.hc).ownBlock = some g ∨ g = H) :
    Wst W b C A n c ({ d with hA := some ⟨g, 0, none⟩, hs := d.hs ++ [v], hc := cap } : Wd) (w'.setCell ⟨C, 2, none⟩ (.slice (some ⟨g, 0, none⟩) (d.hs.length + 1) cap)) ∧ w'.cell? ⟨C, 2, none⟩ = some (.slice d.hA d.hs.length d.hc) ∧ w'.frozen? ⟨C, 2, none⟩ = false := by
  refine h.app 2 (by omega) ⟨3, 1, .slice (some ⟨g, 0, none⟩) (d.hs.length + 1) cap, d.hs.length + 1, (d.hs.map (Value.int .i64) ++ [Value.int .i64 v])⟩ hg hown ?_ (fun j hj => ?_) ?_
  · rcases hat with e | e
    · exact .inl e.symm
    · exact .inr (by rw [hH, ← e]; rfl)
  · rcases (show j = 0 ∨ j = 1 ∨ j = 2 ∨ j = 3 ∨ j = 4 by omega) with rfl | rfl | rfl | rfl | rfl
    · exact rfl
    · exact rfl
    · exact by simp [upd, rowsOf, intRow]
    · exact rfl
    · exact rfl
  · simp
theorem Wst.app3 {W w w' : World} {b C n c : Nat} {A : Option Addr} {d : Wd} (h : Wst W b C A n c d w) (v : Int) (g cap H : Nat) (hH : w.heap.size = H) (hown : w'.ownsRow W.heap.size 3 1 (.slice (some ⟨g, 0, none⟩) (d.fs.length + 1) cap) (d.fs.length + 1) (d.fs.map (Value.int .i64) ++ [Value.int .i64 v])) (hg : w.grownBy w' (Value.slice d.fA d.fs.length d.fc).ownBlock) (hat : (Value.slice d.fA d.fs.length d.fc).ownBlock = some g ∨ g = H) :
    Wst W b C A n c ({ d with fA := some ⟨g, 0, none⟩, fs := d.fs ++ [v], fc := cap } : Wd) (w'.setCell ⟨C, 3, none⟩ (.slice (some ⟨g, 0, none⟩) (d.fs.length + 1) cap)) ∧ w'.cell? ⟨C, 3, none⟩ = some (.slice d.fA d.fs.length d.fc) ∧ w'.frozen? ⟨C, 3, none⟩ = false := by
  refine h.app 3 (by omega) ⟨3, 1, .slice (some ⟨g, 0, none⟩) (d.fs.length + 1) cap, d.fs.length + 1, (d.fs.map (Value.int .i64) ++ [Value.int .i64 v])⟩ hg hown ?_ (fun j hj => ?_) ?_
  · rcases hat with e | e
    · exact .inl e.symm
    · exact .inr (by rw [hH, ← e]; rfl)
  · rcases (show j = 0 ∨ j = 1 ∨ j = 2 ∨ j = 3 ∨ j = 4 by omega) with rfl | rfl | rfl | rfl | rfl
    · exact rfl
    · exact rfl
    · exact rfl
    · exact by simp [upd, rowsOf, intRow]
    · exact rfl
  · simp
theorem Wst.app4 {W w w' : World} {b C n c : Nat} {A : Option Addr} {d : Wd} (h : Wst W b C A n c d w) (v : Int) (g cap H : Nat) (hH : w.heap.size = H) (hown : w'.ownsRow W.heap.size 3 1 (.slice (some ⟨g, 0, none⟩) (d.ls.length + 1) cap) (d.ls.length + 1) (d.ls.map (Value.int .i64) ++ [Value.int .i64 v])) (hg : w.grownBy w' (Value.slice d.lA d.ls.length d.lc).ownBlock) (hat : (Value.slice d.lA d.ls.length d.lc).ownBlock = some g ∨ g = H) :
    Wst W b C A n c ({ d with lA := some ⟨g, 0, none⟩, ls := d.ls ++ [v], lc := cap } : Wd) (w'.setCell ⟨C, 4, none⟩ (.slice (some ⟨g, 0, none⟩) (d.ls.length + 1) cap)) ∧ w'.cell? ⟨C, 4, none⟩ = some (.slice d.lA d.ls.length d.lc) ∧ w'.frozen? ⟨C, 4, none⟩ = false := by
  refine h.app 4 (by omega) ⟨3, 1, .slice (some ⟨g, 0, none⟩) (d.ls.length + 1) cap, d.ls.length + 1, (d.ls.map (Value.int .i64) ++ [Value.int .i64 v])⟩ hg hown ?_ (fun j hj => ?_) ?_
  · rcases hat with e | e
    · exact .inl e.symm
    · exact .inr (by rw [hH, ← e]; rfl)
  · rcases (show j = 0 ∨ j = 1 ∨ j = 2 ∨ j = 3 ∨ j = 4 by omega) with rfl | rfl | rfl | rfl | rfl
    · exact rfl
    · exact rfl
    · exact rfl
    · exact rfl
    · exact by simp [upd, rowsOf, intRow]
  · simp
/-- The end: what is in C lies in D. -/
theorem world_end {wx w : World} {d : Wd} {base K D : Nat} (ho : d.Ok wx base K) (hD : Bk wx D #[.slice none 0 0, .slice none 0 0, .slice none 0 0, .slice none 0 0, .slice none 0 0, .int .i64 0] 28) (hB : Below w.heap.size w wx) (h0 : w.heap.size ≤ D) (hb : w.heap.size ≤ base) :
    ∃ wz, wz = ((((((wx.setCell ⟨D, 0, none⟩ (.slice d.iA d.vs.length d.ic)).setCell ⟨D, 1, none⟩ (.slice d.cA d.cs.length d.cc)).setCell ⟨D, 2, none⟩ (.slice d.hA d.hs.length d.hc)).setCell ⟨D, 3, none⟩ (.slice d.fA d.fs.length d.fc)).setCell ⟨D, 4, none⟩ (.slice d.lA d.ls.length d.lc)).setCell ⟨D, 5, none⟩ (.int .i64 d.ep)) ∧ Bk wz D #[.slice d.iA d.vs.length d.ic, .slice d.cA d.cs.length d.cc, .slice d.hA d.hs.length d.hc, .slice d.fA d.fs.length d.fc, .slice d.lA d.ls.length d.lc, .int .i64 d.ep] 28 ∧ d.Ok wz w.heap.size K ∧ Below w.heap.size w wz := by
  refine ⟨_, rfl, (((((hD.set 0 _).set 1 _).set 2 _).set 3 _).set 4 _).set 5 _, ?_, ?_⟩
  · have n1 : (52 : TypeId) ≠ 28 := by decide
    have n2 : (3 : TypeId) ≠ 28 := by decide
    have k0 := ho.bk hD n1 n2 (grownBy_set _ D 0 (.slice d.iA d.vs.length d.ic))
    have k1 := k0.bk (hD.set 0 _) n1 n2 (grownBy_set _ D 1 (.slice d.cA d.cs.length d.cc))
    have k2 := k1.bk ((hD.set 0 _).set 1 _) n1 n2 (grownBy_set _ D 2 (.slice d.hA d.hs.length d.hc))
    have k3 := k2.bk (((hD.set 0 _).set 1 _).set 2 _) n1 n2 (grownBy_set _ D 3 (.slice d.fA d.fs.length d.fc))
    have k4 := k3.bk ((((hD.set 0 _).set 1 _).set 2 _).set 3 _) n1 n2 (grownBy_set _ D 4 (.slice d.lA d.ls.length d.lc))
    exact (k4.bk (((((hD.set 0 _).set 1 _).set 2 _).set 3 _).set 4 _) n1 n2 (grownBy_set _ D 5 (.int .i64 d.ep))).base hb
  · exact ((((((hB.setCell (p := ⟨D, 0, none⟩) h0 _).setCell (p := ⟨D, 1, none⟩) h0 _).setCell (p := ⟨D, 2, none⟩) h0 _).setCell (p := ⟨D, 3, none⟩) h0 _).setCell (p := ⟨D, 4, none⟩) h0 _).setCell (p := ⟨D, 5, none⟩) h0 _)
theorem Wst.setEp {W w : World} {b C n c : Nat} {A : Option Addr} {d : Wd} (h : Wst W b C A n c d w) (e : Int) : Wst W b C A n c ({ d with ep := e } : Wd) (w.setCell ⟨C, 5, none⟩ (.int .i64 e)) := by
  obtain ⟨c1, c2, c3⟩ := h.st.own _ (.head _)
  refine ⟨h.st.set C _ 28 (.head _) 5 (.int .i64 e) (fun p hp => .inl (by simpa using hp)), ?_⟩
  exact (h.rows.bk c1 (fun j _ => rowsOf_T d 28 (by decide) (by decide) j) (grownBy_set w C 5 (.int .i64 e))).congr (fun j hj => by rcases (show j = 0 ∨ j = 1 ∨ j = 2 ∨ j = 3 ∨ j = 4 by omega) with rfl | rfl | rfl | rfl | rfl <;> rfl)
def okV (vs : List V3) (k : Nat) : Prop := vs.length = k ∧ ∀ v ∈ vs, valB v = true ∧ v.2.2.size ≤ 1000
def okI (zs : List Int) (k : Nat) (lo hi : Int) : Prop := zs.length = k ∧ ∀ z ∈ zs, lo ≤ z ∧ z ≤ hi
theorem okV.add {vs : List V3} {k : Nat} (h : okV vs k) (v : V3) (hv : valB v = true ∧ v.2.2.size ≤ 1000) : okV (vs ++ [v]) (k + 1) := by
  refine ⟨by rw [List.length_append, h.1]; rfl, fun u hu => ?_⟩
  rcases List.mem_append.1 hu with hu | hu
  · exact h.2 u hu
  · simp at hu; subst hu; exact hv
theorem okI.add {zs : List Int} {k : Nat} {lo hi : Int} (h : okI zs k lo hi) (v : Int) (h1 : lo ≤ v) (h2 : v ≤ hi) : okI (zs ++ [v]) (k + 1) lo hi := by
  refine ⟨by rw [List.length_append, h.1]; rfl, fun u hu => ?_⟩
  rcases List.mem_append.1 hu with hu | hu
  · exact h.2 u hu
  · simp at hu; subst hu; exact ⟨h1, h2⟩
theorem okI.num {zs : List Int} {k : Nat} {lo hi most : Int} (h : okI zs k lo hi) (hk : (k : Int) ≤ most) : numB zs most lo hi = true := by
  unfold numB inB
  rw [h.1, decide_eq_true hk, Bool.true_and, List.all_eq_true]
  exact fun z hz => decide_eq_true (h.2 z hz)
theorem world_right {d : Wd} {k1 k2 k3 k4 k5 : Nat} (h1 : okV d.vs k1) (h2 : okI d.cs k2 (-1000000000000000) 1000000000000000) (h3 : okI d.hs k3 (-1000000000) 1000000000) (h4 : okI d.fs k4 0 1000000000000000) (h5 : okI d.ls k5 0 30000) (he : 0 ≤ d.ep ∧ d.ep ≤ 1000000000) (b1 : k1 ≤ 4) (b2 : k2 ≤ 4) (b3 : k3 ≤ 4) (b4 : 1 ≤ k4 ∧ k4 ≤ 4) (b5 : k5 = k4) : rightW d = true := by
  unfold rightW
  rw [h2.num (by omega), h3.num (by omega), h4.num (by omega), h5.num (by omega), decide_eq_true he, h1.1, h4.1, h5.1, decide_eq_true (show (k1 : Int) ≤ 1000 by omega), decide_eq_true (show (0 : Int) < k4 by omega), decide_eq_true (show (k4 : Int) = k5 by omega), show d.vs.all valB = true from by rw [List.all_eq_true]; exact fun v hv => (h1.2 v hv).1]
  rfl
theorem world_ok {d : Wd} {w : World} {base k1 k2 k3 k4 k5 : Nat} (hr : Rows5 (rowsOf d) w base) (h1 : okV d.vs k1) (h2 : d.cs.length = k2) (h3 : d.hs.length = k3) (h4 : d.fs.length = k4) (h5 : d.ls.length = k5) (b1 : k1 ≤ 4) (b2 : k2 ≤ 4) (b3 : k3 ≤ 4) (b4 : 1 ≤ k4 ∧ k4 ≤ 4) (b5 : k5 = k4) : d.Ok w base 10 :=
  ⟨hr, fun v hv => (h1.2 v hv).2, by rw [h1.1]; omega, by omega⟩
end Go.Proofs.YtbpehdpcnnaidaaDoor.Ac
