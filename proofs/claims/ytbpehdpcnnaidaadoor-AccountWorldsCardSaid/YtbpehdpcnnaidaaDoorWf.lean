/-
  Worlds of rows: a field that grows, a field that is another one.
-/
import Derived.Test.YtbpehdpcnnaidaaDoorWe
import Derived.Laws.MakeOwn
namespace Go.Proofs.YtbpehdpcnnaidaaDoor.Ac
open Go Go.RowKit Va

theorem Wd.Ok.quiet {d : Wd} {w w' : World} {base K : Nat} (h : d.Ok w base K) (hg : w.grownBy w' none) : d.Ok w' base K := ⟨h.rows.quiet hg, h.small, h.n, h.one⟩
theorem Wd.Ok.alloc {d : Wd} {w : World} {base K : Nat} (h : d.Ok w base K) (o : Obj) : d.Ok (w.alloc o) base K := h.quiet (World.grownBy_alloc w o none)
theorem Wd.Ok.drewN {d : Wd} {w : World} {base K : Nat} (h : d.Ok w base K) (k : Nat) : d.Ok (w.drewN k) base K := ⟨h.rows.drewN k, h.small, h.n, h.one⟩
theorem Wd.Ok.base {d : Wd} {w : World} {base base' K : Nat} (h : d.Ok w base K) (hb : base' ≤ base) : d.Ok w base' K := ⟨h.rows.base hb, h.small, h.n, h.one⟩
theorem Wd.Ok.more {d : Wd} {w : World} {base K K' : Nat} (h : d.Ok w base K) (hK : K ≤ K') : d.Ok w base K' := ⟨h.rows, h.small, by have := h.n; omega, h.one⟩
theorem Wd.Ok.bk {d : Wd} {w w' : World} {base K g : Nat} {cs : Array Value} {T : TypeId} (h : d.Ok w base K) (hg : Bk w g cs T) (h1 : (52 : TypeId) ≠ T) (h2 : (3 : TypeId) ≠ T) (hgr : w.grownBy w' (some g)) : d.Ok w' base K :=
  ⟨h.rows.bk hg (fun k _ => rowsOf_T d T h1 h2 k) hgr, h.small, h.n, h.one⟩
theorem Wd.Ok.app0 {d : Wd} {w w' : World} {base K : Nat} (h : d.Ok w base K) (A' : Option Addr) (c' : Nat) (v : V3) (hv : v.2.2.size ≤ 1000) (hg : w.grownBy w' (Value.slice d.iA d.vs.length d.ic).ownBlock) (ho : w'.ownsRow base 52 3 (.slice A' (d.vs.length + 1) c') (d.vs.length + 1) (d.vs.flatMap vcells ++ vcells v))
    (hb : (Value.slice A' (d.vs.length + 1) c').ownBlock = (Value.slice d.iA d.vs.length d.ic).ownBlock ∨ (Value.slice A' (d.vs.length + 1) c').ownBlock = some w.heap.size) : ({ d with iA := A', vs := d.vs ++ [v], ic := c' } : Wd).Ok w' base (K + 1) := by
  have hr := h.rows.next 0 (by omega) ⟨52, 3, .slice A' (d.vs.length + 1) c', d.vs.length + 1, (d.vs.flatMap vcells ++ vcells v)⟩ hg ho hb
  have hn := h.n
  have h1 := h.one
  refine ⟨hr.congr (fun j hj => ?_), ?_, ?_, ?_⟩
  · rcases (show j = 0 ∨ j = 1 ∨ j = 2 ∨ j = 3 ∨ j = 4 by omega) with rfl | rfl | rfl | rfl | rfl
    · exact by simp [upd, rowsOf, valRow, List.flatMap_append]
    · exact rfl
    · exact rfl
    · exact rfl
    · exact rfl
  · intro u hu
    rcases List.mem_append.1 hu with hu | hu
    · exact h.small u hu
    · simp at hu; subst hu; exact hv
  · simp only [List.length_append, List.length_cons, List.length_nil]; omega
  · exact h1
theorem Wd.Ok.app1 {d : Wd} {w w' : World} {base K : Nat} (h : d.Ok w base K) (A' : Option Addr) (c' : Nat) (v : Int) (hg : w.grownBy w' (Value.slice d.cA d.cs.length d.cc).ownBlock) (ho : w'.ownsRow base 3 1 (.slice A' (d.cs.length + 1) c') (d.cs.length + 1) (d.cs.map (Value.int .i64) ++ [Value.int .i64 v]))
    (hb : (Value.slice A' (d.cs.length + 1) c').ownBlock = (Value.slice d.cA d.cs.length d.cc).ownBlock ∨ (Value.slice A' (d.cs.length + 1) c').ownBlock = some w.heap.size) : ({ d with cA := A', cs := d.cs ++ [v], cc := c' } : Wd).Ok w' base (K + 1) := by
  have hr := h.rows.next 1 (by omega) ⟨3, 1, .slice A' (d.cs.length + 1) c', d.cs.length + 1, (d.cs.map (Value.int .i64) ++ [Value.int .i64 v])⟩ hg ho hb
  have hn := h.n
  have h1 := h.one
  refine ⟨hr.congr (fun j hj => ?_), ?_, ?_, ?_⟩
  · rcases (show j = 0 ∨ j = 1 ∨ j = 2 ∨ j = 3 ∨ j = 4 by omega) with rfl | rfl | rfl | rfl | rfl
    · exact rfl
    · exact by simp [upd, rowsOf, intRow]
    · exact rfl
    · exact rfl
    · exact rfl
  · exact h.small
  · simp only [List.length_append, List.length_cons, List.length_nil]; omega
  · exact h1
theorem Wd.Ok.app2 {d : Wd} {w w' : World} {base K : Nat} (h : d.Ok w base K) (A' : Option Addr) (c' : Nat) (v : Int) (hg : w.grownBy w' (Value.slice d.hA d.hs.length d.hc).ownBlock) (ho : w'.ownsRow base 3 1 (.slice A' (d.hs.length + 1) c') (d.hs.length + 1) (d.hs.map (Value.int .i64) ++ [Value.int .i64 v]))
    (hb : (Value.slice A' (d.hs.length + 1) c').ownBlock = (Value.slice d.hA d.hs.length d.hc).ownBlock ∨ (Value.slice A' (d.hs.length + 1) c').ownBlock = some w.heap.size) : ({ d with hA := A', hs := d.hs ++ [v], hc := c' } : Wd).Ok w' base (K + 1) := by
  have hr := h.rows.next 2 (by omega) ⟨3, 1, .slice A' (d.hs.length + 1) c', d.hs.length + 1, (d.hs.map (Value.int .i64) ++ [Value.int .i64 v])⟩ hg ho hb
  have hn := h.n
  have h1 := h.one
  refine ⟨hr.congr (fun j hj => ?_), ?_, ?_, ?_⟩
  · rcases (show j = 0 ∨ j = 1 ∨ j = 2 ∨ j = 3 ∨ j = 4 by omega) with rfl | rfl | rfl | rfl | rfl
    · exact rfl
    · exact rfl
    · exact by simp [upd, rowsOf, intRow]
    · exact rfl
    · exact rfl
  · exact h.small
  · simp only [List.length_append, List.length_cons, List.length_nil]; omega
  · exact h1
theorem Wd.Ok.app3 {d : Wd} {w w' : World} {base K : Nat} (h : d.Ok w base K) (A' : Option Addr) (c' : Nat) (v : Int) (hg : w.grownBy w' (Value.slice d.fA d.fs.length d.fc).ownBlock) (ho : w'.ownsRow base 3 1 (.slice A' (d.fs.length + 1) c') (d.fs.length + 1) (d.fs.map (Value.int .i64) ++ [Value.int .i64 v]))
    (hb : (Value.slice A' (d.fs.length + 1) c').ownBlock = (Value.slice d.fA d.fs.length d.fc).ownBlock ∨ (Value.slice A' (d.fs.length + 1) c').ownBlock = some w.heap.size) : ({ d with fA := A', fs := d.fs ++ [v], fc := c' } : Wd).Ok w' base (K + 1) := by
  have hr := h.rows.next 3 (by omega) ⟨3, 1, .slice A' (d.fs.length + 1) c', d.fs.length + 1, (d.fs.map (Value.int .i64) ++ [Value.int .i64 v])⟩ hg ho hb
  have hn := h.n
  have h1 := h.one
  refine ⟨hr.congr (fun j hj => ?_), ?_, ?_, ?_⟩
  · rcases (show j = 0 ∨ j = 1 ∨ j = 2 ∨ j = 3 ∨ j = 4 by omega) with rfl | rfl | rfl | rfl | rfl
    · exact rfl
    · exact rfl
    · exact rfl
    · exact by simp [upd, rowsOf, intRow]
    · exact rfl
  · exact h.small
  · simp only [List.length_append, List.length_cons, List.length_nil]; omega
  · simp only [List.length_append, List.length_cons, List.length_nil]; omega
theorem Wd.Ok.app4 {d : Wd} {w w' : World} {base K : Nat} (h : d.Ok w base K) (A' : Option Addr) (c' : Nat) (v : Int) (hg : w.grownBy w' (Value.slice d.lA d.ls.length d.lc).ownBlock) (ho : w'.ownsRow base 3 1 (.slice A' (d.ls.length + 1) c') (d.ls.length + 1) (d.ls.map (Value.int .i64) ++ [Value.int .i64 v]))
    (hb : (Value.slice A' (d.ls.length + 1) c').ownBlock = (Value.slice d.lA d.ls.length d.lc).ownBlock ∨ (Value.slice A' (d.ls.length + 1) c').ownBlock = some w.heap.size) : ({ d with lA := A', ls := d.ls ++ [v], lc := c' } : Wd).Ok w' base (K + 1) := by
  have hr := h.rows.next 4 (by omega) ⟨3, 1, .slice A' (d.ls.length + 1) c', d.ls.length + 1, (d.ls.map (Value.int .i64) ++ [Value.int .i64 v])⟩ hg ho hb
  have hn := h.n
  have h1 := h.one
  refine ⟨hr.congr (fun j hj => ?_), ?_, ?_, ?_⟩
  · rcases (show j = 0 ∨ j = 1 ∨ j = 2 ∨ j = 3 ∨ j = 4 by omega) with rfl | rfl | rfl | rfl | rfl
    · exact rfl
    · exact rfl
    · exact rfl
    · exact rfl
    · exact by simp [upd, rowsOf, intRow]
  · exact h.small
  · simp only [List.length_append, List.length_cons, List.length_nil]; omega
  · simp only [List.length_append, List.length_cons, List.length_nil]; omega
theorem Wd.Ok.set3 {d : Wd} {w : World} {base K : Nat} (h : d.Ok w base K) (g : Nat) (hA : d.fA = some ⟨g, 0, none⟩) (i : Nat) (v : Int) : ({ d with fs := d.fs.set i v } : Wd).Ok (w.setCell ⟨g, i, none⟩ (.int .i64 v)) base K := by
  have ho := h.rows.own 3 (by omega)
  have ho' : w.ownsRow base 3 1 (.slice (some ⟨g, 0, none⟩) d.fs.length d.fc) d.fs.length (d.fs.map (Value.int .i64)) := by
    have h2 : w.ownsRow base 3 1 (.slice d.fA d.fs.length d.fc) d.fs.length (d.fs.map (Value.int .i64)) := ho
    rwa [hA] at h2
  have hs := World.ownsRow.stored ho' i (.int .i64 v)
  have hv : (rowsOf d 3).v.ownBlock = some g := by show (Value.slice d.fA _ _).ownBlock = _; rw [hA]; rfl
  have hr := h.rows.next 3 (by omega) ⟨3, 1, .slice d.fA d.fs.length d.fc, d.fs.length, (d.fs.map (Value.int .i64)).set i (.int .i64 v)⟩ (by rw [hv]; exact hs.2) (by show World.ownsRow _ _ _ _ (.slice d.fA d.fs.length d.fc) _ _; rw [hA]; exact hs.1) (.inl rfl)
  have hn := h.n
  have h1 := h.one
  refine ⟨hr.congr (fun j hj => ?_), h.small, ?_, ?_⟩
  · rcases (show j = 0 ∨ j = 1 ∨ j = 2 ∨ j = 3 ∨ j = 4 by omega) with rfl | rfl | rfl | rfl | rfl
    · exact rfl
    · exact rfl
    · exact rfl
    · exact by simp [upd, rowsOf, intRow, List.map_set]
    · exact rfl
  · simp only [List.length_set]; omega
  · simp only [List.length_set]; omega
theorem Wd.Ok.set4 {d : Wd} {w : World} {base K : Nat} (h : d.Ok w base K) (g : Nat) (hA : d.lA = some ⟨g, 0, none⟩) (i : Nat) (v : Int) : ({ d with ls := d.ls.set i v } : Wd).Ok (w.setCell ⟨g, i, none⟩ (.int .i64 v)) base K := by
  have ho := h.rows.own 4 (by omega)
  have ho' : w.ownsRow base 3 1 (.slice (some ⟨g, 0, none⟩) d.ls.length d.lc) d.ls.length (d.ls.map (Value.int .i64)) := by
    have h2 : w.ownsRow base 3 1 (.slice d.lA d.ls.length d.lc) d.ls.length (d.ls.map (Value.int .i64)) := ho
    rwa [hA] at h2
  have hs := World.ownsRow.stored ho' i (.int .i64 v)
  have hv : (rowsOf d 4).v.ownBlock = some g := by show (Value.slice d.lA _ _).ownBlock = _; rw [hA]; rfl
  have hr := h.rows.next 4 (by omega) ⟨3, 1, .slice d.lA d.ls.length d.lc, d.ls.length, (d.ls.map (Value.int .i64)).set i (.int .i64 v)⟩ (by rw [hv]; exact hs.2) (by show World.ownsRow _ _ _ _ (.slice d.lA d.ls.length d.lc) _ _; rw [hA]; exact hs.1) (.inl rfl)
  have hn := h.n
  have h1 := h.one
  refine ⟨hr.congr (fun j hj => ?_), h.small, ?_, ?_⟩
  · rcases (show j = 0 ∨ j = 1 ∨ j = 2 ∨ j = 3 ∨ j = 4 by omega) with rfl | rfl | rfl | rfl | rfl
    · exact rfl
    · exact rfl
    · exact rfl
    · exact rfl
    · exact by simp [upd, rowsOf, intRow, List.map_set]
  · simp only [List.length_set]; omega
  · simp only [List.length_set]; omega
theorem Wd.Ok.made1 {d : Wd} {w w' : World} {base K : Nat} (h : d.Ok w base K) (A' : Option Addr) (N : Nat) (zs : List Int) (hl : zs.length = N) (hN : N ≤ 1001) (hg : w.grownBy w' none) (ho : w'.ownsRow base 3 1 (.slice A' N N) N (zs.map (Value.int .i64)))
    (hb : (Value.slice A' N N).ownBlock = some w.heap.size) : ({ d with cA := A', cs := zs, cc := N } : Wd).Ok w' base (K + 1001) := by
  subst hl
  have hr : Rows5 (upd (rowsOf d) 1 ⟨3, 1, .slice A' zs.length zs.length, zs.length, zs.map (Value.int .i64)⟩) w' base := by
    have hq := h.rows.quiet hg
    refine ⟨fun j hj => ?_, fun j i hj hi hne b hjb => ?_⟩
    · unfold upd
      by_cases e : j = 1
      · rw [if_pos e]; exact ho
      · rw [if_neg e]; exact hq.own j hj
    · unfold upd at hjb ⊢
      by_cases e : j = 1
      · rw [if_pos e] at hjb
        rw [if_neg (by omega)]
        intro hi'
        have := h.rows.lt i hi b hi'
        rw [hb] at hjb; injection hjb with hjb; omega
      · rw [if_neg e] at hjb
        by_cases e2 : i = 1
        · rw [if_pos e2]
          intro hi'
          have := h.rows.lt j hj b hjb
          rw [hb] at hi'; injection hi' with hi'; omega
        · rw [if_neg e2]; exact hq.apart j i hj hi hne b hjb
  have hn := h.n
  refine ⟨hr.congr (fun j hj => ?_), h.small, ?_, h.one⟩
  · rcases (show j = 0 ∨ j = 1 ∨ j = 2 ∨ j = 3 ∨ j = 4 by omega) with rfl | rfl | rfl | rfl | rfl <;> rfl
  · simp only; omega
end Go.Proofs.YtbpehdpcnnaidaaDoor.Ac
