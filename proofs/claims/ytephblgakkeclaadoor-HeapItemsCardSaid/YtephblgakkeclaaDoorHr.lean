/-
  Operands as data; Deref and Len with their faults.
-/
import Derived.Test.YtephblgakkeclaaDoorHq
namespace Go.Proofs.YtephblgakkeclaaDoor.Hp
open Go Go.RowKit Go.Maps Va

def look (l : List Ent) (id : Int) : Option Cel := (l.find? fun e => e.1 == id).map Prod.snd
theorem look_some {l : List Ent} {id : Int} {c : Cel} (h : look l id = some c) : (id, c) ∈ l := by
  unfold look at h
  obtain ⟨e, he, rfl⟩ := Option.map_eq_some_iff.1 h
  have h1 := List.find?_some he
  have h2 := List.mem_of_find?_eq_some he
  obtain ⟨i, c⟩ := e
  simp at h1
  subst h1
  exact h2
theorem look_none {l : List Ent} {id : Int} (h : look l id = none) : id ∉ ids l := by
  unfold look at h
  rw [Option.map_eq_none_iff, List.find?_eq_none] at h
  intro hm
  obtain ⟨e, he, rfl⟩ := List.mem_map.1 hm
  exact h e he (by simp)
theorem mem_uniq {l : List Ent} (hs : (ids l).Pairwise (· < ·)) {id : Int} {c c' : Cel} (h : (id, c) ∈ l) (h' : (id, c') ∈ l) : c = c' := by
  induction l with
  | nil => cases h
  | cons e l ih =>
    unfold ids at hs ih
    rw [List.map_cons, List.pairwise_cons] at hs
    rcases List.mem_cons.1 h with h1 | h1 <;> rcases List.mem_cons.1 h' with h2 | h2
    · rw [← h1] at h2
      exact (Prod.mk.inj h2).2.symm
    · have := hs.1 id (List.mem_map.2 ⟨(id, c'), h2, rfl⟩)
      rw [← h1] at this
      simp at this
    · have := hs.1 id (List.mem_map.2 ⟨(id, c), h1, rfl⟩)
      rw [← h2] at this
      simp at this
    · exact ih hs.2 h1 h2
theorem look_mem {l : List Ent} (hs : (ids l).Pairwise (· < ·)) {id : Int} {c : Cel} (h : (id, c) ∈ l) : look l id = some c := by
  cases hl : look l id with
  | none => exact absurd (List.mem_map.2 ⟨_, h, rfl⟩) (look_none hl)
  | some c' => rw [mem_uniq hs h (look_some hl)]
/-- The cell that a value denotes. -/
def denC (l : List Ent) (v : Val) : Option Cel := if v.k = 5 then look l v.n else none
theorem denC_none {l : List Ent} {v : Val} (f : Int → Hd) (h : denC l v = none) : denOf l f v = none := by
  unfold denC at h
  unfold denOf
  split at h
  · rename_i hk
    rw [if_pos hk]
    exact if_neg (look_none h)
  · rename_i hk
    rw [if_neg hk]
theorem denC_some {l : List Ent} {v : Val} {c : Cel} (h : denC l v = some c) : v.k = 5 ∧ (v.n, c) ∈ l := by
  unfold denC at h
  split at h
  · rename_i hk
    exact ⟨hk, look_some h⟩
  · cases h
def anyU (v : Val) (o : List Val) : Bool := v.k == 0 || o.any (fun v => v.k == 0)
/-- The fault of an operand; the empty string where there is none. -/
def operF (l : List Ent) (kind : Int) (v : Val) (o : List Val) : ByteArray :=
  if anyU v o then sUnset else match denC l v with
  | none => sType
  | some c => if c.kind = kind then ⟨#[]⟩ else sType
theorem operF_cases (l : List Ent) (kind : Int) (v : Val) (o : List Val) : (operF l kind v o = sUnset ∧ anyU v o = true) ∨ (operF l kind v o = sType ∧ anyU v o = false ∧ denC l v = none) ∨ (operF l kind v o = sType ∧ anyU v o = false ∧ ∃ c, denC l v = some c ∧ c.kind ≠ kind) ∨ (operF l kind v o = ⟨#[]⟩ ∧ anyU v o = false ∧ ∃ c, denC l v = some c ∧ c.kind = kind) := by
  unfold operF
  cases h : anyU v o
  · rw [if_neg (by simp)]
    cases hd : denC l v with
    | none => exact .inr (.inl ⟨rfl, rfl, rfl⟩)
    | some c =>
      by_cases hk : c.kind = kind
      · exact .inr (.inr (.inr ⟨by simp [hk], rfl, c, rfl, hk⟩))
      · exact .inr (.inr (.inl ⟨by simp [hk], rfl, c, rfl, hk⟩))
  · exact .inl ⟨rfl, rfl⟩
theorem sUnset_full : sUnset.toList.isEmpty = false := by rw [ByteArray.toList_eq]; rfl
theorem sType_full : sType.toList.isEmpty = false := by rw [ByteArray.toList_eq]; rfl
theorem eb_empty : (⟨#[]⟩ : ByteArray).toList.isEmpty = true := by rw [ByteArray.toList_eq]; rfl
theorem operF_full {l : List Ent} {kind : Int} {v : Val} {o : List Val} (h : operF l kind v o ≠ ⟨#[]⟩) : (operF l kind v o).toList.isEmpty = false := by
  rcases operF_cases l kind v o with ⟨e, _⟩ | ⟨e, _⟩ | ⟨e, _⟩ | ⟨e, _⟩
  · rw [e]; exact sUnset_full
  · rw [e]; exact sType_full
  · rw [e]; exact sType_full
  · exact absurd e h
theorem operF_good {l : List Ent} {kind : Int} {v : Val} {o : List Val} (h : operF l kind v o = ⟨#[]⟩) : anyU v o = false ∧ ∃ c, denC l v = some c ∧ c.kind = kind := by
  rcases operF_cases l kind v o with ⟨e, _⟩ | ⟨e, _⟩ | ⟨e, _⟩ | ⟨_, h1, h2⟩
  · have := sUnset_full; rw [← e, h, eb_empty] at this; cases this
  · have := sType_full; rw [← e, h, eb_empty] at this; cases this
  · have := sType_full; rw [← e, h, eb_empty] at this; cases this
  · exact ⟨h1, h2⟩
theorem oper_bad (F P : Nat → Prop) (p : Nat) (mb : Option Nat) (f : Int → Hd) (l : List Ent) (next kind : Int) (v : Val) (A : Option Addr) (o : List Val) (n c : Nat) (w : World) (H : HeapA w F p mb f l next) (hF : ∀ g, F g → g < w.heap.size) (hn : o.length = n) (h : ValsAt w P A o) (hP : ∀ b, P b → b < w.heap.size) (hl : n ≤ 4398046511104) (hid : I64 v.n)
    (hu : operF l kind v o ≠ ⟨#[]⟩) :
    Calls Tryd.prog 27 #[.pointer (some ⟨p, 0, none⟩), .int .i64 kind, valV v, .slice A n c] w fun e w' => e = .returned (.tuple #[.pointer none, .string (operF l kind v o)]) ∧ Below w.heap.size w w' := by
  rcases operF_cases l kind v o with ⟨e, h1⟩ | ⟨e, h1, h2⟩ | ⟨e, h1, c0, h2, h3⟩ | ⟨e, _⟩
  · rw [e]; exact oper_unset P _ kind v A o n c w hn h hP hl h1
  · rw [e]; exact oper_none F P p mb f l next kind v A o n c w H hF hn h hP hl hid h1 (denC_none f h2)
  · rw [e]; exact oper_other F P p mb f l next kind v A o n c w H hF hn h hP hl hid h1 c0 (denC_some h2).1 (denC_some h2).2 h3
  · exact absurd e hu
set_option maxHeartbeats 1000000 in
theorem deref_bad (F : Nat → Prop) (p : Nat) (mb : Option Nat) (f : Int → Hd) (l : List Ent) (next : Int) (v : Val) (w : World) (H : HeapA w F p mb f l next) (hF : ∀ g, F g → g < w.heap.size) (hid : I64 v.n) (hu : operF l 4 v [] ≠ ⟨#[]⟩) :
    Calls Tryd.prog 19 #[.pointer (some ⟨p, 0, none⟩), valV v] w fun e w' => e = .returned (.tuple #[valV ⟨0, 0, ⟨#[]⟩⟩, .string (operF l 4 v [])]) ∧ Below w.heap.size w w' := by
  have OP := Lib.hid (fun (w' : World) (hb : Below w.heap.size w w') => oper_bad F (fun _ => False) p mb f l next 4 v none [] 0 0 w' (H.low hF hb) (fun g hg => Nat.lt_of_lt_of_le (hF g hg) hb.size) rfl (nil_vals _ _) (fun b h => h.elim) (by omega) hid hu)
  have hte := operF_full hu
  clear H hF hu
  generalize operF l 4 v [] = flt at *
  unfold valV at *
  go_enter Tryd.func19, Tryd.ntmps19
  go_wp2_with fail
  refine (OP.out _ (by (repeat' (first | exact Below.refl _ _ | refine Below.alloc ?_ (by simp <;> omega) _)))).mono ?_
  rintro e w2 ⟨rfl, hb⟩
  have K2 := Lib.hid (Bk.below (heap_alloc2_new w _ _ : Bk _ _ _ _) hb (by simp))
  have HB := Lib.hid (Below.trans (by (repeat' (first | exact Below.refl _ _ | refine Below.alloc ?_ (by simp <;> omega) _)) : Below w.heap.size w _) (hb.mono (by simp; omega)))
  clear hb OP
  have r0 := K2.out.cell 0 (.int .i64 0) rfl
  have r1 := K2.out.cell 1 (.int .i64 0) rfl
  have r2 := K2.out.cell 2 (.string ⟨#[]⟩) rfl
  have g0 := K2.out.frozen 0
  have g1 := K2.out.frozen 1
  have g2 := K2.out.frozen 2
  go_wp2_with fail
  (try simp only [Exit.inBlock, Exit.then])
  refine bodyPost_ret (v := .tuple #[.agg #[.int .i64 0, .int .i64 0, .string ⟨#[]⟩], .string flt]) ?_ rfl ?_
  · rw [results_cell_tmp rfl]
    go_simp
  · exact ⟨rfl, by (repeat' (first | exact HB.out | refine Below.setCell ?_ (by simp) _))⟩
set_option maxHeartbeats 1000000 in
theorem len_bad (F : Nat → Prop) (p : Nat) (mb : Option Nat) (f : Int → Hd) (l : List Ent) (next : Int) (v : Val) (w : World) (H : HeapA w F p mb f l next) (hF : ∀ g, F g → g < w.heap.size) (hid : I64 v.n) (h4 : v.k ≠ 4) (hu : operF l 2 v [] ≠ ⟨#[]⟩) :
    Calls Tryd.prog 12 #[.pointer (some ⟨p, 0, none⟩), valV v] w fun e w' => e = .returned (.tuple #[valV ⟨0, 0, ⟨#[]⟩⟩, .string (operF l 2 v [])]) ∧ Below w.heap.size w w' := by
  have OP := Lib.hid (fun (w' : World) (hb : Below w.heap.size w w') => oper_bad F (fun _ => False) p mb f l next 2 v none [] 0 0 w' (H.low hF hb) (fun g hg => Nat.lt_of_lt_of_le (hF g hg) hb.size) rfl (nil_vals _ _) (fun b h => h.elim) (by omega) hid hu)
  have hte := operF_full hu
  clear H hF hu hid
  generalize operF l 2 v [] = flt at *
  unfold valV at *
  obtain ⟨vk, vn, vs⟩ := v
  have h4 : (vk == 4) = false := by simpa using h4
  simp only at OP ⊢
  go_enter Tryd.func12, Tryd.ntmps12
  go_wp2_with fail
  refine (OP.out _ (by (repeat' (first | exact Below.refl _ _ | refine Below.alloc ?_ (by simp <;> omega) _)))).mono ?_
  rintro e w2 ⟨rfl, hb⟩
  have K2 := Lib.hid (Bk.below (heap_alloc2_new w _ _ : Bk _ _ _ _) hb (by simp))
  have HB := Lib.hid (Below.trans (by (repeat' (first | exact Below.refl _ _ | refine Below.alloc ?_ (by simp <;> omega) _)) : Below w.heap.size w _) (hb.mono (by simp; omega)))
  clear hb OP
  have r0 := K2.out.cell 0 (.int .i64 0) rfl
  have r1 := K2.out.cell 1 (.int .i64 0) rfl
  have r2 := K2.out.cell 2 (.string ⟨#[]⟩) rfl
  have g0 := K2.out.frozen 0
  have g1 := K2.out.frozen 1
  have g2 := K2.out.frozen 2
  go_wp2_with fail
  (try simp only [Exit.inBlock, Exit.then])
  refine bodyPost_ret (v := .tuple #[.agg #[.int .i64 0, .int .i64 0, .string ⟨#[]⟩], .string flt]) ?_ rfl ?_
  · rw [results_cell_tmp rfl]
    go_simp
  · exact ⟨rfl, by (repeat' (first | exact HB.out | refine Below.setCell ?_ (by simp) _))⟩
end Go.Proofs.YtephblgakkeclaaDoor.Hp
