/-
  Cells that go: mathematics of remove.
-/
import Derived.Test.YtephblgakkeclaaDoorIc
namespace Go.Proofs.YtephblgakkeclaaDoor.Hp
open Go Go.RowKit Go.Maps Go.Sort Go.Shelf Va

def nilVal : Val := ⟨1, 0, ⟨#[]⟩⟩
/-- A weak cell whose target goes loses it. -/
def cleanC (gone : List Int) (c : Cel) : Cel := if c.kind = 4 then match c.items with
  | [v] => if v.k = 5 ∧ v.n ∈ gone then c.put 0 nilVal else c
  | _ => c
  else c
def dropL (gone : List Int) (l : List Ent) : List Ent := l.filter fun e => !decide (e.1 ∈ gone)
def cleanL (gone : List Int) (l : List Ent) : List Ent := l.map fun e => (e.1, cleanC gone e.2)
theorem ids_dropL (gone : List Int) (l : List Ent) : ids (dropL gone l) = (ids l).filter fun i => !decide (i ∈ gone) := by
  unfold ids dropL
  rw [List.filter_map]
  rfl
theorem ids_cleanL (gone : List Int) (l : List Ent) : ids (cleanL gone l) = ids l := by
  unfold ids cleanL
  rw [List.map_map]
  exact List.map_congr_left fun _ _ => rfl
theorem dropL_snoc (gone : List Int) (i : Int) (l : List Ent) : dropL (gone ++ [i]) l = (dropL gone l).filter fun e => !decide (e.1 = i) := by
  unfold dropL
  rw [List.filter_filter]
  refine List.filter_congr fun e _ => ?_
  by_cases h1 : e.1 ∈ gone <;> by_cases h2 : e.1 = i <;> simp [h1, h2]
theorem dropL_nil (l : List Ent) : dropL [] l = l := by
  unfold dropL
  rw [List.filter_eq_self]
  intro e _; simp
theorem strike_len (l : List Ent) (i : Int) (hn : (ids l).Nodup) : (l.filter fun e => !decide (e.1 = i)).length + (if i ∈ ids l then 1 else 0) = l.length := by
  induction l with
  | nil => simp [ids]
  | cons e l ih =>
    unfold ids at hn ih ⊢
    rw [List.map_cons, List.nodup_cons] at hn
    have := ih hn.2
    by_cases h : e.1 = i
    · subst h
      rw [List.filter_cons_of_neg (by simp)]
      rw [if_neg hn.1] at this
      rw [if_pos (by simp), List.length_cons]; omega
    · rw [List.filter_cons_of_pos (by simp [h])]
      by_cases hm : i ∈ l.map Prod.fst
      · rw [if_pos hm] at this
        rw [if_pos (by simp [hm]), List.length_cons, List.length_cons]; omega
      · rw [if_neg hm] at this
        rw [if_neg (by simp only [List.map_cons, List.mem_cons, not_or]; exact ⟨fun e' => h e'.symm, hm⟩), List.length_cons, List.length_cons]; omega
theorem ids_strike (l : List Ent) (i : Int) : ids (l.filter fun e => !decide (e.1 = i)) = (ids l).filter fun j => !decide (j = i) := by
  unfold ids
  rw [List.filter_map]
  rfl
theorem MapD.del {D : DataW Unit} {l : List Ent} {f : Int → Hd} (h : MapD D l f) (ht : Tidy D) (hn : (ids l).Nodup) {i : Int} (hi : I64 i) : MapD (D.del (.int .i64 i)) (l.filter fun e => !decide (e.1 = i)) f := by
  refine ⟨fun j hj => ?_, fun j hj => ?_, ?_⟩
  · rw [ids_strike]
    by_cases e : j = i
    · subst e
      rw [atKey_del_same, if_neg (by simp)]
    · rw [atKey_del_other (fun h => e (Lit.int.inj h).2), h.at_ j hj]
      simp [e]
  · rw [ids_strike]
    by_cases e : j = i
    · subst e
      rw [has_del_same]; simp
    · rw [has_del_other (fun h => e (Lit.int.inj h).2), h.has_ j hj]
      simp [e]
  · have h1 := size_del (k := .int .i64 i) ht
    have h2 := strike_len l i hn
    rw [h.has_ i hi, h.size_] at h1
    by_cases hm : i ∈ ids l
    · rw [if_pos (decide_eq_true hm)] at h1; rw [if_pos hm] at h2; omega
    · rw [if_neg (by simp [hm])] at h1; rw [if_neg hm] at h2; omega
/-- Fewer cells, the same places. -/
theorem HeapA.strike {w w' : World} {F : Nat → Prop} {p b n : Nat} {f : Int → Hd} {l : List Ent} {next i : Int} {D : DataW Unit} (H : HeapA w F p (some b) f l next) (hFb : F b) (ho : w.ownsMap Tryd.prog 3 ptrElem b n D) (hD : MapD D l f) (hi : I64 i)
    (h' : w'.ownsMap Tryd.prog 3 ptrElem b n (D.del (.int .i64 i))) (hg : w.grownBy w' (some b)) : HeapA w' F p (some b) f (l.filter fun e => !decide (e.1 = i)) next := by
  have hs : (ids l).Nodup := H.sorted.imp fun h => Int.ne_of_lt h
  have hD' := hD.del (ho.tidy intLaw) hs hi
  have ne : ∀ {g : Nat} {cur : Array Value} {T : TypeId}, w.heap[g]? = some (.cells cur T (0, 0)) → w'.heap[g]? = w.heap[g]? := fun {g cur T} h => by
    refine hg.block g (Array.getElem?_eq_some_iff.1 h).1 fun e => ?_
    cases e
    obtain ⟨es, cl, h2⟩ := own_isMap ho
    rw [h] at h2; cases h2
  refine ⟨(ne H.top).trans H.top, H.fp, .inr ⟨b, _, rfl, hFb, ?_, hD'⟩, fun e he => ?_, fun e he e' he' => ?_, ?_, H.fits⟩
  · have := own_tight h'
    rw [hD'.size_] at this; exact this
  · have ce := H.cells e (List.mem_filter.1 he).1
    exact ⟨ce.1.keep fun g hg => by obtain ⟨cur, T, h⟩ := ce.1.isCells hg; exact ne h, ce.2⟩
  · exact H.apart e (List.mem_filter.1 he).1 e' (List.mem_filter.1 he').1
  · rw [ids_strike]; exact H.sorted.filter _
/-- The cells, those with a key that has passed cleaned. -/
def partL (gone : List Int) (left : Lit → Bool) (l : List Ent) : List Ent := l.map fun e => if left (.int .i64 e.1) = true then e else (e.1, cleanC gone e.2)
theorem ids_partL (gone : List Int) (left : Lit → Bool) (l : List Ent) : ids (partL gone left l) = ids l := by
  unfold ids partL
  rw [List.map_map]
  refine List.map_congr_left fun e _ => ?_
  show (if left (.int .i64 e.1) = true then e else (e.1, cleanC gone e.2)).1 = e.1
  split <;> rfl
theorem partL_start (gone : List Int) (left : Lit → Bool) (l : List Ent) (h : ∀ i ∈ ids l, left (.int .i64 i) = true) : partL gone left l = l := by
  unfold partL
  refine (List.map_congr_left fun e he => ?_).trans (List.map_id l)
  rw [if_pos (h _ (List.mem_map.2 ⟨e, he, rfl⟩))]; rfl
theorem partL_end (gone : List Int) (left : Lit → Bool) (l : List Ent) (h : ∀ kl, left kl = false) : partL gone left l = cleanL gone l := by
  unfold partL cleanL
  refine List.map_congr_left fun e _ => ?_
  rw [h, if_neg (by simp)]
theorem partL_step {gone : List Int} {left : Lit → Bool} {l : List Ent} (hs : (ids l).Pairwise (· < ·)) {i : Int} {c : Cel} (hm : (i, c) ∈ l) : partL gone (fun z => left z && !z.sameKey (.int .i64 i)) l = setC (partL gone left l) i (cleanC gone c) := by
  unfold partL setC
  rw [List.map_map]
  refine List.map_congr_left fun e he => ?_
  obtain ⟨j, c'⟩ := e
  show (if (left (.int .i64 j) && !(Lit.int .i64 j).sameKey (.int .i64 i)) = true then (j, c') else (j, cleanC gone c')) = if (if left (.int .i64 j) = true then (j, c') else (j, cleanC gone c')).1 = i then (i, cleanC gone c) else if left (.int .i64 j) = true then (j, c') else (j, cleanC gone c')
  by_cases h : j = i
  · subst h
    obtain rfl := mem_uniq hs he hm
    have e1 : (if left (.int .i64 j) = true then (j, c') else (j, cleanC gone c')).1 = j := by split <;> rfl
    rw [if_pos e1, if_neg (by simp [Lit.sameKey])]
  · by_cases hl : left (.int .i64 j) = true
    · simp [hl, h, Lit.sameKey]
    · simp [hl, h]
theorem partL_mem {gone : List Int} {left : Lit → Bool} {l : List Ent} {i : Int} {c : Cel} (hm : (i, c) ∈ l) (hl : left (.int .i64 i) = true) : (i, c) ∈ partL gone left l :=
  List.mem_map.2 ⟨(i, c), hm, if_pos hl⟩
theorem setC_same {l : List Ent} (hs : (ids l).Pairwise (· < ·)) {i : Int} {c : Cel} (hm : (i, c) ∈ l) : setC l i c = l := by
  unfold setC
  refine (List.map_congr_left fun e he => ?_).trans (List.map_id l)
  obtain ⟨j, c'⟩ := e
  by_cases h : j = i
  · subst h
    obtain rfl := mem_uniq hs he hm
    exact if_pos rfl
  · exact if_neg h
end Go.Proofs.YtephblgakkeclaaDoor.Hp
