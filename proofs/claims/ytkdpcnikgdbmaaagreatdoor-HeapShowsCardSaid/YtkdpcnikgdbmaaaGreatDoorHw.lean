/-
  Sets of ids: maps of ints to bools; the sorted keys of a map.
-/
import Derived.Test.YtkdpcnikgdbmaaaGreatDoorHt
import Derived.Test.YtkdpcnikgdbmaaaGreatDoorGen
namespace Go.Proofs.YtkdpcnikgdbmaaaGreatDoor.Hp
open Go Go.RowKit Go.Maps Go.Sort Go.Shelf Va

/-- Block b is a set of ids: those of l, each once. -/
def SeenI (w : World) (b : Nat) (l : List Int) : Prop :=
  ∃ D : DataW Unit, w.ownsMap Tryz.prog 3 (plainElem Tryz.prog 4) b l.length D ∧ (∀ i, I64 i → D.atKey (.int .i64 i) (.lit (.bool false)) = .lit (.bool (decide (i ∈ l)))) ∧ (∀ i, I64 i → Maps.has D (.int .i64 i) = decide (i ∈ l)) ∧ Maps.size D = l.length
theorem SeenI.lt {w : World} {b : Nat} {l : List Int} (h : SeenI w b l) : b < w.heap.size := by obtain ⟨_, h, _⟩ := h; exact h.lt
theorem SeenI.keep {w w' : World} {b : Nat} {l : List Int} (h : SeenI w b l) (hk : w'.heap[b]? = w.heap[b]?) : SeenI w' b l := by
  obtain ⟨D, ⟨es, clock, hm, h'⟩, h2⟩ := h
  exact ⟨D, ⟨es, clock, hk.trans hm, h'⟩, h2⟩
theorem SeenI.made (w : World) : SeenI (w.alloc (.map #[] 0)) w.heap.size [] :=
  ⟨_, World.ownsMap_made w _ _ _, (fun i _ => by simp [DataW.atKey]), (fun i _ => by simp [Maps.has]), by simp [Maps.size]⟩
set_option maxRecDepth 100000 in
theorem SeenI.look {w : World} {b : Nat} {l : List Int} (h : SeenI w b l) {i : Int} (hi : I64 i) : (Instr.lookup 62 (.map (some b)) (.int .i64 i) false).run Tryz.prog w = .ok (.bool (decide (i ∈ l))) w := by
  obtain ⟨D, ho, hD, _⟩ := h
  obtain ⟨v, ps, hrun, hv⟩ := ho.lookup intLaw Tryz.underlying62 (zeroBool w) (plainElem_bool Tryz.underlying4 false) (key_int hi)
  rw [hD i hi] at hv
  rw [hrun]
  congr 1
  unfold plainElem at hv
  rw [Tryz.underlying4] at hv
  cases v <;> simp at hv
  rw [hv.1]
theorem SeenI.after {w1 : World} {b : Nat} {l : List Int} {D : DataW Unit} {i : Int} (ht : Tidy D) (hi : I64 i) (hn : i ∉ l) (h1 : ∀ i, I64 i → D.atKey (.int .i64 i) (.lit (.bool false)) = .lit (.bool (decide (i ∈ l)))) (h2 : ∀ i, I64 i → Maps.has D (.int .i64 i) = decide (i ∈ l)) (h3 : Maps.size D = l.length)
    (h : w1.ownsMap Tryz.prog 3 (plainElem Tryz.prog 4) b (l.length + 1) (D.put (.int .i64 i) (.lit (.bool true)))) : SeenI w1 b (l ++ [i]) := by
  have hI := ht.isMap
  refine ⟨_, by simpa using h, fun x hx => ?_, fun x hx => ?_, ?_⟩
  · by_cases e : x = i
    · subst e
      rw [atKey_put_same hI (by trivial)]
      simp
    · rw [atKey_put_other (fun h => e (Lit.int.inj h).2), h1 x hx]
      simp [e]
  · by_cases e : x = i
    · subst e
      rw [has_put_same hI (by trivial)]
      simp
    · rw [has_put_other (fun h => e (Lit.int.inj h).2), h2 x hx]
      simp [e]
  · rw [size_put ht, if_neg (by rw [h2 i hi]; simp [hn]), h3]
    simp
/-- The keys of a map, as its laws know them. -/
theorem keys_perm {R : Value → Option (DataW Unit × List MemPlace)} {w : World} {b n : Nat} {D : DataW Unit} (ho : w.ownsMap Tryz.prog 3 R b n D) {l : List Int} (hl : ∀ i ∈ l, I64 i) (hn : l.Nodup) (h : ∀ i, I64 i → Maps.has D (.int .i64 i) = decide (i ∈ l)) : l.Perm (intKeys D) := by
  have hu : Tryz.prog.underlying 3 = some (.int .i64) := Tryz.underlying3
  have hw := intKeys_wf ho hu
  obtain ⟨es, hD, hpw, _⟩ := ho.entries intLaw
  obtain ⟨es', hD', hko⟩ := ho.keysOf
  obtain rfl : es = es' := by rw [hD] at hD'; simpa using hD'
  subst hD
  have hk : ∀ p ∈ es, ∃ x, p.1 = .int .i64 x := fun p hp => by obtain ⟨v, hv⟩ := hko p hp; obtain ⟨x, _, hx, _⟩ := Maps.keyOf_i64 hu hv; exact ⟨x, hx⟩
  refine perm_intKeys hpw hk hn fun x => ?_
  by_cases hx : I64 x
  · rw [h x hx]; simp
  · refine ⟨fun hm => absurd (hl x hm) hx, fun hh => ?_⟩
    rw [has_eq, List.any_eq_true] at hh
    obtain ⟨p, hp, hs⟩ := hh
    obtain ⟨a, ha⟩ := hk p hp
    have := hw a (by unfold intKeys; exact List.mem_map.2 ⟨p, hp, by rw [ha]; rfl⟩)
    rw [ha] at hs
    have e : a = x := by simpa [Lit.sameKey] using hs
    subst e
    refine absurd ?_ hx
    have h3 : IntKind.i64.min = -9223372036854775808 := rfl
    have h4 : IntKind.i64.max = 9223372036854775807 := rfl
    simp [Lit.wf, h3, h4] at this
    exact this
end Go.Proofs.YtkdpcnikgdbmaaaGreatDoor.Hp
