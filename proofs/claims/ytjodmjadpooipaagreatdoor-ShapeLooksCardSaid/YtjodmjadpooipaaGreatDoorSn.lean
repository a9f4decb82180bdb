/-
  Plain mathematics of layer 8, second part: merging and splitting keep the tree's form; so does each call.
-/
import Derived.Test.YtjodmjadpooipaaGreatDoorSm
namespace Go.Proofs.YtjodmjadpooipaaGreatDoor.Sh

section
variable {t : Tre} {m x y : Nat} (h : t.WF m) (hx : (t.sh x).ali = none) (hy : (t.sh y).ali = none) (hxl : x < t.L.length) (hyl : y < t.L.length) (hne : x ≠ y)
theorem tie_sh (t : Tre) (x : Nat) {y : Nat} (hyl : y < t.L.length) (s : Nat) : (t.tie x y).sh s = if s = y then { t.sh y with ali := some x } else t.sh s := sh_set t y _ _ hyl s
include hy in
theorem tie_als (hyl : y < t.L.length) : (t.tie x y).als = t.als + 1 := by
  have := als_set t y { t.sh y with ali := some x } t.roots hyl
  rw [hy] at this
  exact this
include hx hy hyl hne in
theorem tie_iter (n s : Nat) (hr : (t.sh (iter (hop t) n s)).ali = none) : iter (hop (t.tie x y)) (n + 1) s = if iter (hop t) n s = y then x else iter (hop t) n s := by
  have hX : ((t.tie x y).sh x).ali = none := by rw [tie_sh t x hyl, if_neg hne]; exact hx
  have H : ∀ s, hop (t.tie x y) s = if s = y then x else hop t s := fun s => by
    unfold hop; rw [tie_sh t x hyl]
    by_cases e : s = y
    · subst e; rw [if_pos rfl, if_pos rfl]
    · rw [if_neg e, if_neg e]
  induction n generalizing s with
  | zero =>
    show hop (t.tie x y) s = _
    rw [H]
    show _ = if s = y then x else s
    by_cases e : s = y
    · rw [if_pos e, if_pos e]
    · rw [if_neg e, if_neg e]; exact hop_root hr
  | succ n ih =>
    show iter (hop (t.tie x y)) (n + 1) (hop (t.tie x y) s) = if iter (hop t) n (hop t s) = y then x else iter (hop t) n (hop t s)
    rw [H]
    by_cases e : s = y
    · subst e
      rw [if_pos rfl, hop_root hy, iter_root hy, if_pos rfl]
      exact iter_root hX _
    · rw [if_neg e]; exact ih _ hr
include h hx hy hxl hyl hne in
theorem tie_wf (hc : (t.sh x).cls = (t.sh y).cls) (hn : (t.sh x).names = (t.sh y).names) : (t.tie x y).WF m := by
  have S := tie_sh t x hyl
  have hX : ((t.tie x y).sh x).ali = none := by rw [S, if_neg hne]; exact hx
  have C : ∀ s, ((t.tie x y).sh s).cls = (t.sh s).cls ∧ ((t.tie x y).sh s).names = (t.sh s).names ∧ ((t.tie x y).sh s).links = (t.sh s).links := fun s => by
    rw [S]; by_cases e : s = y
    · subst e; rw [if_pos rfl]; exact ⟨rfl, rfl, rfl⟩
    · rw [if_neg e]; exact ⟨rfl, rfl, rfl⟩
  have hL : (t.tie x y).L.length = t.L.length := by simp [Tre.tie]
  refine ⟨h.rl, fun j hj => ?_, fun s hs => ?_, fun s a ha => ?_, fun s => ?_, fun s p hp => ?_, fun s => ?_, by rw [hL]; exact h.few⟩
  · obtain ⟨a, b⟩ := h.ro j hj
    have e : (t.tie x y).roots = t.roots := rfl
    rw [hL, e, (C _).1]; exact ⟨a, b⟩
  · rw [hL] at hs; rw [(C _).1]; exact h.cl s hs
  · rw [hL, (C _).1, (C _).2.1, (C s).1, (C s).2.1]
    rw [S] at ha
    by_cases e : s = y
    · subst e; rw [if_pos rfl] at ha
      simp only [Option.some.injEq] at ha; subst ha
      exact ⟨hxl, hc, hn⟩
    · rw [if_neg e] at ha; exact h.al s a ha
  · rw [tie_als hy hyl, tie_iter hx hy hyl hne _ _ (h.dp s)]
    by_cases e : iter (hop t) t.als s = y
    · rw [if_pos e]; exact hX
    · rw [if_neg e, S, if_neg e]; exact h.dp s
  · rw [(C s).2.2] at hp
    rw [hL, (C _).1, (C _).2.1, (C s).1, (C s).2.1]; exact h.li s p hp
  · rw [(C s).2.1]; exact h.na s
include h hx hy hxl hyl hne in
theorem tie_canon (hc : (t.sh x).cls = (t.sh y).cls) (hn : (t.sh x).names = (t.sh y).names) (s : Nat) : (t.tie x y).canon s = if t.canon s = y then x else t.canon s := by
  refine canon_of (tie_wf h hx hy hxl hyl hne hc hn) s (t.L.length + 1) _ ?_ ?_
  · exact tie_iter hx hy hyl hne _ _ (canon_root h s)
  · by_cases e : t.canon s = y
    · rw [if_pos e, tie_sh t x hyl, if_neg hne]; exact hx
    · rw [if_neg e, tie_sh t x hyl, if_neg e]; exact canon_root h s
end
def relink (t : Tre) (c : Nat) (x : Shp) : Shp := { x with links := x.links.map fun p => (p.1, if t.canon p.2 = c then t.L.length else p.2) }
theorem cut_sh (t : Tre) (c s : Nat) : (t.cut c).sh s = if s = t.L.length then ⟨(t.sh c).cls, none, (t.sh c).names, []⟩ else relink t c (t.sh s) := by
  have := sh_push (Tre.mk (t.L.map (relink t c)) t.roots) ⟨(t.sh c).cls, none, (t.sh c).names, []⟩ (t.cut c).roots s
  rw [show (Tre.mk (t.L.map (relink t c)) t.roots).L.length = t.L.length by simp] at this
  refine Eq.trans this ?_
  by_cases e : s = t.L.length
  · rw [if_pos e, if_pos e]
  · rw [if_neg e, if_neg e]
    unfold Tre.sh
    simp only [List.getD_eq_getElem?_getD, List.getElem?_map]
    cases t.L[s]? <;> rfl
theorem als_map (t : Tre) (f : Shp → Shp) (hf : ∀ x, (f x).ali = x.ali) (r : List Nat) : (Tre.mk (t.L.map f) r).als = t.als := by
  unfold Tre.als
  show (t.L.map f).countP _ = _
  rw [List.countP_map]
  congr 1
  funext x
  show (f x).ali.isSome = _
  rw [hf]
theorem cut_wf {t : Tre} {m c : Nat} (h : t.WF m) (hc : c < t.L.length) (hl : t.L.length < 200) : (t.cut c).WF m := by
  have S := cut_sh t c
  have A : ∀ s, ((t.cut c).sh s).ali = (t.sh s).ali := fun s => by
    rw [S]; by_cases e : s = t.L.length
    · subst e; rw [if_pos rfl, sh_ge (Nat.le_refl _)]; rfl
    · rw [if_neg e]; rfl
  have C : ∀ s, s < t.L.length → ((t.cut c).sh s).cls = (t.sh s).cls ∧ ((t.cut c).sh s).names = (t.sh s).names := fun s hs => by
    rw [S, if_neg (by omega)]; exact ⟨rfl, rfl⟩
  have N : ((t.cut c).sh t.L.length).cls = (t.sh c).cls ∧ ((t.cut c).sh t.L.length).names = (t.sh c).names := by rw [S, if_pos rfl]; exact ⟨rfl, rfl⟩
  have hL : (t.cut c).L.length = t.L.length + 1 := by simp [Tre.cut]
  have hA : (t.cut c).als = t.als := by
    have := als_push (Tre.mk (t.L.map (relink t c)) t.roots) ⟨(t.sh c).cls, none, (t.sh c).names, []⟩ (t.cut c).roots rfl
    rw [als_map t (relink t c) (fun _ => rfl)] at this
    exact this
  refine ⟨?_, fun j hj => ?_, fun s hs => ?_, fun s a ha => ?_, fun s => ?_, fun s p hp => ?_, fun s => ?_, by rw [hL]; omega⟩
  · unfold Tre.cut; dsimp only; split
    · rw [List.length_set]; exact h.rl
    · exact h.rl
  · obtain ⟨a, b⟩ := h.ro j hj
    have hr : (t.cut c).roots.getD j 0 = t.roots.getD j 0 ∨ ((t.cut c).roots.getD j 0 = t.L.length ∧ j = (t.sh c).cls) := by
      unfold Tre.cut; dsimp only; split
      · by_cases e : (t.sh c).cls = j
        · right; subst e
          rw [List.getD_eq_getElem?_getD, List.getElem?_set_self (by rw [h.rl]; exact hj)]; exact ⟨rfl, rfl⟩
        · left; rw [List.getD_eq_getElem?_getD, List.getElem?_set_ne e, ← List.getD_eq_getElem?_getD]
      · exact .inl rfl
    rcases hr with hr | ⟨hr, rfl⟩
    · rw [hr, hL, (C _ a).1]; exact ⟨by omega, b⟩
    · rw [hr, hL, N.1]; exact ⟨by omega, rfl⟩
  · rcases Nat.lt_or_ge s t.L.length with g | g
    · rw [(C s g).1]; exact h.cl s g
    · rw [S, if_pos (by omega)]; exact h.cl c hc
  · rw [A] at ha
    have hs : s < t.L.length := by
      rcases Nat.lt_or_ge s t.L.length with g | g
      · exact g
      · rw [sh_ge g] at ha; cases ha
    obtain ⟨x, y, z⟩ := h.al s a ha
    rw [hL, (C s hs).1, (C a x).1, (C s hs).2, (C a x).2]; exact ⟨by omega, y, z⟩
  · rw [A, hop_same A, hA]; exact h.dp s
  · rw [S] at hp; by_cases e : s = t.L.length
    · rw [if_pos e] at hp; cases hp
    · rw [if_neg e] at hp
      have hs : s < t.L.length := by
        rcases Nat.lt_or_ge s t.L.length with g | g
        · exact g
        · rw [sh_ge g] at hp; cases hp
      obtain ⟨q, hq, rfl⟩ := List.mem_map.1 hp
      obtain ⟨x, y, z⟩ := h.li s q hq
      rw [hL, (C s hs).1, (C s hs).2]
      by_cases e2 : t.canon q.2 = c
      · have e3 : (if t.canon q.2 = c then t.L.length else q.2) = t.L.length := if_pos e2
        dsimp only
        rw [e3, N.1, N.2, ← e2, canon_cls h, canon_names h]; exact ⟨by omega, y, z⟩
      · have e3 : (if t.canon q.2 = c then t.L.length else q.2) = q.2 := if_neg e2
        dsimp only
        rw [e3, (C _ x).1, (C _ x).2]; exact ⟨by omega, y, z⟩
  · rw [S]; by_cases e : s = t.L.length
    · rw [if_pos e]; exact h.na c
    · rw [if_neg e]; exact h.na s
theorem there_iff {t : Tre} {s : Int} : t.there s = true ↔ 0 ≤ s ∧ s.toNat < t.L.length := by unfold Tre.there; rw [decide_eq_true_eq]; omega
theorem there_nat {t : Tre} {s : Nat} (h : s < t.L.length) : t.there s = true := by rw [there_iff]; omega
/-- What is kept of a tree: its form, and that each name is one of some. -/
structure Tre.OK (t : Tre) (m : Nat) (Q : ByteArray → Prop) : Prop where
  wf : t.WF m
  q : ∀ s, ∀ x ∈ (t.sh s).names, Q x
theorem add_ok {t : Tre} {m : Nat} {Q : ByteArray → Prop} (h : t.OK m Q) (s : Int) (nm : ByteArray) (hq : nm.size ≠ 0 → Q nm) : (t.add s nm).2.OK m Q := by
  unfold Tre.add
  by_cases h1 : t.there s = false
  · rw [if_pos h1]; exact h
  · rw [if_neg h1]
    by_cases h2 : nm.size = 0 ∨ nm ∈ t.namesI s
    · rw [if_pos h2]; exact h
    · rw [if_neg h2]
      have ht : t.there s = true := by simpa using h1
      have hs := (there_iff.1 ht).2
      have hni : t.namesI s = (t.sh s.toNat).names := by unfold Tre.namesI; rw [if_pos ht]
      split
      · exact h
      · by_cases h3 : 64 ≤ (t.namesI s).length ∨ 200 ≤ t.L.length
        · rw [if_pos h3]; exact h
        · rw [if_neg h3]
          have hc := canon_lt h.wf hs
          refine ⟨grow_wf h.wf hc ?_ (by omega), fun r x hx => ?_⟩
          · rw [canon_names h.wf, ← hni]; exact fun e => h2 (.inr e)
          · dsimp only at hx; rw [grow_sh hc] at hx
            by_cases e : r = t.L.length
            · rw [if_pos e] at hx
              rcases List.mem_append.1 hx with hx | hx
              · exact h.q _ _ hx
              · rw [List.mem_singleton] at hx; subst hx; exact hq (fun e => h2 (.inl e))
            · rw [if_neg e] at hx
              by_cases e : r = t.canon s.toNat
              · rw [if_pos e] at hx; exact h.q _ _ hx
              · rw [if_neg e] at hx; exact h.q _ _ hx
theorem make_ok {t : Tre} {m : Nat} {Q : ByteArray → Prop} (h : t.OK m Q) (k : Int) (ns : List ByteArray) (hq : ∀ x ∈ ns, Q x) : (t.make k ns).2.OK m Q := by
  unfold Tre.make
  by_cases h1 : ¬ (0 ≤ k ∧ k < t.roots.length ∧ okNames ns = true)
  · rw [if_pos h1]; exact h
  · rw [if_neg h1]
    have h1 := Decidable.not_not.1 h1
    by_cases h2 : (t.sh (t.root k.toNat)).names = ns
    · rw [if_pos h2]; exact h
    · rw [if_neg h2]
      split
      · exact h
      · by_cases h3 : 200 ≤ t.L.length
        · rw [if_pos h3]; exact h
        · rw [if_neg h3]
          have ho := h1.2.2
          unfold okNames at ho
          rw [decide_eq_true_eq] at ho
          have hl := h.wf.rl
          refine ⟨push_wf h.wf (by omega) ho.2.1 (by omega), fun r x hx => ?_⟩
          have S : (t.push k.toNat ns).sh r = if r = t.L.length then ⟨k.toNat, none, ns, []⟩ else t.sh r := sh_push t _ _ r
          dsimp only at hx; rw [S] at hx
          by_cases e : r = t.L.length
          · rw [if_pos e] at hx; exact hq x hx
          · rw [if_neg e] at hx; exact h.q _ _ hx
theorem alike_iff {t : Tre} {a b : Int} : t.alike a b = true ↔ t.there a = true ∧ t.there b = true ∧ (t.sh a.toNat).cls = (t.sh b.toNat).cls ∧ (t.sh a.toNat).names = (t.sh b.toNat).names := by
  unfold Tre.alike Tre.clsI Tre.namesI
  cases ha : t.there a <;> cases hb : t.there b <;> simp
  exact fun _ => Int.ofNat_inj
theorem merge_ok {t : Tre} {m : Nat} {Q : ByteArray → Prop} (h : t.OK m Q) (a b : Int) : (t.merge a b).2.OK m Q := by
  unfold Tre.merge
  by_cases h1 : t.alike a b = false
  · rw [if_pos h1]; exact h
  · rw [if_neg h1]
    have ht : t.alike a b = true := by simpa using h1
    obtain ⟨ha, hb, hc, hn⟩ := alike_iff.1 ht
    dsimp only
    by_cases e : t.canon a.toNat = t.canon b.toNat
    · rw [if_pos e]; exact h
    · rw [if_neg e]
      have hbl := canon_lt h.wf (there_iff.1 hb).2
      refine ⟨tie_wf h.wf (canon_root h.wf _) (canon_root h.wf _) (canon_lt h.wf (there_iff.1 ha).2) hbl e (by rw [canon_cls h.wf, canon_cls h.wf, hc]) (by rw [canon_names h.wf, canon_names h.wf, hn]), fun r x hx => ?_⟩
      rw [tie_sh _ _ hbl] at hx
      by_cases e : r = t.canon b.toNat
      · rw [if_pos e] at hx; exact h.q _ _ hx
      · rw [if_neg e] at hx; exact h.q _ _ hx
theorem split_ok {t : Tre} {m : Nat} {Q : ByteArray → Prop} (h : t.OK m Q) (a : Int) : (t.split a).2.OK m Q := by
  unfold Tre.split
  by_cases h1 : t.there a = false
  · rw [if_pos h1]; exact h
  · rw [if_neg h1]
    by_cases h2 : 200 ≤ t.L.length
    · rw [if_pos h2]; exact h
    · rw [if_neg h2]
      have ht : t.there a = true := by simpa using h1
      have hc := canon_lt h.wf (there_iff.1 ht).2
      refine ⟨cut_wf h.wf hc (by omega), fun r x hx => ?_⟩
      dsimp only at hx; rw [cut_sh] at hx
      by_cases e : r = t.L.length
      · rw [if_pos e] at hx; exact h.q _ _ hx
      · rw [if_neg e] at hx; exact h.q _ _ hx
end Go.Proofs.YtjodmjadpooipaaGreatDoor.Sh
