/-
  What is reached, as mathematics.
-/
import Derived.Test.YtkdpcnikgdbmaaaGreatDoorHo
namespace Go.Proofs.YtkdpcnikgdbmaaaGreatDoor.Hp
open Go Go.RowKit Go.Maps Va

/-- What a cell leads to. -/
def kids (wk : Bool) (c : Cel) : List Val := if (wk || c.kind != 4) = true then c.items else []
inductive Rea (l : List Ent) (wk : Bool) (roots : List Val) : Int → Prop
  | root {v : Val} {c : Cel} : v ∈ roots → denC l v = some c → Rea l wk roots v.n
  | step {i : Int} {c : Cel} {v : Val} {c' : Cel} : Rea l wk roots i → look l i = some c → v ∈ kids wk c → denC l v = some c' → Rea l wk roots v.n
theorem Rea.mono {l : List Ent} {wk : Bool} {r r' : List Val} (h : ∀ v ∈ r, v ∈ r') {i : Int} (hi : Rea l wk r i) : Rea l wk r' i := by
  induction hi with
  | root hv hd => exact .root (h _ hv) hd
  | step _ hl hv hd ih => exact .step ih hl hv hd
theorem Rea.deep {l : List Ent} {wk : Bool} {r : List Val} {j : Int} {c : Cel} (hj : Rea l wk r j) (hl : look l j = some c) {i : Int} (hi : Rea l wk (kids wk c) i) : Rea l wk r i := by
  induction hi with
  | root hv hd => exact .step hj hl hv hd
  | step _ hl hv hd ih => exact .step ih hl hv hd
theorem Rea.known {l : List Ent} {wk : Bool} {r : List Val} {i : Int} (h : Rea l wk r i) : ∃ c, look l i = some c := by
  have e : ∀ {v : Val} {c : Cel}, denC l v = some c → ∃ c, look l v.n = some c := fun {v c} h => by
    unfold denC at h; split at h
    · exact ⟨c, h⟩
    · cases h
  cases h with
  | root _ hd => exact e hd
  | step _ _ _ hd => exact e hd
/-- What a visit of L makes of S. -/
structure Vis (l : List Ent) (wk : Bool) (L : List Val) (S S' : List Int) : Prop where
  sub : ∀ i ∈ S, i ∈ S'
  new : ∀ i ∈ S', i ∉ S → Rea l wk L i
  roots : ∀ v ∈ L, ∀ c, denC l v = some c → v.n ∈ S'
  closed : ∀ i ∈ S', i ∉ S → ∀ c, look l i = some c → ∀ v ∈ kids wk c, ∀ c', denC l v = some c' → v.n ∈ S'
  nodup : S.Nodup → S'.Nodup
  known : (∀ i ∈ S, i ∈ ids l) → ∀ i ∈ S', i ∈ ids l
theorem Vis.start (l : List Ent) (wk : Bool) (S : List Int) : Vis l wk [] S S :=
  ⟨fun _ h => h, fun _ h h' => absurd h h', (fun v h => by cases h), fun _ h h' => absurd h h', id, id⟩
theorem Vis.pass {l : List Ent} {wk : Bool} {L : List Val} {S S' : List Int} (h : Vis l wk L S S') {v : Val} (hv : ∀ c, denC l v = some c → v.n ∈ S') : Vis l wk (L ++ [v]) S S' := by
  refine ⟨h.sub, fun i hi hn => (h.new i hi hn).mono fun x hx => by simp [hx], fun x hx c hc => ?_, h.closed, h.nodup, h.known⟩
  rcases List.mem_append.1 hx with hx | hx
  · exact h.roots x hx c hc
  · obtain rfl : x = v := by simpa using hx
    exact hv c hc
theorem Vis.enter {l : List Ent} {wk : Bool} {L : List Val} {S S1 S2 : List Int} (h : Vis l wk L S S1) {v : Val} {c : Cel} (hv : denC l v = some c) (hn : v.n ∉ S1) (h2 : Vis l wk (kids wk c) (S1 ++ [v.n]) S2) : Vis l wk (L ++ [v]) S S2 := by
  have hl : look l v.n = some c := by unfold denC at hv; split at hv; exact hv; cases hv
  have hr : Rea l wk (L ++ [v]) v.n := .root (by simp) hv
  have s2 : ∀ i ∈ S1, i ∈ S2 := fun i hi => h2.sub i (by simp [hi])
  refine ⟨fun i hi => s2 i (h.sub i hi), fun i hi hS => ?_, fun x hx c' hc => ?_, fun i hi hS c' hc x hx c2 hd => ?_, fun hS => h2.nodup ?_, fun hS => h2.known fun i hi => ?_⟩
  · by_cases h1 : i ∈ S1 ++ [v.n]
    · rcases List.mem_append.1 h1 with h1 | h1
      · exact (h.new i h1 hS).mono fun x hx => by simp [hx]
      · obtain rfl : i = v.n := by simpa using h1
        exact hr
    · exact hr.deep hl (h2.new i hi h1)
  · rcases List.mem_append.1 hx with hx | hx
    · exact s2 _ (h.roots x hx c' hc)
    · obtain rfl : x = v := by simpa using hx
      exact h2.sub _ (by simp)
  · by_cases h1 : i ∈ S1 ++ [v.n]
    · rcases List.mem_append.1 h1 with h1 | h1
      · exact s2 _ (h.closed i h1 hS c' hc x hx c2 hd)
      · obtain rfl : i = v.n := by simpa using h1
        rw [hl] at hc
        obtain rfl := Option.some.inj hc
        exact h2.roots x hx c2 hd
    · exact h2.closed i hi h1 c' hc x hx c2 hd
  · refine List.nodup_append.2 ⟨h.nodup hS, by simp, fun a ha b hb e => ?_⟩
    obtain rfl : b = v.n := by simpa using hb
    exact hn (e ▸ ha)
  · rcases List.mem_append.1 hi with hi | hi
    · exact h.known hS i hi
    · obtain rfl : i = v.n := by simpa using hi
      exact List.mem_map.2 ⟨_, look_some hl, rfl⟩
theorem Vis.whole {l : List Ent} {wk : Bool} {L : List Val} {S : List Int} (h : Vis l wk L [] S) (i : Int) : i ∈ S ↔ Rea l wk L i := by
  refine ⟨fun hi => h.new i hi (by simp), fun hi => ?_⟩
  induction hi with
  | root hv hd => exact h.roots _ hv _ hd
  | step _ hl hv hd ih => exact h.closed _ ih (by simp) _ hl _ hv _ hd
theorem sorted_ext {a b : List Int} (ha : a.Pairwise (· < ·)) (hb : b.Pairwise (· < ·)) (h : ∀ i, i ∈ a ↔ i ∈ b) : a = b := by
  have na : a.Nodup := ha.imp fun h => Int.ne_of_lt h
  have nb : b.Nodup := hb.imp fun h => Int.ne_of_lt h
  exact List.Perm.eq_of_pairwise (le := fun x y : Int => x ≤ y) (fun x y _ _ h1 h2 => Int.le_antisymm h1 h2) (ha.imp Int.le_of_lt) (hb.imp Int.le_of_lt) ((List.perm_ext_iff_of_nodup na nb).2 h)
theorem sorted_of_merge {ss : List Int} (hn : ss.Nodup) : (ss.mergeSort (fun x y => decide (x ≤ y))).Pairwise (· < ·) ∧ ∀ i, i ∈ ss.mergeSort (fun x y => decide (x ≤ y)) ↔ i ∈ ss := by
  have tr : ∀ a b c : Int, decide (a ≤ b) = true → decide (b ≤ c) = true → decide (a ≤ c) = true := fun a b c h1 h2 => by simp only [decide_eq_true_eq] at *; exact Int.le_trans h1 h2
  have to : ∀ a b : Int, (decide (a ≤ b) || decide (b ≤ a)) = true := fun a b => by simp only [Bool.or_eq_true, decide_eq_true_eq]; exact Int.le_total a b
  have hp := List.mergeSort_perm ss (fun x y => decide (x ≤ y))
  refine ⟨?_, fun i => hp.mem_iff⟩
  have h1 := List.pairwise_mergeSort tr to ss
  have h2 : (ss.mergeSort (fun x y => decide (x ≤ y))).Nodup := hp.nodup_iff.2 hn
  refine List.Pairwise.imp₂ (fun a b h1 h2 => ?_) h1 h2
  simp only [decide_eq_true_eq] at h1
  omega
end Go.Proofs.YtkdpcnikgdbmaaaGreatDoor.Hp
