/-
  Plain mathematics of layer 8, fourth part: a tree that calls have made.
-/
import Derived.Test.YtjodmjadpooipaaGreatDoorSe
namespace Go.Proofs.YtjodmjadpooipaaGreatDoor.Sh

def Tre.rn (t : Tre) (k : Nat) : List ByteArray := (t.sh (t.roots.getD k 0)).names
/-- A tree over classes with these fields; its names are among q. -/
structure Inv (fl : List (List ByteArray)) (t : Tre) : Prop where
  ok : t.OK fl.length (· ∈ nameL)
  rn : ∀ k, k < fl.length → t.rn k = fl.getD k []
theorem rn_grow {t : Tre} {m c k : Nat} {nm : ByteArray} (h : t.WF m) (hc : c < t.L.length) (hk : k < m) : (t.grow c nm).rn k = t.rn k := by
  unfold Tre.rn
  rw [show (t.grow c nm).roots = t.roots from rfl, grow_sh hc, if_neg (by have := (h.ro k hk).1; omega)]
  by_cases e : t.roots.getD k 0 = c
  · rw [if_pos e, e]
  · rw [if_neg e]
theorem rn_push {t : Tre} {m c k : Nat} {ns : List ByteArray} (h : t.WF m) (hk : k < m) : (t.push c ns).rn k = t.rn k := by
  unfold Tre.rn
  have S : ∀ r, (t.push c ns).sh r = if r = t.L.length then ⟨c, none, ns, []⟩ else t.sh r := sh_push t _ _
  rw [show (t.push c ns).roots = t.roots from rfl, S, if_neg (by have := (h.ro k hk).1; omega)]
theorem rn_tie {t : Tre} {x y k : Nat} (hy : y < t.L.length) : (t.tie x y).rn k = t.rn k := by
  unfold Tre.rn
  rw [show (t.tie x y).roots = t.roots from rfl, tie_sh t x hy]
  by_cases e : t.roots.getD k 0 = y
  · rw [if_pos e, e]
  · rw [if_neg e]
theorem rn_cut {t : Tre} {m c k : Nat} (h : t.WF m) (hk : k < m) : (t.cut c).rn k = t.rn k := by
  have hlt := (h.ro k hk).1
  have old : (t.cut c).roots.getD k 0 = t.roots.getD k 0 → (t.cut c).rn k = t.rn k := fun e => by
    unfold Tre.rn
    rw [e, cut_sh, if_neg (by omega)]; rfl
  by_cases e : t.root (t.sh c).cls = c
  · by_cases e2 : (t.sh c).cls = k
    · have : (t.cut c).roots.getD k 0 = t.L.length := by
        unfold Tre.cut; dsimp only; rw [if_pos e, e2, List.getD_eq_getElem?_getD, List.getElem?_set_self (by rw [h.rl]; exact hk)]; rfl
      unfold Tre.rn
      rw [this, cut_sh, if_pos rfl]
      show (t.sh c).names = _
      rw [← e, e2]
      exact canon_names h _
    · refine old ?_
      unfold Tre.cut; dsimp only; rw [if_pos e, List.getD_eq_getElem?_getD, List.getElem?_set_ne e2, ← List.getD_eq_getElem?_getD]
  · refine old ?_
    unfold Tre.cut; dsimp only; rw [if_neg e]
theorem rn_add {t : Tre} {m k : Nat} (h : t.WF m) (hk : k < m) (s : Int) (nm : ByteArray) : (t.add s nm).2.rn k = t.rn k := by
  unfold Tre.add
  by_cases h1 : t.there s = false
  · rw [if_pos h1]
  · rw [if_neg h1]
    by_cases h2 : nm.size = 0 ∨ nm ∈ t.namesI s
    · rw [if_pos h2]
    · rw [if_neg h2]
      split
      · rfl
      · by_cases h3 : 64 ≤ (t.namesI s).length ∨ 200 ≤ t.L.length
        · rw [if_pos h3]
        · rw [if_neg h3]
          exact rn_grow h (canon_lt h (there_iff.1 (by simpa using h1)).2) hk
theorem rn_make {t : Tre} {m k : Nat} (h : t.WF m) (hk : k < m) (c : Int) (ns : List ByteArray) : (t.make c ns).2.rn k = t.rn k := by
  unfold Tre.make
  by_cases h1 : ¬ (0 ≤ c ∧ c < t.roots.length ∧ okNames ns = true)
  · rw [if_pos h1]
  · rw [if_neg h1]
    by_cases h2 : (t.sh (t.root c.toNat)).names = ns
    · rw [if_pos h2]
    · rw [if_neg h2]
      split
      · rfl
      · by_cases h3 : 200 ≤ t.L.length
        · rw [if_pos h3]
        · rw [if_neg h3]; exact rn_push h hk
theorem rn_merge {t : Tre} {m k : Nat} (h : t.WF m) (a b : Int) : (t.merge a b).2.rn k = t.rn k := by
  unfold Tre.merge
  by_cases h1 : t.alike a b = false
  · rw [if_pos h1]
  · rw [if_neg h1]
    dsimp only
    by_cases e : t.canon a.toNat = t.canon b.toNat
    · rw [if_pos e]
    · rw [if_neg e]
      exact rn_tie (canon_lt h (there_iff.1 (alike_iff.1 (by simpa using h1)).2.1).2)
theorem rn_split {t : Tre} {m k : Nat} (h : t.WF m) (hk : k < m) (a : Int) : (t.split a).2.rn k = t.rn k := by
  unfold Tre.split
  by_cases h1 : t.there a = false
  · rw [if_pos h1]
  · rw [if_neg h1]
    by_cases h2 : 200 ≤ t.L.length
    · rw [if_pos h2]
    · rw [if_neg h2]; exact rn_cut h hk
theorem do_inv {fl : List (List ByteArray)} {t : Tre} (h : Inv fl t) (x : Act) (m : Int) : Inv fl (doT t x m).2 := by
  unfold doT
  by_cases h1 : x.what % 7 = 4
  · rw [if_pos h1]; exact ⟨merge_ok h.ok _ _, fun k hk => (rn_merge h.ok.wf _ _).trans (h.rn k hk)⟩
  · rw [if_neg h1]
    by_cases h2 : x.what % 7 = 5
    · rw [if_pos h2]; exact ⟨split_ok h.ok _, fun k hk => (rn_split h.ok.wf hk _).trans (h.rn k hk)⟩
    · rw [if_neg h2]
      by_cases h3 : x.what % 7 = 6
      · rw [if_pos h3]; exact ⟨make_ok h.ok _ _ (some_mem _), fun k hk => (rn_make h.ok.wf hk _ _).trans (h.rn k hk)⟩
      · rw [if_neg h3]; exact ⟨add_ok h.ok _ _ (fun _ => name_mem _), fun k hk => (rn_add h.ok.wf hk _ _).trans (h.rn k hk)⟩
def playT (t : Tre) : List Act → Tre
  | [] => t
  | x :: l => playT (doT t x ((t.L.length : Int) + 1)).2 l
theorem playT_inv {fl : List (List ByteArray)} (l : List Act) : ∀ {t : Tre}, Inv fl t → Inv fl (playT t l) := by
  induction l with
  | nil => exact id
  | cons x l ih => exact fun h => ih (do_inv h x _)
theorem playT_snoc (l : List Act) (x : Act) : ∀ t, playT t (l ++ [x]) = (doT (playT t l) x (((playT t l).L.length : Int) + 1)).2 := by
  induction l with
  | nil => intro t; rfl
  | cons y l ih => intro t; exact ih _
theorem newT_sh (fl : List (List ByteArray)) (s : Nat) : (newT fl).sh s = if s < fl.length then ⟨s, none, fl.getD s [], []⟩ else none0 := by
  unfold Tre.sh newT
  simp only [List.getD_eq_getElem?_getD, List.getElem?_mapIdx]
  by_cases h : s < fl.length
  · rw [if_pos h, List.getElem?_eq_getElem h]; rfl
  · rw [if_neg h, List.getElem?_eq_none (by omega)]; rfl
theorem newT_ali (fl : List (List ByteArray)) (s : Nat) : ((newT fl).sh s).ali = none := by
  rw [newT_sh]; split <;> rfl
theorem newT_inv {fl : List (List ByteArray)} (hl : fl.length ≤ 12) (hn : ∀ ns ∈ fl, ns.Nodup ∧ ∀ x ∈ ns, x ∈ nameL) : Inv fl (newT fl) := by
  have len : (newT fl).L.length = fl.length := by simp [newT]
  have R : ∀ k, k < fl.length → (newT fl).roots.getD k 0 = k := fun k hk => by
    unfold newT; simp only [List.getD_eq_getElem?_getD, List.getElem?_range hk]; rfl
  have M : ∀ s, ((newT fl).sh s).names ∈ fl ∨ ((newT fl).sh s).names = [] := fun s => by
    rw [newT_sh]; split
    · rename_i h
      left
      show fl.getD s [] ∈ fl
      rw [List.getD_eq_getElem?_getD, List.getElem?_eq_getElem h]; exact List.getElem_mem h
    · right; rfl
  refine ⟨⟨⟨by simp [newT], fun k hk => ?_, fun s hs => ?_, fun s a ha => ?_, fun s => newT_ali _ _, fun s p hp => ?_, fun s => ?_, by omega⟩, fun s x hx => ?_⟩, fun k hk => ?_⟩
  · rw [R k hk, len, newT_sh, if_pos hk]; exact ⟨hk, rfl⟩
  · rw [newT_sh, if_pos (by omega)]; show s < fl.length; omega
  · rw [newT_ali] at ha; cases ha
  · rw [newT_sh] at hp; split at hp <;> cases hp
  · rcases M s with h | h
    · exact (hn _ h).1
    · rw [h]; exact List.nodup_nil
  · rcases M s with h | h
    · exact (hn _ h).2 x hx
    · rw [h] at hx; cases hx
  · unfold Tre.rn; rw [R k hk, newT_sh, if_pos hk]
theorem cls_inv (n : Int) : Inv (clsOf n) (newT (clsOf n)) := by
  have := clsOf_len n
  refine newT_inv (by omega) fun ns h => ?_
  rcases clsOf_mem n ns h with rfl | rfl
  · refine ⟨by simp [xs1], fun x hx => ?_⟩
    simp only [xs1, List.mem_singleton] at hx
    subst hx; exact List.mem_cons_self ..
  · exact ⟨List.nodup_nil, fun x hx => by cases hx⟩
theorem Inv.pos {fl : List (List ByteArray)} {t : Tre} (h : Inv fl t) (hf : 0 < fl.length) : 0 < t.L.length := by have := (h.ok.wf.ro 0 hf).1; omega
theorem nameL_len : nameL.length = 6 := rfl
end Go.Proofs.YtjodmjadpooipaaGreatDoor.Sh
