/-
  Plain mathematics of layer 8, fifth part: transitions in increasing order of their names.
-/
import Derived.Test.YtjodmjadpooipaaGreatDoorSq
import Derived.Sort.Walk0
namespace Go.Proofs.YtjodmjadpooipaaGreatDoor.Sh

def SortedL (l : List (ByteArray × Nat)) : Prop := l.Pairwise fun a b => ltB a.1 b.1 = true
theorem ltB_less (a b : ByteArray) : Go.Op.bytesLess a.toList b.toList = ltB a b := by
  rw [Go.Proofs.bytesLess_eq]
  unfold ltB
  rw [ByteArray.toList_eq, ByteArray.toList_eq]
theorem ltB_irrefl (a : ByteArray) : ltB a a = false := by unfold ltB; rw [decide_eq_false_iff_not]; exact List.lt_irrefl _
theorem ltB_trans {a b c : ByteArray} (h : ltB a b = true) (k : ltB b c = true) : ltB a c = true := by
  unfold ltB at *
  rw [decide_eq_true_eq] at *
  exact List.lt_trans h k
theorem ltB_tri {a b : ByteArray} (h : ltB a b = false) (hne : a ≠ b) : ltB b a = true := by
  unfold ltB at *
  rw [decide_eq_false_iff_not] at h
  rw [decide_eq_true_eq]
  exact Std.lt_of_le_of_ne (List.not_lt.1 h) (fun e => hne (Go.WideShapes.bytes_inj e.symm))
theorem ltB_ne {a b : ByteArray} (h : ltB a b = true) : a ≠ b := fun e => by subst e; rw [ltB_irrefl] at h; cases h
/-- The first place whose name is not before nm. -/
def Place (nm : ByteArray) (l : List (ByteArray × Nat)) (n : Nat) : Prop :=
  (∀ i, i < n → ∀ q, l[i]? = some q → ltB q.1 nm = true) ∧ n ≤ l.length ∧ ∀ q, l[n]? = some q → ltB q.1 nm = false
theorem Place.split {nm : ByteArray} : ∀ {l : List (ByteArray × Nat)} {n : Nat}, Place nm l n → l.takeWhile (fun p => ltB p.1 nm) = l.take n ∧ l.dropWhile (fun p => ltB p.1 nm) = l.drop n := by
  intro l
  induction l with
  | nil => intro n h; simp
  | cons p l ih =>
    intro n h
    rcases n with _ | n
    · have := h.2.2 p rfl
      rw [List.takeWhile_cons, List.dropWhile_cons, this]; simp
    · have h1 := h.1 0 (by omega) p rfl
      have h2 := ih (n := n) ⟨fun i hi q hq => h.1 (i + 1) (by omega) q hq, by have := h.2.1; simpa using this, fun q hq => h.2.2 q hq⟩
      rw [List.takeWhile_cons, List.dropWhile_cons, h1]
      simp [h2.1, h2.2]
theorem Place.ins {nm : ByteArray} {l : List (ByteArray × Nat)} {n : Nat} (h : Place nm l n) (k : Nat) : insL nm k l = l.take n ++ (nm, k) :: l.drop n := by
  unfold insL; rw [h.split.1, h.split.2]
theorem Place.hit {nm : ByteArray} : ∀ {l : List (ByteArray × Nat)} {n : Nat} {q : ByteArray × Nat}, Place nm l n → l[n]? = some q → q.1 = nm → lookL nm l = some q.2 := by
  intro l
  induction l with
  | nil => intro n q _ hq; simp at hq
  | cons p l ih =>
    intro n q h hq e
    rcases n with _ | n
    · injection hq with hq; subst hq
      unfold lookL; rw [if_pos e]
    · have h1 := ltB_ne (h.1 0 (by omega) p rfl)
      unfold lookL; rw [if_neg h1]
      exact ih ⟨fun i hi q hq => h.1 (i + 1) (by omega) q hq, by have := h.2.1; simpa using this, fun q hq => h.2.2 q hq⟩ hq e
theorem look_none {nm : ByteArray} {l : List (ByteArray × Nat)} (h : ∀ q ∈ l, q.1 ≠ nm) : lookL nm l = none := by
  induction l with
  | nil => rfl
  | cons p l ih =>
    unfold lookL
    rw [if_neg (h p (List.mem_cons_self ..))]
    exact ih fun q hq => h q (List.mem_cons_of_mem _ hq)
theorem Place.miss {nm : ByteArray} {l : List (ByteArray × Nat)} {n : Nat} (h : Place nm l n) (hs : SortedL l) (hn : ∀ q, l[n]? = some q → q.1 ≠ nm) : lookL nm l = none := by
  refine look_none fun q hq => ?_
  obtain ⟨i, hi, rfl⟩ := List.mem_iff_getElem.1 hq
  rcases Nat.lt_trichotomy i n with g | g | g
  · exact ltB_ne (h.1 i g _ (List.getElem?_eq_getElem hi))
  · subst g; exact hn _ (List.getElem?_eq_getElem hi)
  · have hnl : n < l.length := by omega
    have h1 := h.2.2 _ (List.getElem?_eq_getElem hnl)
    have h2 := ltB_tri h1 (hn _ (List.getElem?_eq_getElem hnl))
    have h3 := List.pairwise_iff_getElem.1 hs n i hnl hi g
    exact fun e => ltB_ne (ltB_trans h2 h3) e.symm
theorem ins_sorted {nm : ByteArray} {k : Nat} {l : List (ByteArray × Nat)} (hs : SortedL l) (hl : lookL nm l = none) : SortedL (insL nm k l) := by
  have hne : ∀ q ∈ l, q.1 ≠ nm := by
    clear hs
    induction l with
    | nil => intro q hq; cases hq
    | cons p l ih =>
      unfold lookL at hl
      split at hl
      · cases hl
      · rename_i h
        intro q hq
        rcases List.mem_cons.1 hq with rfl | hq
        · exact h
        · exact ih hl q hq
  induction l with
  | nil => unfold insL; exact List.pairwise_singleton _ _
  | cons p l ih =>
    have hl2 : lookL nm l = none := by
      unfold lookL at hl
      rw [if_neg (hne p (List.mem_cons_self ..))] at hl; exact hl
    have ih := ih (List.pairwise_cons.1 hs).2 hl2 (fun q hq => hne q (List.mem_cons_of_mem _ hq))
    cases hp : ltB p.1 nm
    · have h2 := ltB_tri hp (hne p (List.mem_cons_self ..))
      have e : insL nm k (p :: l) = (nm, k) :: p :: l := by unfold insL; rw [List.takeWhile_cons, List.dropWhile_cons, hp]; rfl
      rw [e]
      refine List.pairwise_cons.2 ⟨fun q hq => ?_, hs⟩
      rcases List.mem_cons.1 hq with rfl | hq
      · exact h2
      · exact ltB_trans h2 ((List.pairwise_cons.1 hs).1 q hq)
    · have e : insL nm k (p :: l) = p :: insL nm k l := by unfold insL; rw [List.takeWhile_cons, List.dropWhile_cons, hp]; rfl
      rw [e]
      refine List.pairwise_cons.2 ⟨fun q hq => ?_, ih⟩
      rcases mem_ins hq with rfl | hq
      · exact hp
      · exact (List.pairwise_cons.1 hs).1 q hq
structure Srt (t : Tre) : Prop where
  so : ∀ s, SortedL (t.sh s).links
  lim : ∀ s, (t.sh s).links.length ≤ t.L.length
theorem srt_push {t : Tre} {k : Nat} {ns : List ByteArray} (h : Srt t) : Srt (t.push k ns) := by
  have S : ∀ r, (t.push k ns).sh r = if r = t.L.length then ⟨k, none, ns, []⟩ else t.sh r := sh_push t _ _
  have hL : (t.push k ns).L.length = t.L.length + 1 := by simp [Tre.push]
  refine ⟨fun s => ?_, fun s => ?_⟩
  · rw [S]; by_cases e : s = t.L.length
    · rw [if_pos e]; exact List.Pairwise.nil
    · rw [if_neg e]; exact h.so s
  · rw [S, hL]; by_cases e : s = t.L.length
    · rw [if_pos e]; exact Nat.zero_le _
    · rw [if_neg e]; have := h.lim s; omega
theorem srt_tie {t : Tre} {x y : Nat} (h : Srt t) (hy : y < t.L.length) : Srt (t.tie x y) := by
  have hL : (t.tie x y).L.length = t.L.length := by simp [Tre.tie]
  refine ⟨fun s => ?_, fun s => ?_⟩
  · rw [tie_sh t x hy]; by_cases e : s = y
    · subst e; rw [if_pos rfl]; exact h.so s
    · rw [if_neg e]; exact h.so s
  · rw [tie_sh t x hy, hL]; by_cases e : s = y
    · subst e; rw [if_pos rfl]; exact h.lim s
    · rw [if_neg e]; exact h.lim s
theorem srt_cut {t : Tre} {c : Nat} (h : Srt t) : Srt (t.cut c) := by
  have hL : (t.cut c).L.length = t.L.length + 1 := by simp [Tre.cut]
  refine ⟨fun s => ?_, fun s => ?_⟩
  · rw [cut_sh]; by_cases e : s = t.L.length
    · rw [if_pos e]; exact List.Pairwise.nil
    · rw [if_neg e]
      show SortedL ((t.sh s).links.map _)
      unfold SortedL
      rw [List.pairwise_map]
      exact h.so s
  · rw [cut_sh, hL]; by_cases e : s = t.L.length
    · rw [if_pos e]; exact Nat.zero_le _
    · rw [if_neg e]
      show ((t.sh s).links.map _).length ≤ _
      rw [List.length_map]
      have := h.lim s; omega
theorem ins_len (nm : ByteArray) (n : Nat) (l : List (ByteArray × Nat)) : (insL nm n l).length = l.length + 1 := by
  unfold insL
  have h := congrArg List.length (List.takeWhile_append_dropWhile (p := fun p : ByteArray × Nat => ltB p.1 nm) (l := l))
  rw [List.length_append] at h
  rw [List.length_append, List.length_cons]; omega
theorem srt_grow {t : Tre} {c : Nat} {nm : ByteArray} (h : Srt t) (hc : c < t.L.length) (hl : lookL nm (t.sh c).links = none) : Srt (t.grow c nm) := by
  have hL : (t.grow c nm).L.length = t.L.length + 1 := by simp [Tre.grow]
  refine ⟨fun s => ?_, fun s => ?_⟩
  · rw [grow_sh hc]; by_cases e : s = t.L.length
    · rw [if_pos e]; exact List.Pairwise.nil
    · rw [if_neg e]; by_cases e : s = c
      · subst e; rw [if_pos rfl]; exact ins_sorted (h.so s) hl
      · rw [if_neg e]; exact h.so s
  · rw [grow_sh hc, hL]; by_cases e : s = t.L.length
    · rw [if_pos e]; exact Nat.zero_le _
    · rw [if_neg e]; by_cases e : s = c
      · subst e; rw [if_pos rfl]
        show (insL _ _ _).length ≤ _
        rw [ins_len]; have := h.lim s; omega
      · rw [if_neg e]; have := h.lim s; omega
theorem srt_add {t : Tre} {m : Nat} (w : t.WF m) (h : Srt t) (s : Int) (nm : ByteArray) : Srt (t.add s nm).2 := by
  unfold Tre.add
  by_cases h1 : t.there s = false
  · rw [if_pos h1]; exact h
  · rw [if_neg h1]
    by_cases h2 : nm.size = 0 ∨ nm ∈ t.namesI s
    · rw [if_pos h2]; exact h
    · rw [if_neg h2]
      split
      · exact h
      · rename_i hl
        by_cases h3 : 64 ≤ (t.namesI s).length ∨ 200 ≤ t.L.length
        · rw [if_pos h3]; exact h
        · rw [if_neg h3]; exact srt_grow h (canon_lt w (there_iff.1 (by simpa using h1)).2) hl
theorem srt_make {t : Tre} (h : Srt t) (k : Int) (ns : List ByteArray) : Srt (t.make k ns).2 := by
  unfold Tre.make
  by_cases h1 : ¬ (0 ≤ k ∧ k < t.roots.length ∧ okNames ns = true)
  · rw [if_pos h1]; exact h
  · rw [if_neg h1]
    by_cases h2 : (t.sh (t.root k.toNat)).names = ns
    · rw [if_pos h2]; exact h
    · rw [if_neg h2]
      split
      · exact h
      · by_cases h3 : 200 ≤ t.L.length
        · rw [if_pos h3]; exact h
        · rw [if_neg h3]; exact srt_push h
theorem srt_merge {t : Tre} {m : Nat} (w : t.WF m) (h : Srt t) (a b : Int) : Srt (t.merge a b).2 := by
  unfold Tre.merge
  by_cases h1 : t.alike a b = false
  · rw [if_pos h1]; exact h
  · rw [if_neg h1]
    dsimp only
    by_cases e : t.canon a.toNat = t.canon b.toNat
    · rw [if_pos e]; exact h
    · rw [if_neg e]; exact srt_tie h (canon_lt w (there_iff.1 (alike_iff.1 (by simpa using h1)).2.1).2)
theorem srt_split {t : Tre} (h : Srt t) (a : Int) : Srt (t.split a).2 := by
  unfold Tre.split
  by_cases h1 : t.there a = false
  · rw [if_pos h1]; exact h
  · rw [if_neg h1]
    by_cases h2 : 200 ≤ t.L.length
    · rw [if_pos h2]; exact h
    · rw [if_neg h2]; exact srt_cut h
theorem srt_do {t : Tre} {m : Nat} (w : t.WF m) (h : Srt t) (x : Act) (n : Int) : Srt (doT t x n).2 := by
  unfold doT
  by_cases h1 : x.what % 7 = 4
  · rw [if_pos h1]; exact srt_merge w h _ _
  · rw [if_neg h1]
    by_cases h2 : x.what % 7 = 5
    · rw [if_pos h2]; exact srt_split h _
    · rw [if_neg h2]
      by_cases h3 : x.what % 7 = 6
      · rw [if_pos h3]; exact srt_make h _ _
      · rw [if_neg h3]; exact srt_add w h _ _
theorem srt_new (fl : List (List ByteArray)) : Srt (newT fl) := by
  refine ⟨fun s => ?_, fun s => ?_⟩
  · rw [newT_sh]; split <;> exact List.Pairwise.nil
  · rw [newT_sh]; split <;> exact Nat.zero_le _
end Go.Proofs.YtjodmjadpooipaaGreatDoor.Sh
