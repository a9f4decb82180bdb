/-
  Plain mathematics of layer 8, third part: what the laws say of a tree.
-/
import Derived.Test.YtjodmjadpooipaaGreatDoorSn
namespace Go.Proofs.YtjodmjadpooipaaGreatDoor.Sh

theorem look_ins {nm : ByteArray} {n : Nat} {l : List (ByteArray × Nat)} (h : lookL nm l = none) : lookL nm (insL nm n l) = some n := by
  unfold insL
  have hp : ∀ l : List (ByteArray × Nat), lookL nm l = none → ∀ r, lookL nm (l.takeWhile (fun p => ltB p.1 nm) ++ (nm, n) :: r) = some n := by
    intro l
    induction l with
    | nil => intro _ r; simp [lookL]
    | cons p l ih =>
      intro hl r
      unfold lookL at hl
      split at hl
      · cases hl
      · rename_i hne
        rw [List.takeWhile_cons]
        split
        · show lookL nm (p :: (_ ++ _)) = _
          unfold lookL
          rw [if_neg hne]; exact ih hl r
        · simp [lookL]
  exact hp l h _
theorem look_mem {nm : ByteArray} {n : Nat} {l : List (ByteArray × Nat)} (h : lookL nm l = some n) : (nm, n) ∈ l := by
  induction l with
  | nil => cases h
  | cons p l ih =>
    unfold lookL at h
    split at h
    · rename_i e; injection h with h; subst e; subst h; exact List.mem_cons_self ..
    · exact List.mem_cons_of_mem _ (ih h)
theorem pos_last {nm : ByteArray} {l : List ByteArray} (h : nm ∉ l) : posL nm (l ++ [nm]) = l.length := by
  induction l with
  | nil => simp [posL]
  | cons x l ih =>
    rw [List.cons_append]
    unfold posL
    rw [if_neg (fun e => h (by rw [e]; exact List.mem_cons_self ..)), ih (fun e => h (List.mem_cons_of_mem _ e))]; rfl
theorem namesI_nat {t : Tre} {s : Nat} (h : s < t.L.length) : t.namesI s = (t.sh s).names := by unfold Tre.namesI; rw [if_pos (there_nat h)]; rfl
theorem clsI_nat {t : Tre} {s : Nat} (h : s < t.L.length) : t.clsI s = (t.sh s).cls := by unfold Tre.clsI; rw [if_pos (there_nat h)]; rfl
theorem canonI_nat {t : Tre} {s : Nat} (h : s < t.L.length) : t.canonI s = t.canon s := by unfold Tre.canonI; rw [if_pos (there_nat h)]; rfl
theorem nodup_len' {α : Type} [DecidableEq α] {l : List α} : ∀ {q : List α}, l.Nodup → (∀ x ∈ l, x ∈ q) → l.length ≤ q.length := by
  induction l with
  | nil => intro q _ _; exact Nat.zero_le _
  | cons x l ih =>
    intro q hn hs
    rw [List.nodup_cons] at hn
    have hx : x ∈ q := hs x (List.mem_cons_self ..)
    have := @ih (q.erase x) hn.2 fun y hy => (List.mem_erase_of_ne (fun e : y = x => hn.1 (e ▸ hy))).2 (hs y (List.mem_cons_of_mem _ hy))
    rw [List.length_erase_of_mem hx] at this
    have hp := List.length_pos_of_mem hx
    rw [List.length_cons]; omega
theorem nodup_len {l q : List ByteArray} (hn : l.Nodup) (hs : ∀ x ∈ l, x ∈ q) : l.length ≤ q.length := nodup_len' hn hs
/-- What Add does with a name that is new. -/
theorem add_new {t : Tre} {m : Nat} {q : List ByteArray} (h : t.OK m (· ∈ q)) (hq : q.length < 64) {s : Nat} (hs : s < t.L.length) {nm : ByteArray} (h0 : nm.size ≠ 0) (hn : nm ∉ (t.sh s).names) :
    (t.add s nm = ((0, 2), t) ∧ t.L.length = 200) ∨
    (∃ (a : Nat) (t1 : Tre), t.add s nm = (((a : Int), 0), t1) ∧ a < t1.L.length ∧ t1.WF m ∧ t1.add s nm = (((a : Int), 0), t1) ∧ (t1.sh a).names = (t.sh s).names ++ [nm] ∧ (t1.sh a).cls = (t.sh s).cls ∧ (t1.sh s).cls = (t.sh s).cls ∧ t1.canon a = a ∧ t.L.length ≤ t1.L.length ∧ t1.L.length ≤ t.L.length + 1) := by
  have hni := namesI_nat hs
  have hk : ¬ (nm.size = 0 ∨ nm ∈ t.namesI s) := by rw [hni]; rintro (e | e); exact h0 e; exact hn e
  have hth := there_nat hs
  have hthf : ¬ t.there (s : Int) = false := by rw [hth]; decide
  have hlen : (t.sh s).names.length < 64 := Nat.lt_of_le_of_lt (nodup_len (h.wf.na s) (h.q s)) hq
  cases hl : lookL nm (t.sh (t.canon s)).links with
  | some a =>
    right
    have E : t.add s nm = (((t.canon a : Int), 0), t) := by
      unfold Tre.add; rw [if_neg hthf, if_neg hk, show (s : Int).toNat = s from rfl, hl]
    obtain ⟨x, y, z⟩ := h.wf.li _ _ (look_mem hl)
    refine ⟨t.canon a, t, E, canon_lt h.wf x, h.wf, E, ?_, ?_, rfl, canon_canon h.wf a, Nat.le_refl _, by omega⟩
    · rw [canon_names h.wf, z, canon_names h.wf]
    · rw [canon_cls h.wf, y, canon_cls h.wf]
  | none =>
    by_cases hf : 200 ≤ t.L.length
    · left
      refine ⟨?_, by have := h.wf.few; omega⟩
      unfold Tre.add; rw [if_neg hthf, if_neg hk, show (s : Int).toNat = s from rfl, hl]
      dsimp only
      rw [if_pos (.inr hf)]
    · right
      have hc := canon_lt h.wf hs
      have E : t.add s nm = (((t.L.length : Int), 0), t.grow (t.canon s) nm) := by
        unfold Tre.add; rw [if_neg hthf, if_neg hk, show (s : Int).toNat = s from rfl, hl]
        dsimp only
        rw [if_neg (by rw [hni]; omega)]
      have W : (t.grow (t.canon s) nm).WF m := grow_wf h.wf hc (by rw [canon_names h.wf]; exact hn) (by omega)
      have hL : (t.grow (t.canon s) nm).L.length = t.L.length + 1 := by simp [Tre.grow]
      have S := fun r => grow_sh (nm := nm) hc r
      have N := S t.L.length
      rw [if_pos rfl] at N
      have A : ∀ s, ((t.grow (t.canon s) nm).sh s).ali = (t.sh s).ali → True := fun _ _ => trivial
      have A : ∀ r, ((t.grow (t.canon s) nm).sh r).ali = (t.sh r).ali := fun r => by
        rw [S]; by_cases e : r = t.L.length
        · subst e; rw [if_pos rfl, sh_ge (Nat.le_refl _)]; rfl
        · rw [if_neg e]; by_cases e : r = t.canon s
          · subst e; rw [if_pos rfl]
          · rw [if_neg e]
      have C1 : (t.grow (t.canon s) nm).canon s = t.canon s := canon_same h.wf A (by omega) s
      have C2 : (t.grow (t.canon s) nm).canon t.L.length = t.L.length := canon_fix (by rw [N])
      have SS : ((t.grow (t.canon s) nm).sh s).cls = (t.sh s).cls ∧ ((t.grow (t.canon s) nm).sh s).names = (t.sh s).names := by
        rw [S, if_neg (by omega)]; by_cases e : s = t.canon s
        · rw [if_pos e, ← e]; exact ⟨rfl, rfl⟩
        · rw [if_neg e]; exact ⟨rfl, rfl⟩
      refine ⟨t.L.length, _, E, by omega, W, ?_, ?_, ?_, SS.1, C2, by omega, by omega⟩
      · have hs' : s < (t.grow (t.canon s) nm).L.length := by omega
        unfold Tre.add
        rw [if_neg (by rw [there_nat hs']; decide), if_neg (by rw [namesI_nat hs', SS.2]; rintro (e | e); exact h0 e; exact hn e), show (s : Int).toNat = s from rfl, C1]
        have : lookL nm ((t.grow (t.canon s) nm).sh (t.canon s)).links = some t.L.length := by
          rw [S, if_neg (by omega), if_pos rfl]; exact look_ins hl
        rw [this]
        dsimp only
        rw [C2]
      · rw [N]; show (t.sh (t.canon s)).names ++ [nm] = _; rw [canon_names h.wf]
      · rw [N]; exact canon_cls h.wf s
theorem find_some {t : Tre} {k : Int} {ns : List ByteArray} {c : Nat} (hc : c < t.L.length) (ha : (t.sh c).ali = none) (hk : ((t.sh c).cls : Int) = k) (hn : (t.sh c).names = ns) :
    ∃ f, t.find k ns = some f ∧ f ≤ c ∧ f < t.L.length ∧ (t.sh f).ali = none := by
  unfold Tre.find
  have hfit : fits k ns t.L[c] = true := by rw [← sh_lt hc]; unfold fits; rw [decide_eq_true_eq]; exact ⟨ha, hk, hn⟩
  cases hf : t.L.findIdx? (fits k ns) with
  | none =>
    rw [List.findIdx?_eq_none_iff] at hf
    have := hf _ (List.getElem_mem hc)
    rw [hfit] at this; cases this
  | some f =>
    rw [List.findIdx?_eq_some_iff_getElem] at hf
    obtain ⟨h1, h2, h3⟩ := hf
    refine ⟨f, rfl, ?_, h1, ?_⟩
    · rcases Nat.lt_or_ge c f with g | g
      · exact absurd hfit (h3 c g)
      · exact g
    · rw [sh_lt h1]; unfold fits at h2; rw [decide_eq_true_eq] at h2; exact h2.1
theorem find_is {t : Tre} {k : Int} {ns : List ByteArray} {f : Nat} (hf : t.find k ns = some f) : f < t.L.length ∧ (t.sh f).ali = none ∧ ((t.sh f).cls : Int) = k ∧ (t.sh f).names = ns := by
  unfold Tre.find at hf
  rw [List.findIdx?_eq_some_iff_getElem] at hf
  obtain ⟨h1, h2, h3⟩ := hf
  unfold fits at h2; rw [decide_eq_true_eq, ← sh_lt h1] at h2
  exact ⟨h1, h2⟩
theorem find_push {t : Tre} {k : Nat} {ns : List ByteArray} (hf : t.find k ns = none) : (t.push k ns).find k ns = some t.L.length := by
  unfold Tre.find Tre.push at *
  dsimp only
  rw [List.findIdx?_append, hf]
  simp [fits]
/-- What Make does, twice. -/
theorem make_twice {t : Tre} {m : Nat} (h : t.WF m) {k : Nat} (hk : k < m) {ns : List ByteArray} (ho : okNames ns = true) :
    (t.make k ns = ((0, 2), t)) ∨
    (∃ (a : Nat) (t1 : Tre), t.make k ns = (((a : Int), 0), t1) ∧ a < t1.L.length ∧ t1.WF m ∧ t1.make k ns = (((a : Int), 0), t1) ∧ (t1.sh a).names = ns ∧ (t1.sh a).cls = k ∧ t1.canon a = a ∧ t1.L.length ≤ t.L.length + 1) := by
  have hc : ¬ ¬ (0 ≤ (k : Int) ∧ (k : Int) < t.roots.length ∧ okNames ns = true) := by rw [h.rl]; exact fun e => e ⟨by omega, by omega, ho⟩
  by_cases hr : (t.sh (t.root k)).names = ns
  · right
    have E : t.make k ns = (((t.root k : Int), 0), t) := by unfold Tre.make; rw [if_neg hc, show (k : Int).toNat = k from rfl, if_pos hr]
    exact ⟨_, _, E, root_lt h hk, h, E, hr, root_cls h hk, canon_canon h _, by omega⟩
  · cases hf : t.find k ns with
    | some n =>
      right
      have E : t.make k ns = (((n : Int), 0), t) := by unfold Tre.make; rw [if_neg hc, show (k : Int).toNat = k from rfl, if_neg hr, hf]
      obtain ⟨a, b, c, d⟩ := find_is hf
      exact ⟨_, _, E, a, h, E, d, by omega, canon_fix b, by omega⟩
    | none =>
      by_cases hl : 200 ≤ t.L.length
      · left; unfold Tre.make; rw [if_neg hc, show (k : Int).toNat = k from rfl, if_neg hr, hf]; dsimp only; rw [if_pos hl]
      · right
        have E : t.make k ns = (((t.L.length : Int), 0), t.push k ns) := by unfold Tre.make; rw [if_neg hc, show (k : Int).toNat = k from rfl, if_neg hr, hf]; dsimp only; rw [if_neg hl]
        have hn : ns.Nodup := by unfold okNames at ho; rw [decide_eq_true_eq] at ho; exact ho.2.1
        have W : (t.push k ns).WF m := push_wf h hk hn (by omega)
        have hL : (t.push k ns).L.length = t.L.length + 1 := by simp [Tre.push]
        have S : ∀ r, (t.push k ns).sh r = if r = t.L.length then ⟨k, none, ns, []⟩ else t.sh r := sh_push t _ _
        have A : ∀ r, ((t.push k ns).sh r).ali = (t.sh r).ali := fun r => by
          rw [S]; by_cases e : r = t.L.length
          · subst e; rw [if_pos rfl, sh_ge (Nat.le_refl _)]; rfl
          · rw [if_neg e]
        have R : (t.push k ns).root k = t.root k := canon_same h A (by omega) _
        have N := S t.L.length
        rw [if_pos rfl] at N
        refine ⟨_, _, E, by omega, W, ?_, by rw [N], by rw [N], canon_fix (by rw [N]), by omega⟩
        have SR : (t.push k ns).sh (t.root k) = t.sh (t.root k) := by rw [S, if_neg (by have := root_lt h hk; omega)]
        unfold Tre.make
        rw [if_neg (show ¬ ¬ (0 ≤ (k : Int) ∧ (k : Int) < (t.push k ns).roots.length ∧ okNames ns = true) from hc), show (k : Int).toNat = k from rfl, R, SR, if_neg hr, find_push hf]
theorem make_err {t : Tre} {m : Nat} (h : t.WF m) {k : Int} {ns : List ByteArray} (ho : ¬ (0 ≤ k ∧ k < m ∧ okNames ns = true)) : t.make k ns = ((0, 1), t) := by
  unfold Tre.make; rw [h.rl, if_pos ho]
/-- Two shapes that were merged are one, also for a new name. -/
theorem merge_two {t : Tre} {m : Nat} {q : List ByteArray} (h : t.OK m (· ∈ q)) (hq : q.length < 64) {a b : Nat} (ha : a < t.L.length) (hb : b < t.L.length) (hal : t.alike a b = true) {nm : ByteArray} (h0 : nm.size ≠ 0) (hnm : nm ∉ q) :
    ∃ t1, t.merge a b = (0, t1) ∧ t1.OK m (· ∈ q) ∧ t1.L.length = t.L.length ∧ (∀ s, (t1.sh s).names = (t.sh s).names) ∧ t1.canon a = t.canon a ∧ t1.canon b = t.canon a ∧
      (t1.add a nm).1 = ((t1.add a nm).2.add b nm).1 ∧ (t1.add a nm).2.canon a = t.canon a ∧ (t1.add a nm).2.canon b = t.canon a ∧ t.L.length ≤ (t1.add a nm).2.L.length ∧
      ((t1.add a nm).2.add b nm).2 = (t1.add a nm).2 := by
  obtain ⟨_, _, hc, hn⟩ := alike_iff.1 hal
  rw [show (a : Int).toNat = a from rfl, show (b : Int).toNat = b from rfl] at hc hn
  have M : ∃ t1, t.merge a b = (0, t1) ∧ t1.OK m (· ∈ q) ∧ t1.L.length = t.L.length ∧ (∀ s, (t1.sh s).names = (t.sh s).names) ∧ t1.canon a = t.canon a ∧ t1.canon b = t.canon a := by
    have hM := merge_ok h a b
    unfold Tre.merge at hM ⊢
    rw [if_neg (by rw [hal]; decide)] at hM ⊢
    rw [show (a : Int).toNat = a from rfl, show (b : Int).toNat = b from rfl] at hM ⊢
    by_cases e : t.canon a = t.canon b
    · rw [if_pos e] at hM ⊢; exact ⟨_, rfl, h, rfl, fun _ => rfl, rfl, e.symm⟩
    · rw [if_neg e] at hM ⊢
      have hbl := canon_lt h.wf hb
      have T := tie_canon h.wf (canon_root h.wf a) (canon_root h.wf b) (canon_lt h.wf ha) hbl e (by rw [canon_cls h.wf, canon_cls h.wf, hc]) (by rw [canon_names h.wf, canon_names h.wf, hn])
      refine ⟨_, rfl, hM, by simp [Tre.tie], fun s => ?_, by rw [T, if_neg e], by rw [T, if_pos rfl]⟩
      rw [tie_sh _ _ hbl]
      by_cases e : s = t.canon b
      · rw [if_pos e, e]
      · rw [if_neg e]
  obtain ⟨t1, e1, o1, l1, n1, ca, cb⟩ := M
  refine ⟨t1, e1, o1, l1, n1, ca, cb, ?_⟩
  have ha1 : a < t1.L.length := by omega
  have hb1 : b < t1.L.length := by omega
  have na : nm ∉ (t1.sh a).names := fun e => hnm (o1.q _ _ e)
  have nb : nm ∉ (t1.sh b).names := fun e => hnm (o1.q _ _ e)
  have look : ∀ s, lookL nm (t1.sh s).links = none := fun s => by
    cases hl : lookL nm (t1.sh s).links with
    | none => rfl
    | some to =>
      obtain ⟨_, _, z⟩ := o1.wf.li _ _ (look_mem hl)
      exact absurd (o1.q to nm (by rw [z]; simp)) hnm
  have hla : (t1.sh a).names.length < 64 := Nat.lt_of_le_of_lt (nodup_len (o1.wf.na a) (o1.q a)) hq
  have hlb : (t1.sh b).names.length < 64 := Nat.lt_of_le_of_lt (nodup_len (o1.wf.na b) (o1.q b)) hq
  have E : ∀ s, s < t1.L.length → t1.add s nm = if 200 ≤ t1.L.length then ((0, 2), t1) else (((t1.L.length : Int), 0), t1.grow (t1.canon s) nm) := fun s hs => by
    have hl : (t1.sh s).names.length < 64 := Nat.lt_of_le_of_lt (nodup_len (o1.wf.na s) (o1.q s)) hq
    unfold Tre.add
    rw [if_neg (by rw [there_nat hs]; decide), if_neg (by rw [namesI_nat hs]; rintro (e | e); exact h0 e; exact hnm (o1.q _ _ e)), show (s : Int).toNat = s from rfl, look]
    dsimp only
    rw [namesI_nat hs]
    by_cases e : 200 ≤ t1.L.length
    · rw [if_pos (.inr e), if_pos e]
    · rw [if_neg (by omega), if_neg e]
  rw [E a ha1]
  by_cases hf : 200 ≤ t1.L.length
  · rw [if_pos hf]
    dsimp only
    rw [E b hb1, if_pos hf]
    exact ⟨rfl, ca, cb, by omega, rfl⟩
  · rw [if_neg hf]
    dsimp only
    have hcl := canon_lt o1.wf ha1
    have S := fun r => grow_sh (nm := nm) hcl r
    have N := S t1.L.length
    rw [if_pos rfl] at N
    have A : ∀ r, ((t1.grow (t1.canon a) nm).sh r).ali = (t1.sh r).ali := fun r => by
      rw [S]; by_cases e : r = t1.L.length
      · subst e; rw [if_pos rfl, sh_ge (Nat.le_refl _)]; rfl
      · rw [if_neg e]; by_cases e : r = t1.canon a
        · subst e; rw [if_pos rfl]
        · rw [if_neg e]
    have hL : (t1.grow (t1.canon a) nm).L.length = t1.L.length + 1 := by simp [Tre.grow]
    have C : ∀ s, (t1.grow (t1.canon a) nm).canon s = t1.canon s := canon_same o1.wf A (by omega)
    have C2 : (t1.grow (t1.canon a) nm).canon t1.L.length = t1.L.length := canon_fix (by rw [N])
    have nb2 : ((t1.grow (t1.canon a) nm).sh b).names = (t1.sh b).names := by
      rw [S, if_neg (by omega)]; by_cases e : b = t1.canon a
      · rw [if_pos e, ← e]
      · rw [if_neg e]
    have hb2 : b < (t1.grow (t1.canon a) nm).L.length := by omega
    have E2 : (t1.grow (t1.canon a) nm).add b nm = (((t1.L.length : Int), 0), t1.grow (t1.canon a) nm) := by
      unfold Tre.add
      rw [if_neg (by rw [there_nat hb2]; decide), if_neg (by rw [namesI_nat hb2, nb2]; rintro (e | e); exact h0 e; exact nb e), show (b : Int).toNat = b from rfl, C, cb, ← ca]
      have : lookL nm ((t1.grow (t1.canon a) nm).sh (t1.canon a)).links = some t1.L.length := by
        rw [S, if_neg (by omega), if_pos rfl]; exact look_ins (look _)
      rw [this]
      dsimp only
      rw [C2]
    rw [E2]
    exact ⟨rfl, by rw [C, ca], by rw [C, cb], by omega, rfl⟩
theorem merge_err {t : Tre} {a b : Int} (h : t.alike a b = false) : t.merge a b = (1, t) := by unfold Tre.merge; rw [if_pos h]
end Go.Proofs.YtjodmjadpooipaaGreatDoor.Sh
