/-
  Plain mathematics of layer 8: shapes as a list, and what the calls make of it.
-/
import Derived.Test.YtjodmjadpooipaaGreatDoorProg
namespace Go.Proofs.YtjodmjadpooipaaGreatDoor.Sh

structure Shp where
  cls : Nat
  ali : Option Nat
  names : List ByteArray
  links : List (ByteArray × Nat)
structure Tre where
  L : List Shp
  roots : List Nat
def none0 : Shp := ⟨0, none, [], []⟩
def Tre.sh (t : Tre) (s : Nat) : Shp := t.L.getD s none0
def hop (t : Tre) (s : Nat) : Nat := match (t.sh s).ali with | some a => a | none => s
def iter (f : Nat → Nat) : Nat → Nat → Nat
  | 0, s => s
  | n + 1, s => iter f n (f s)
def Tre.canon (t : Tre) (s : Nat) : Nat := iter (hop t) t.L.length s
def Tre.als (t : Tre) : Nat := t.L.countP (fun x => x.ali.isSome)
def Tre.there (t : Tre) (s : Int) : Bool := decide (0 ≤ s ∧ s < t.L.length)
def Tre.root (t : Tre) (k : Nat) : Nat := t.canon (t.roots.getD k 0)
def Tre.canonI (t : Tre) (s : Int) : Int := if t.there s = true then (t.canon s.toNat : Int) else -1
def Tre.rootI (t : Tre) (k : Int) : Int := if 0 ≤ k ∧ k < t.roots.length then (t.root k.toNat : Int) else -1
def Tre.clsI (t : Tre) (s : Int) : Int := if t.there s = true then ((t.sh s.toNat).cls : Int) else -1
def Tre.namesI (t : Tre) (s : Int) : List ByteArray := if t.there s = true then (t.sh s.toNat).names else []
/-- Whether a name is among others. -/
instance (x : ByteArray) (l : List ByteArray) : Decidable (x ∈ l) := @List.instDecidableMemOfLawfulBEq ByteArray instBEqOfDecidableEq inferInstance x l
def posL (nm : ByteArray) : List ByteArray → Nat
  | [] => 0
  | x :: l => if x = nm then 0 else posL nm l + 1
def slotL (l : List ByteArray) (nm : ByteArray) : Int × Bool := if nm ∈ l then ((posL nm l : Int), true) else (0, false)
def fits (k : Int) (ns : List ByteArray) (x : Shp) : Bool := decide (x.ali = none ∧ (x.cls : Int) = k ∧ x.names = ns)
def Tre.find (t : Tre) (k : Int) (ns : List ByteArray) : Option Nat := t.L.findIdx? (fits k ns)
def Tre.findI (t : Tre) (k : Int) (ns : List ByteArray) : Int × Bool := match t.find k ns with | some n => ((n : Int), true) | none => (0, false)
def lookL (nm : ByteArray) : List (ByteArray × Nat) → Option Nat
  | [] => none
  | p :: l => if p.1 = nm then some p.2 else lookL nm l
def ltB (a b : ByteArray) : Bool := decide (a.data.toList < b.data.toList)
def insL (nm : ByteArray) (n : Nat) (l : List (ByteArray × Nat)) : List (ByteArray × Nat) := l.takeWhile (fun p => ltB p.1 nm) ++ (nm, n) :: l.dropWhile (fun p => ltB p.1 nm)
def Tre.grow (t : Tre) (c : Nat) (nm : ByteArray) : Tre := ⟨t.L.set c { t.sh c with links := insL nm t.L.length (t.sh c).links } ++ [⟨(t.sh c).cls, none, (t.sh c).names ++ [nm], []⟩], t.roots⟩
def Tre.push (t : Tre) (k : Nat) (ns : List ByteArray) : Tre := ⟨t.L ++ [⟨k, none, ns, []⟩], t.roots⟩
def Tre.add (t : Tre) (s : Int) (nm : ByteArray) : (Int × Int) × Tre :=
  if t.there s = false then ((0, 1), t)
  else if nm.size = 0 ∨ nm ∈ t.namesI s then ((0, 13), t)
  else match lookL nm (t.sh (t.canon s.toNat)).links with
    | some a => (((t.canon a : Int), 0), t)
    | none => if 64 ≤ (t.namesI s).length ∨ 200 ≤ t.L.length then ((0, 2), t) else (((t.L.length : Int), 0), t.grow (t.canon s.toNat) nm)
def okNames (ns : List ByteArray) : Bool := decide (ns.length ≤ 64 ∧ ns.Nodup ∧ ∀ x ∈ ns, x.size ≠ 0)
def Tre.make (t : Tre) (k : Int) (ns : List ByteArray) : (Int × Int) × Tre :=
  if ¬ (0 ≤ k ∧ k < t.roots.length ∧ okNames ns = true) then ((0, 1), t)
  else if (t.sh (t.root k.toNat)).names = ns then (((t.root k.toNat : Int), 0), t)
  else match t.find k ns with
    | some n => (((n : Int), 0), t)
    | none => if 200 ≤ t.L.length then ((0, 2), t) else (((t.L.length : Int), 0), t.push k.toNat ns)
def Tre.tie (t : Tre) (x y : Nat) : Tre := ⟨t.L.set y { t.sh y with ali := some x }, t.roots⟩
def Tre.alike (t : Tre) (a b : Int) : Bool := t.there a && t.there b && decide (t.clsI a = t.clsI b) && decide (t.namesI a = t.namesI b)
def Tre.merge (t : Tre) (a b : Int) : Int × Tre :=
  if t.alike a b = false then (1, t)
  else (0, if t.canon a.toNat = t.canon b.toNat then t else t.tie (t.canon a.toNat) (t.canon b.toNat))
def Tre.cut (t : Tre) (c : Nat) : Tre :=
  ⟨(t.L.map fun x => { x with links := x.links.map fun p => (p.1, if t.canon p.2 = c then t.L.length else p.2) }) ++ [⟨(t.sh c).cls, none, (t.sh c).names, []⟩],
    if t.root (t.sh c).cls = c then t.roots.set (t.sh c).cls t.L.length else t.roots⟩
def Tre.split (t : Tre) (a : Int) : (Int × Int) × Tre :=
  if t.there a = false then ((0, 1), t) else if 200 ≤ t.L.length then ((0, 2), t) else (((t.L.length : Int), 0), t.cut (t.canon a.toNat))

/-- The tree is one: m classes. -/
structure Tre.WF (t : Tre) (m : Nat) : Prop where
  rl : t.roots.length = m
  ro : ∀ k, k < m → t.roots.getD k 0 < t.L.length ∧ (t.sh (t.roots.getD k 0)).cls = k
  cl : ∀ s, s < t.L.length → (t.sh s).cls < m
  al : ∀ s a, (t.sh s).ali = some a → a < t.L.length ∧ (t.sh a).cls = (t.sh s).cls ∧ (t.sh a).names = (t.sh s).names
  dp : ∀ s, (t.sh (iter (hop t) t.als s)).ali = none
  li : ∀ s p, p ∈ (t.sh s).links → p.2 < t.L.length ∧ (t.sh p.2).cls = (t.sh s).cls ∧ (t.sh p.2).names = (t.sh s).names ++ [p.1]
  na : ∀ s, (t.sh s).names.Nodup
  few : t.L.length ≤ 200

theorem iter_add (f : Nat → Nat) (a b s : Nat) : iter f (a + b) s = iter f b (iter f a s) := by
  induction a generalizing s with
  | zero => rw [Nat.zero_add]; rfl
  | succ a ih => rw [Nat.succ_add]; exact ih (f s)
theorem hop_root {t : Tre} {s : Nat} (h : (t.sh s).ali = none) : hop t s = s := by unfold hop; rw [h]
theorem iter_root {t : Tre} {s : Nat} (h : (t.sh s).ali = none) (n : Nat) : iter (hop t) n s = s := by
  induction n with
  | zero => rfl
  | succ n ih => show iter (hop t) n (hop t s) = s; rw [hop_root h, ih]
theorem sh_ge {t : Tre} {s : Nat} (h : t.L.length ≤ s) : t.sh s = none0 := by unfold Tre.sh; rw [List.getD_eq_getElem?_getD, List.getElem?_eq_none h]; rfl
theorem sh_lt {t : Tre} {s : Nat} (h : s < t.L.length) : t.sh s = t.L[s] := by unfold Tre.sh; rw [List.getD_eq_getElem?_getD, List.getElem?_eq_getElem h]; rfl
theorem als_le (t : Tre) : t.als ≤ t.L.length := List.countP_le_length
section
variable {t : Tre} {m : Nat} (h : t.WF m)
include h
theorem canon_als (s : Nat) : t.canon s = iter (hop t) t.als s := by
  unfold Tre.canon
  rw [show t.L.length = t.als + (t.L.length - t.als) by have := als_le t; omega, iter_add]
  exact iter_root (h.dp s) _
theorem canon_root (s : Nat) : (t.sh (t.canon s)).ali = none := by rw [canon_als h]; exact h.dp s
theorem canon_of (s n r : Nat) (hi : iter (hop t) n s = r) (hr : (t.sh r).ali = none) : t.canon s = r := by
  have h1 := canon_root h s
  unfold Tre.canon at h1 ⊢
  rcases Nat.le_total n t.L.length with hn | hn
  · rw [show t.L.length = n + (t.L.length - n) by omega, iter_add, hi]; exact iter_root hr _
  · rw [← hi, show n = t.L.length + (n - t.L.length) by omega, iter_add, iter_root h1]
omit h in
theorem canon_fix {s : Nat} (hs : (t.sh s).ali = none) : t.canon s = s := iter_root hs _
theorem canon_canon (s : Nat) : t.canon (t.canon s) = t.canon s := canon_fix (canon_root h s)
theorem hop_keep (s : Nat) : (s < t.L.length → hop t s < t.L.length) ∧ (t.sh (hop t s)).cls = (t.sh s).cls ∧ (t.sh (hop t s)).names = (t.sh s).names := by
  cases ha : (t.sh s).ali with
  | none => rw [hop_root ha]; exact ⟨id, rfl, rfl⟩
  | some a =>
    have e : hop t s = a := by unfold hop; rw [ha]
    rw [e]; exact ⟨fun _ => (h.al s a ha).1, (h.al s a ha).2⟩
theorem iter_keep (n s : Nat) : (s < t.L.length → iter (hop t) n s < t.L.length) ∧ (t.sh (iter (hop t) n s)).cls = (t.sh s).cls ∧ (t.sh (iter (hop t) n s)).names = (t.sh s).names := by
  induction n generalizing s with
  | zero => exact ⟨id, rfl, rfl⟩
  | succ n ih =>
    obtain ⟨a, b, c⟩ := hop_keep h s
    obtain ⟨d, e, f⟩ := ih (hop t s)
    exact ⟨fun x => d (a x), e.trans b, f.trans c⟩
theorem canon_lt {s : Nat} (hs : s < t.L.length) : t.canon s < t.L.length := (iter_keep h _ s).1 hs
theorem canon_cls (s : Nat) : (t.sh (t.canon s)).cls = (t.sh s).cls := (iter_keep h _ s).2.1
theorem canon_names (s : Nat) : (t.sh (t.canon s)).names = (t.sh s).names := (iter_keep h _ s).2.2
theorem root_lt {k : Nat} (hk : k < m) : t.root k < t.L.length := canon_lt h (h.ro k hk).1
theorem root_cls {k : Nat} (hk : k < m) : (t.sh (t.root k)).cls = k := (canon_cls h _).trans (h.ro k hk).2
theorem root_root (k : Nat) : (t.sh (t.root k)).ali = none := canon_root h _
end
/-- Where aliases are as they were, canonical shapes are. -/
theorem hop_same {t u : Tre} (h : ∀ s, (u.sh s).ali = (t.sh s).ali) : hop u = hop t := by funext s; unfold hop; rw [h s]
theorem canon_same {t u : Tre} {m : Nat} (w : t.WF m) (h : ∀ s, (u.sh s).ali = (t.sh s).ali) (hl : t.L.length ≤ u.L.length) (s : Nat) : u.canon s = t.canon s := by
  unfold Tre.canon
  rw [hop_same h, show u.L.length = t.L.length + (u.L.length - t.L.length) by omega, iter_add]
  exact iter_root (canon_root w s) _

theorem sh_push (t : Tre) (x : Shp) (r : List Nat) (s : Nat) : (Tre.mk (t.L ++ [x]) r).sh s = if s = t.L.length then x else t.sh s := by
  unfold Tre.sh
  simp only [List.getD_eq_getElem?_getD]
  by_cases h : s < t.L.length
  · rw [if_neg (by omega), List.getElem?_append_left h]
  · by_cases h2 : s = t.L.length
    · subst h2; rw [if_pos rfl, List.getElem?_append_right (Nat.le_refl _)]; simp
    · rw [if_neg h2, List.getElem?_eq_none (by simp; omega), List.getElem?_eq_none (by omega)]
theorem als_push (t : Tre) (x : Shp) (r : List Nat) (h : x.ali = none) : (Tre.mk (t.L ++ [x]) r).als = t.als := by
  unfold Tre.als; simp [List.countP_append, h]
theorem push_wf {t : Tre} {m k : Nat} {ns : List ByteArray} (h : t.WF m) (hk : k < m) (hn : ns.Nodup) (hl : t.L.length < 200) : (t.push k ns).WF m := by
  have S : ∀ s, (t.push k ns).sh s = if s = t.L.length then ⟨k, none, ns, []⟩ else t.sh s := sh_push t _ _
  have A : ∀ s, ((t.push k ns).sh s).ali = (t.sh s).ali := fun s => by
    rw [S]; by_cases e : s = t.L.length
    · subst e; rw [if_pos rfl, sh_ge (Nat.le_refl _)]; rfl
    · rw [if_neg e]
  have hL : (t.push k ns).L.length = t.L.length + 1 := by simp [Tre.push]
  have P : ∀ s, s < t.L.length → (t.push k ns).sh s = t.sh s := fun s hs => by rw [S, if_neg (by omega)]
  refine ⟨h.rl, fun j hj => ?_, fun s hs => ?_, fun s a ha => ?_, fun s => ?_, fun s p hp => ?_, fun s => ?_, by rw [hL]; omega⟩
  · obtain ⟨a, b⟩ := h.ro j hj
    have e : (t.push k ns).roots = t.roots := rfl
    rw [hL, e, P _ a]; exact ⟨by omega, b⟩
  · rw [S]; by_cases e : s = t.L.length
    · rw [if_pos e]; exact hk
    · rw [if_neg e]; exact h.cl s (by omega)
  · rw [A] at ha
    have hs : s < t.L.length := by
      rcases Nat.lt_or_ge s t.L.length with g | g
      · exact g
      · rw [sh_ge g] at ha; cases ha
    obtain ⟨x, y⟩ := h.al s a ha
    rw [hL, P s hs, P a x]; exact ⟨by omega, y⟩
  · rw [A, hop_same A, show (t.push k ns).als = t.als from als_push t _ _ rfl]; exact h.dp s
  · rw [S] at hp; by_cases e : s = t.L.length
    · rw [if_pos e] at hp; cases hp
    · rw [if_neg e] at hp
      obtain ⟨x, y⟩ := h.li s p hp
      rw [hL, S s, if_neg e, P _ x]; exact ⟨by omega, y⟩
  · rw [S]; by_cases e : s = t.L.length
    · rw [if_pos e]; exact hn
    · rw [if_neg e]; exact h.na s
/-- Another list of links. -/
theorem mem_ins {nm : ByteArray} {n : Nat} {l : List (ByteArray × Nat)} {p : ByteArray × Nat} (h : p ∈ insL nm n l) : p = (nm, n) ∨ p ∈ l := by
  unfold insL at h
  rcases List.mem_append.1 h with h | h
  · exact .inr (List.takeWhile_subset _ h)
  · rcases List.mem_cons.1 h with h | h
    · exact .inl h
    · exact .inr (List.dropWhile_subset _ h)
theorem sh_set (t : Tre) (c : Nat) (x : Shp) (r : List Nat) (hc : c < t.L.length) (s : Nat) : (Tre.mk (t.L.set c x) r).sh s = if s = c then x else t.sh s := by
  unfold Tre.sh
  simp only [List.getD_eq_getElem?_getD]
  by_cases h : s = c
  · subst h; rw [if_pos rfl, List.getElem?_set_self hc]; rfl
  · rw [if_neg h, List.getElem?_set_ne (fun e => h e.symm)]
theorem als_set (t : Tre) (c : Nat) (x : Shp) (r : List Nat) (hc : c < t.L.length) : (Tre.mk (t.L.set c x) r).als = t.als - (if (t.sh c).ali.isSome then 1 else 0) + (if x.ali.isSome then 1 else 0) := by
  unfold Tre.als
  show (t.L.set c x).countP _ = _
  rw [List.countP_set hc, sh_lt hc]
theorem grow_sh {t : Tre} {c : Nat} {nm : ByteArray} (hc : c < t.L.length) (s : Nat) :
    (t.grow c nm).sh s = if s = t.L.length then ⟨(t.sh c).cls, none, (t.sh c).names ++ [nm], []⟩ else if s = c then { t.sh c with links := insL nm t.L.length (t.sh c).links } else t.sh s := by
  have := sh_push (Tre.mk (t.L.set c { t.sh c with links := insL nm t.L.length (t.sh c).links }) t.roots) ⟨(t.sh c).cls, none, (t.sh c).names ++ [nm], []⟩ t.roots s
  rw [sh_set t c _ _ hc, show (Tre.mk (t.L.set c { t.sh c with links := insL nm t.L.length (t.sh c).links }) t.roots).L.length = t.L.length by simp] at this
  exact this
theorem grow_wf {t : Tre} {m c : Nat} {nm : ByteArray} (h : t.WF m) (hc : c < t.L.length) (hn : nm ∉ (t.sh c).names) (hl : t.L.length < 200) : (t.grow c nm).WF m := by
  have S := fun s => grow_sh (nm := nm) hc s
  have A : ∀ s, ((t.grow c nm).sh s).ali = (t.sh s).ali := fun s => by
    rw [S]; by_cases e : s = t.L.length
    · subst e; rw [if_pos rfl, sh_ge (Nat.le_refl _)]; rfl
    · rw [if_neg e]; by_cases e : s = c
      · subst e; rw [if_pos rfl]
      · rw [if_neg e]
  have C : ∀ s, s < t.L.length → ((t.grow c nm).sh s).cls = (t.sh s).cls ∧ ((t.grow c nm).sh s).names = (t.sh s).names := fun s hs => by
    rw [S, if_neg (by omega)]; by_cases e : s = c
    · subst e; rw [if_pos rfl]; exact ⟨rfl, rfl⟩
    · rw [if_neg e]; exact ⟨rfl, rfl⟩
  have hL : (t.grow c nm).L.length = t.L.length + 1 := by simp [Tre.grow]
  have hA : (t.grow c nm).als = t.als := by
    have := als_push (Tre.mk (t.L.set c { t.sh c with links := insL nm t.L.length (t.sh c).links }) t.roots) ⟨(t.sh c).cls, none, (t.sh c).names ++ [nm], []⟩ t.roots rfl
    rw [als_set t c _ _ hc] at this
    refine Eq.trans this ?_
    show t.als - (if (t.sh c).ali.isSome then 1 else 0) + (if (t.sh c).ali.isSome then 1 else 0) = t.als
    cases hs : (t.sh c).ali with
    | none => simp
    | some a =>
      have : 0 < t.als := by
        unfold Tre.als; rw [List.countP_pos_iff]
        exact ⟨t.L[c], List.getElem_mem hc, by rw [← sh_lt hc, hs]; rfl⟩
      simp; omega
  refine ⟨h.rl, fun j hj => ?_, fun s hs => ?_, fun s a ha => ?_, fun s => ?_, fun s p hp => ?_, fun s => ?_, by rw [hL]; omega⟩
  · obtain ⟨a, b⟩ := h.ro j hj
    have e : (t.grow c nm).roots = t.roots := rfl
    rw [hL, e, (C _ a).1]; exact ⟨by omega, b⟩
  · rcases Nat.lt_or_ge s t.L.length with g | g
    · rw [(C s g).1]; exact h.cl s g
    · rw [S, if_pos (by omega)]; exact h.cl c hc
  · rw [A] at ha
    have hs : s < t.L.length := by
      rcases Nat.lt_or_ge s t.L.length with g | g
      · exact g
      · rw [sh_ge g] at ha; cases ha
    obtain ⟨x, y, z⟩ := h.al s a ha
    rw [hL, (C s hs).1, (C a x).1, (C s hs).2, (C a x).2]; exact ⟨by omega, y, z⟩
  · rw [A, hop_same A, hA]; exact h.dp s
  · rw [S] at hp; by_cases e : s = t.L.length
    · rw [if_pos e] at hp; cases hp
    · rw [if_neg e] at hp
      have hs : s < t.L.length := by
        rcases Nat.lt_or_ge s t.L.length with g | g
        · exact g
        · rw [if_neg (by omega), sh_ge g] at hp; cases hp
      rw [hL, (C s hs).1, (C s hs).2]
      have old : p ∈ (t.sh s).links → p.2 < t.L.length + 1 ∧ ((t.grow c nm).sh p.2).cls = (t.sh s).cls ∧ ((t.grow c nm).sh p.2).names = (t.sh s).names ++ [p.1] := fun hp => by
        obtain ⟨x, y, z⟩ := h.li s p hp
        rw [(C _ x).1, (C _ x).2]; exact ⟨by omega, y, z⟩
      by_cases e2 : s = c
      · subst e2; rw [if_pos rfl] at hp
        rcases mem_ins hp with rfl | hp
        · refine ⟨Nat.lt_succ_self _, ?_⟩
          have := S t.L.length
          rw [if_pos rfl] at this
          rw [this]; exact ⟨rfl, rfl⟩
        · exact old hp
      · rw [if_neg e2] at hp; exact old hp
  · rw [S]; by_cases e : s = t.L.length
    · rw [if_pos e]
      show ((t.sh c).names ++ [nm]).Nodup
      rw [List.nodup_append]
      exact ⟨h.na c, by simp, fun a ha b hb e => by rw [List.mem_singleton] at hb; subst hb; subst e; exact hn ha⟩
    · rw [if_neg e]; by_cases e : s = c
      · subst e; rw [if_pos rfl]; exact h.na s
      · rw [if_neg e]; exact h.na s
end Go.Proofs.YtjodmjadpooipaaGreatDoor.Sh
