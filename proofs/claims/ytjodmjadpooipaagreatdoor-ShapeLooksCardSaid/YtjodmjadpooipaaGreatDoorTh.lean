/-
  Another row of links for one shape.
-/
import Derived.Test.YtjodmjadpooipaaGreatDoorTf
import Derived.Test.YtjodmjadpooipaaGreatDoorTe
namespace Go.Proofs.YtjodmjadpooipaaGreatDoor.Sh
open Go Go.RowKit

def Tre.relinked (t : Tre) (c : Nat) (l : List (ByteArray × Nat)) : Tre := ⟨t.L.set c { t.sh c with links := l }, t.roots⟩
theorem relinked_sh (t : Tre) {c : Nat} (l : List (ByteArray × Nat)) (hc : c < t.L.length) (s : Nat) : (t.relinked c l).sh s = if s = c then { t.sh c with links := l } else t.sh s := sh_set t c _ _ hc s
theorem grow_is (t : Tre) (c : Nat) (nm : ByteArray) (_hc : c < t.L.length) : t.grow c nm = (t.relinked c (insL nm t.L.length (t.sh c).links)).push (t.sh c).cls ((t.sh c).names ++ [nm]) := rfl
theorem link_at {w : World} {p : Nat} {t : Tre} {F F' : Nat → Prop} {gL cL : Nat} {vR : Value} {hd : Nat → Hd} (h : RefAt w p t F gL cL vR hd) {c : Nat} (hc : c < t.L.length) {l : List (ByteArray × Nat)} {v : Value} (hl : Links w v l)
    (hF : ∀ b, F b → F' b) (hF' : ∀ b, F' b → b < w.heap.size) (hv : ∀ b, v.ownBlock = some b → F' b ∧ ¬ F b) :
    RefAt (w.setCell ⟨gL, c * 4 + 3, none⟩ v) p (t.relinked c l) F' gL cL vR (fun s => if s = c then ⟨(hd c).nA, (hd c).nc, v⟩ else hd s) := by
  have far : ∀ b, b ≠ gL → (w.setCell ⟨gL, c * 4 + 3, none⟩ v).heap[b]? = w.heap[b]? := fun b hb => Below.heap_setCell w _ _ b (fun e => hb e)
  have hL : (t.relinked c l).L.length = t.L.length := by simp [Tre.relinked]
  obtain ⟨xs, o, hx⟩ := h.rows
  have S := relinked_sh t l hc
  have SN : ∀ s, ((t.relinked c l).sh s).names = (t.sh s).names := fun s => by
    rw [S]; by_cases e : s = c
    · subst e; rw [if_pos rfl]
    · rw [if_neg e]
  have pg : p ≠ gL := fun e => bk_ne o h.hp (by decide) (by rw [e]; rfl)
  refine ⟨fun b hb => by have := hF' b hb; simpa [World.setCell] using this, ?_, hF _ h.fp, ⟨xs.set (c * 4 + 3) v, ?_, fun s hs i u hu => ?_⟩, hF _ h.fL, ?_, fun b hb => hF _ (h.fR b hb), fun s hs => ?_, fun s hs => ?_, fun s hs b hb => ?_, fun s r hs hr hne b hb => ?_⟩
  · unfold Bk; rw [far p pg, hL]; exact h.hp
  · rw [hL]; exact (World.ownsRow.stored o _ _).1
  · rw [hL] at hs
    have hi : i < 4 := by have := (List.getElem?_eq_some_iff.1 hu).1; exact this
    have hlen : xs.length = t.L.length * 4 := o.1
    dsimp only at hu
    rw [S] at hu
    by_cases es : s = c
    · subst es
      rw [if_pos rfl, if_pos rfl] at hu
      by_cases ei : i = 3
      · subst ei
        rw [List.getElem?_set_self (by omega)]
        injection hu with hu
        rw [← hu]
      · rw [List.getElem?_set_ne (by omega)]
        refine hx s hs i u ?_
        rcases i with _ | _ | _ | i
        · exact hu
        · exact hu
        · exact hu
        · exact absurd (by omega : i + 1 + 1 + 1 = 3) ei
    · rw [if_neg es, if_neg es] at hu
      rw [List.getElem?_set_ne (by omega)]
      exact hx s hs i u hu
  · refine own_keep h.roots fun b hb => far b fun e => ?_
    subst e
    exact own_ne o h.roots (by decide) _ rfl hb
  · rw [hL] at hs
    rw [SN s]
    have e : (if s = c then (⟨(hd c).nA, (hd c).nc, v⟩ : Hd) else hd s).nA = (hd s).nA := by
      by_cases e : s = c
      · subst e; rw [if_pos rfl]
      · rw [if_neg e]
    rw [e]
    exact (h.names s hs).keep fun b hb => by
      have hb2 : b ≠ gL := fun e => by subst e; exact str_ne o hb.2 (by decide) rfl
      refine ⟨⟨hF _ hb.1, ?_⟩, far b hb2⟩
      obtain ⟨cs, hc⟩ := hb.2
      exact ⟨cs, by rw [far b hb2]; exact hc⟩
  · rw [hL] at hs
    rw [S]
    by_cases e : s = c
    · rw [if_pos e, if_pos e]
      obtain ⟨ys, o2, h2⟩ := hl
      refine ⟨ys, own_keep o2 fun b hb => far b fun e => ?_, h2⟩
      subst e
      exact own_ne o o2 (by decide) _ rfl hb
    · rw [if_neg e, if_neg e]
      obtain ⟨ys, o2, h2⟩ := h.links s hs
      refine ⟨ys, own_keep o2 fun b hb => far b fun e => ?_, h2⟩
      subst e
      exact own_ne o o2 (by decide) _ rfl hb
  · rw [hL] at hs
    by_cases e : s = c
    · rw [if_pos e] at hb; exact (hv b hb).1
    · rw [if_neg e] at hb; exact hF _ (h.fK s hs b hb)
  · rw [hL] at hs hr
    by_cases e : s = c
    · rw [if_pos e] at hb
      rw [if_neg (fun e' => hne (e.trans e'.symm))]
      exact fun e2 => (hv b hb).2 (h.fK r hr b e2)
    · rw [if_neg e] at hb
      by_cases e2 : r = c
      · rw [if_pos e2]
        exact fun e3 => (hv b e3).2 (h.fK s hs b hb)
      · rw [if_neg e2]; exact h.apart s r hs hr hne b hb
/-- The cells of links. -/
def flatL (l : List (ByteArray × Nat)) : List Value := l.flatMap fun q => [Value.string q.1, .int .i64 (q.2 : Int)]
theorem flat_len (l : List (ByteArray × Nat)) : (l.flatMap fun q => [Value.string q.1, .int .i64 (q.2 : Int)]).length = l.length * 2 := by
  induction l with
  | nil => rfl
  | cons q l ih => rw [List.flatMap_cons, List.length_append, ih]; show 2 + l.length * 2 = (l.length + 1) * 2; omega
theorem flat_get (l : List (ByteArray × Nat)) (j : Nat) (q : ByteArray × Nat) (h : l[j]? = some q) :
    (l.flatMap fun q => [Value.string q.1, .int .i64 (q.2 : Int)])[j * 2]? = some (.string q.1) ∧ (l.flatMap fun q => [Value.string q.1, .int .i64 (q.2 : Int)])[j * 2 + 1]? = some (.int .i64 (q.2 : Int)) := by
  induction l generalizing j with
  | nil => simp at h
  | cons x l ih =>
    rw [List.flatMap_cons]
    rcases j with _ | j
    · injection h with h; subst h; exact ⟨rfl, rfl⟩
    · have := ih j (by simpa using h)
      rw [List.getElem?_append_right (by show 2 ≤ _; omega), List.getElem?_append_right (by show 2 ≤ _; omega)]
      show _[(j + 1) * 2 - 2]? = _ ∧ _[(j + 1) * 2 + 1 - 2]? = _
      rw [show (j + 1) * 2 - 2 = j * 2 by omega, show (j + 1) * 2 + 1 - 2 = j * 2 + 1 by omega]
      exact this
theorem flat_inv (l : List (ByteArray × Nat)) (i : Nat) (u : Value) (h : (l.flatMap fun q => [Value.string q.1, .int .i64 (q.2 : Int)])[i]? = some u) :
    ∃ q, l[i / 2]? = some q ∧ ((i % 2 = 0 ∧ u = .string q.1) ∨ (i % 2 = 1 ∧ u = .int .i64 (q.2 : Int))) := by
  have hi := (List.getElem?_eq_some_iff.1 h).1
  rw [flat_len] at hi
  have hq : l[i / 2]? = some (l[i / 2]'(by omega)) := List.getElem?_eq_getElem (by omega)
  refine ⟨_, hq, ?_⟩
  obtain ⟨h0, h1⟩ := flat_get l (i / 2) _ hq
  rcases (show i % 2 = 0 ∨ i % 2 = 1 by omega) with e | e
  · rw [show i / 2 * 2 = i by omega, h] at h0
    injection h0 with h0
    exact .inl ⟨e, h0⟩
  · rw [show i / 2 * 2 + 1 = i by omega, h] at h1
    injection h1 with h1
    exact .inr ⟨e, h1⟩
theorem links_of {w : World} {v : Value} {l : List (ByteArray × Nat)} {xs : List Value} (o : w.ownsRow 0 97 2 v l.length xs) (e : xs = flatL l) : Links w v l :=
  ⟨xs, o, fun j q hq => by rw [e]; exact flat_get l j q hq⟩
theorem flat_one (l : List (ByteArray × Nat)) : ∀ u ∈ (l.flatMap fun q => [Value.string q.1, .int .i64 (q.2 : Int)]), u.oneCell' = true := by
  intro u hu
  obtain ⟨q, _, hq⟩ := List.mem_flatMap.1 hu
  simp only [List.mem_cons, List.not_mem_nil, or_false] at hq
  rcases hq with rfl | rfl <;> rfl
theorem links_news {w w' : World} {g : Nat} {l : List (ByteArray × Nat)} (HC : ∀ j q, l[j]? = some q → ∃ g', (some ⟨g, 0, none⟩ : Option Addr) = some ⟨g', 0, none⟩ ∧ w.cell? ⟨g', j * 2, none⟩ = some (.string q.1) ∧ w.cell? ⟨g', j * 2 + 1, none⟩ = some (.int .i64 q.2))
    (hk : ∀ k v, w.cell? ⟨g, k, none⟩ = some v → w'.cell? ⟨g, k, none⟩ = some v) (j : Nat) :
    ∀ i u, (flatL (l.drop j))[i]? = some u → w'.cell? ((⟨g, j * 2, none⟩ : Addr).add i) = some u := by
  intro i u hu
  obtain ⟨q, hq, h⟩ := flat_inv _ i u hu
  rw [List.getElem?_drop] at hq
  obtain ⟨g', e, h0, h1⟩ := HC _ q hq
  injection e with e
  injection e with e
  subst e
  have ad : ((⟨g, j * 2, none⟩ : Addr).add i) = ⟨g, j * 2 + i, none⟩ := by
    unfold Addr.add; split
    · rename_i e; rw [e, Nat.add_zero]
    · rfl
  rw [ad]
  rcases h with ⟨e, rfl⟩ | ⟨e, rfl⟩
  · have := hk _ _ h0
    rwa [show (j + i / 2) * 2 = j * 2 + i by omega] at this
  · have := hk _ _ h1
    rwa [show (j + i / 2) * 2 + 1 = j * 2 + i by omega] at this
theorem links_news_take {w w' : World} {g : Nat} {l : List (ByteArray × Nat)} (HC : ∀ j q, l[j]? = some q → ∃ g', (some ⟨g, 0, none⟩ : Option Addr) = some ⟨g', 0, none⟩ ∧ w.cell? ⟨g', j * 2, none⟩ = some (.string q.1) ∧ w.cell? ⟨g', j * 2 + 1, none⟩ = some (.int .i64 q.2))
    (hk : ∀ k v, w.cell? ⟨g, k, none⟩ = some v → w'.cell? ⟨g, k, none⟩ = some v) (j : Nat) :
    ∀ i u, (flatL (l.take j))[i]? = some u → w'.cell? ((⟨g, 0, none⟩ : Addr).add i) = some u := by
  intro i u hu
  obtain ⟨q, hq, h⟩ := flat_inv _ i u hu
  rw [List.getElem?_take] at hq
  split at hq
  · obtain ⟨g', e, h0, h1⟩ := HC _ q hq
    injection e with e
    injection e with e
    subst e
    have ad : ((⟨g, 0, none⟩ : Addr).add i) = ⟨g, i, none⟩ := by
      unfold Addr.add; split
      · rename_i e; rw [e]
      · simp
    rw [ad]
    rcases h with ⟨e, rfl⟩ | ⟨e, rfl⟩
    · have := hk _ _ h0
      rwa [show (i / 2) * 2 = i by omega] at this
    · have := hk _ _ h1
      rwa [show (i / 2) * 2 + 1 = i by omega] at this
  · cases hq
theorem flatL_len (l : List (ByteArray × Nat)) : (flatL l).length = l.length * 2 := flat_len l
theorem flatL_one (l : List (ByteArray × Nat)) : ∀ u ∈ flatL l, u.oneCell' = true := flat_one l
theorem flatL_app (a b : List (ByteArray × Nat)) (q : ByteArray × Nat) : flatL (a ++ q :: b) = flatL a ++ ([.string q.1, .int .i64 (q.2 : Int)] ++ flatL b) := by
  unfold flatL; rw [List.flatMap_append, List.flatMap_cons]
end Go.Proofs.YtjodmjadpooipaaGreatDoor.Sh
