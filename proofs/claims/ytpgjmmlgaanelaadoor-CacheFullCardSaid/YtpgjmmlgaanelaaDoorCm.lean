/-
  Plain mathematics of layer 12: what a site knows, in order, and what the calls make of it.
-/
import Derived.Test.YtpgjmmlgaanelaaDoorProg
namespace Go.Proofs.YtpgjmmlgaanelaaDoor.Ch

def I64 (n : Int) : Prop := -9223372036854775808 ≤ n ∧ n ≤ 9223372036854775807
structure Ste where
  l : List (Int × Int)
  full : Bool
  hits : Int
  miss : Int
def st0 : Ste := ⟨[], false, 0, 0⟩
def lk (s : Int) : List (Int × Int) → Option Int
  | [] => none
  | p :: l => if p.1 = s then some p.2 else lk s l
def upd (s v : Int) : List (Int × Int) → List (Int × Int)
  | [] => []
  | p :: l => if p.1 = s then (p.1, v) :: l else p :: upd s v l
def del (s : Int) (l : List (Int × Int)) : List (Int × Int) := l.filter fun p => decide (p.1 ≠ s)
def Ste.find (t : Ste) (s : Int) : (Int × Bool) × Ste := match lk s t.l with
  | some b => ((b, true), { t with hits := t.hits + 1 })
  | none => ((0, false), { t with miss := t.miss + 1 })
def Ste.learn (t : Ste) (s v : Int) : Int × Ste :=
  if s < 0 ∨ v < 0 then (1, t) else if t.full = true then (2, t) else match lk s t.l with
    | some _ => (0, { t with l := upd s v t.l })
    | none => if t.l.length = 4 then (2, { t with l := [], full := true }) else (0, { t with l := t.l ++ [(s, v)] })
def Ste.forget (t : Ste) (s : Int) : Bool × Ste := ((lk s t.l).isSome, { t with l := del s t.l })
def Ste.state (t : Ste) : Int := if t.full = true then 3 else min (t.l.length : Int) 2
def Ste.shapes (t : Ste) : List Int := t.l.map (·.1)
def digits (n : Nat) : List UInt8 := (Nat.toDigits 10 n).map fun c => UInt8.ofNat c.toNat
def itemT (p : Int × Int) : List UInt8 := digits p.1.toNat ++ [58] ++ digits p.2.toNat
def joinT : List (Int × Int) → List UInt8
  | [] => []
  | p :: l => itemT p ++ l.flatMap fun q => 32 :: itemT q
def Ste.text (t : Ste) : List UInt8 := if t.full = true then [102, 117, 108, 108] else joinT t.l
/-- A site that calls can lead to. -/
structure Ste.Ok (t : Ste) (n : Nat) : Prop where
  len : t.l.length ≤ 4
  nd : (t.l.map (·.1)).Nodup
  pos : ∀ p ∈ t.l, 0 ≤ p.1 ∧ p.1 ≤ 9223372036854775807 ∧ 0 ≤ p.2 ∧ p.2 ≤ 9223372036854775807
  fl : t.full = true → t.l = []
  h0 : 0 ≤ t.hits
  m0 : 0 ≤ t.miss
  sum : t.hits + t.miss ≤ n
theorem ok0 : st0.Ok 0 := ⟨by simp [st0], by simp [st0], by simp [st0], fun _ => rfl, by simp [st0], by simp [st0], by simp [st0]⟩
theorem Ste.Ok.up {t : Ste} {n m : Nat} (h : t.Ok n) (hm : n ≤ m) : t.Ok m := ⟨h.len, h.nd, h.pos, h.fl, h.h0, h.m0, by have := h.sum; omega⟩
theorem lk_mem {s b : Int} : ∀ {l : List (Int × Int)}, lk s l = some b → (s, b) ∈ l
  | [], h => by cases h
  | p :: l, h => by
    unfold lk at h
    split at h
    · rename_i e
      injection h with h
      obtain ⟨x, y⟩ := p
      simp only at e h
      subst e h
      exact .head _
    · exact .tail _ (lk_mem h)
theorem lk_none {s : Int} : ∀ {l : List (Int × Int)}, lk s l = none ↔ ∀ p ∈ l, p.1 ≠ s
  | [] => ⟨fun _ _ h => (by cases h), fun _ => rfl⟩
  | p :: l => by
    unfold lk
    split
    · rename_i e
      exact ⟨fun h => (by cases h), fun h => absurd e (h p (.head _))⟩
    · rename_i e
      rw [lk_none]
      exact ⟨fun h q hq => (by
        cases hq with
        | head => exact e
        | tail _ hq => exact h q hq), fun h q hq => h q (.tail _ hq)⟩
theorem lk_at {s : Int} {l : List (Int × Int)} (hn : (l.map (·.1)).Nodup) {p : Int × Int} (hp : p ∈ l) (e : p.1 = s) : lk s l = some p.2 := by
  induction l with
  | nil => cases hp
  | cons q l ih =>
    unfold lk
    simp only [List.map_cons, List.nodup_cons] at hn
    cases hp with
    | head => rw [if_pos e]
    | tail _ hp =>
      rw [if_neg (fun e' => hn.1 (by rw [e', ← e]; exact List.mem_map_of_mem hp)), ih hn.2 hp]
theorem upd_len (s v : Int) : ∀ l : List (Int × Int), (upd s v l).length = l.length
  | [] => rfl
  | p :: l => by unfold upd; split <;> simp [upd_len s v l]
theorem upd_keys (s v : Int) : ∀ l : List (Int × Int), (upd s v l).map (·.1) = l.map (·.1)
  | [] => rfl
  | p :: l => by unfold upd; split <;> simp [upd_keys s v l]
theorem upd_mem {s v : Int} {p : Int × Int} : ∀ {l : List (Int × Int)}, p ∈ upd s v l → p ∈ l ∨ (p = (s, v) ∧ ∃ q ∈ l, q.1 = s)
  | [], h => by cases h
  | q :: l, h => by
    unfold upd at h
    split at h
    · rename_i e
      cases h with
      | head => exact .inr ⟨by rw [e], q, .head _, e⟩
      | tail _ h => exact .inl (.tail _ h)
    · cases h with
      | head => exact .inl (.head _)
      | tail _ h => exact (upd_mem h).imp (.tail _) fun ⟨h1, r, hr, e⟩ => ⟨h1, r, .tail _ hr, e⟩
theorem find_ok {t : Ste} {n : Nat} (h : t.Ok n) (s : Int) : (t.find s).2.Ok (n + 1) := by
  unfold Ste.find
  have := h.h0; have := h.m0; have := h.sum
  split
  · exact ⟨h.len, h.nd, h.pos, h.fl, by show 0 ≤ t.hits + 1; omega, h.m0, by show t.hits + 1 + t.miss ≤ _; omega⟩
  · exact ⟨h.len, h.nd, h.pos, h.fl, h.h0, by show 0 ≤ t.miss + 1; omega, by show t.hits + (t.miss + 1) ≤ _; omega⟩
theorem learn_ok {t : Ste} {n : Nat} (h : t.Ok n) {s v : Int} (hs : I64 s) (hv : I64 v) : (t.learn s v).2.Ok n := by
  unfold Ste.learn
  split
  · exact h
  rename_i h0
  split
  · exact h
  rename_i hf
  split
  · refine ⟨by show (upd s v t.l).length ≤ 4; rw [upd_len]; exact h.len, by show ((upd s v t.l).map (·.1)).Nodup; rw [upd_keys]; exact h.nd, fun p hp => ?_, fun e => absurd e hf, h.h0, h.m0, h.sum⟩
    rcases upd_mem hp with hp | ⟨rfl, _⟩
    · exact h.pos p hp
    · exact ⟨by omega, hs.2, by omega, hv.2⟩
  · rename_i hl
    split
    · exact ⟨by simp, by simp, by simp, fun _ => rfl, h.h0, h.m0, h.sum⟩
    · rename_i h4
      refine ⟨by have := h.len; show (t.l ++ [(s, v)]).length ≤ 4; simp; omega, ?_, fun p hp => ?_, fun e => absurd e hf, h.h0, h.m0, h.sum⟩
      · show ((t.l ++ [(s, v)]).map (·.1)).Nodup
        rw [List.map_append, List.nodup_append]
        refine ⟨h.nd, by simp, fun a ha b hb => ?_⟩
        simp at hb
        subst hb
        obtain ⟨p, hp, rfl⟩ := List.mem_map.1 ha
        exact lk_none.1 hl p hp
      · have hp : p ∈ t.l ++ [(s, v)] := hp
        rcases List.mem_append.1 hp with hp | hp
        · exact h.pos p hp
        · simp at hp
          subst hp
          exact ⟨by omega, hs.2, by omega, hv.2⟩
theorem forget_ok {t : Ste} {n : Nat} (h : t.Ok n) (s : Int) : (t.forget s).2.Ok n :=
  ⟨Nat.le_trans (List.length_filter_le _ _) h.len, h.nd.sublist ((List.filter_sublist).map _), fun p hp => h.pos p (List.mem_filter.1 hp).1, fun e => by show del s t.l = []; rw [h.fl e]; rfl, h.h0, h.m0, h.sum⟩
theorem lk_upd {s v : Int} (x : Int) : ∀ {l : List (Int × Int)}, lk s l ≠ none → lk x (upd s v l) = if x = s then some v else lk x l
  | [], h => absurd rfl h
  | p :: l, h => by
    unfold upd
    by_cases e : p.1 = s
    · rw [if_pos e]
      unfold lk
      by_cases hx : x = s
      · subst hx
        simp [e]
      · rw [if_neg hx]
        have : ¬ p.1 = x := fun e' => hx (by rw [← e', e])
        simp [this]
    · rw [if_neg e]
      have h' : lk s l ≠ none := by unfold lk at h; rw [if_neg e] at h; exact h
      have ih := lk_upd (v := v) x h'
      by_cases hx : p.1 = x
      · subst hx
        simp [lk, e]
      · simp only [lk, if_neg hx, ih]
theorem lk_snoc {s v x : Int} : ∀ {l : List (Int × Int)}, lk s l = none → lk x (l ++ [(s, v)]) = if x = s then some v else lk x l
  | [], _ => by
    simp only [List.nil_append, lk]
    by_cases hx : x = s
    · subst hx; simp
    · rw [if_neg hx, if_neg (fun e => hx e.symm)]
  | p :: l, h => by
    have e : ¬ p.1 = s := lk_none.1 h p (.head _)
    have h' : lk s l = none := by unfold lk at h; rw [if_neg e] at h; exact h
    have ih := lk_snoc (v := v) (x := x) h'
    rw [List.cons_append]
    unfold lk
    by_cases hx : p.1 = x
    · subst hx; simp [e]
    · simp only [if_neg hx, ih]
theorem lk_del (s x : Int) : ∀ l : List (Int × Int), lk x (del s l) = if x = s then none else lk x l
  | [] => by simp [del, lk]
  | p :: l => by
    have ih := lk_del s x l
    unfold del at ih ⊢
    by_cases e : p.1 = s
    · rw [List.filter_cons_of_neg (by simp [e]), ih]
      by_cases hx : x = s
      · simp [hx]
      · rw [if_neg hx, if_neg hx]
        conv => rhs; unfold lk
        rw [if_neg (fun e' => hx (by rw [← e', e]))]
    · rw [List.filter_cons_of_pos (by simp [e])]
      unfold lk
      by_cases hx : p.1 = x
      · have : ¬ x = s := fun e' => e (by rw [hx, e'])
        simp [hx, this]
      · simp only [if_neg hx, ih]
theorem joinT_snoc (l : List (Int × Int)) (p : Int × Int) : joinT (l ++ [p]) = joinT l ++ (if l = [] then [] else [32]) ++ itemT p := by
  cases l with
  | nil => simp [joinT]
  | cons q l => simp [joinT]
end Go.Proofs.YtpgjmmlgaanelaaDoor.Ch
