/-
  Plain mathematics of layer 14: what a profile keeps of each place, and what the calls make of it.
-/
import Derived.Test.YtjoffbgfokedlaaDoorProg
import Derived.Lib.ItoaLen
import Derived.Lib.ItoaNum
namespace Go.Proofs.YtjoffbgfokedlaaDoor.Pf

def I64 (n : Int) : Prop := -9223372036854775808 ≤ n ∧ n ≤ 9223372036854775807
abbrev Plc := Int × Int
def okP (a : Plc) : Prop := I64 a.1 ∧ I64 a.2
def ltP (a b : Plc) : Prop := a.1 < b.1 ∨ (a.1 = b.1 ∧ a.2 < b.2)
instance (a b : Plc) : Decidable (ltP a b) := by unfold ltP; infer_instance
theorem ltP_irrefl (a : Plc) : ¬ ltP a a := fun h => h.elim (by omega) (fun h => by omega)
theorem ltP_trans {a b c : Plc} (h : ltP a b) (k : ltP b c) : ltP a c := by
  unfold ltP at *; omega
theorem ltP_tri {a b : Plc} (h : ¬ ltP a b) (hne : a ≠ b) : ltP b a := by
  obtain ⟨x, y⟩ := a
  obtain ⟨z, u⟩ := b
  unfold ltP at *
  simp only at *
  by_cases h1 : x = z
  · by_cases h2 : y = u
    · exact absurd (by rw [h1, h2]) hne
    · omega
  · omega
/-- What is known of a place. -/
structure Spot where
  tier : Int
  calls : Int
  count : Int
  fails : Int
  ex : Int → Int
  en : Nat
def sp0 : Spot := ⟨0, 0, 0, 0, fun _ => 0, 0⟩
structure Dec where
  plc : Plc
  tier : Int
  why : List UInt8
structure Pst where
  s : Int
  w : Int
  h : Int
  c : Int
  L : List (Plc × Spot)
  D : List Dec
def lk (a : Plc) : List (Plc × Spot) → Option Spot
  | [] => none
  | p :: l => if p.1 = a then some p.2 else lk a l
def ins (a : Plc) (x : Spot) : List (Plc × Spot) → List (Plc × Spot)
  | [] => [(a, x)]
  | p :: l => if p.1 = a then (a, x) :: l else if ltP p.1 a then p :: ins a x l else (a, x) :: p :: l
def Srt (l : List (Plc × Spot)) : Prop := l.Pairwise fun p q => ltP p.1 q.1
def Pst.get (t : Pst) (a : Plc) : Spot := (lk a t.L).getD sp0
theorem lk_ins (a b : Plc) (x : Spot) : ∀ l : List (Plc × Spot), lk b (ins a x l) = if b = a then some x else lk b l
  | [] => by
    unfold ins lk
    by_cases h : b = a
    · rw [if_pos h.symm, if_pos h]
    · rw [if_neg (fun e => h e.symm), if_neg h]; rfl
  | p :: l => by
    unfold ins
    by_cases h1 : p.1 = a
    · rw [if_pos h1]
      unfold lk
      by_cases h : b = a
      · rw [if_pos h.symm, if_pos h]
      · rw [if_neg (fun e => h e.symm), if_neg h, if_neg (fun e => h (e.symm.trans h1))]
    · rw [if_neg h1]
      split
      · unfold lk
        by_cases h2 : p.1 = b
        · rw [if_pos h2, if_neg (fun e => h1 (h2.trans e)), if_pos h2]
        · rw [if_neg h2, lk_ins a b x l, if_neg h2]
      · by_cases h : b = a
        · rw [if_pos h]; unfold lk; rw [if_pos h.symm]
        · rw [if_neg h]; conv => lhs; unfold lk
          rw [if_neg (fun e => h e.symm)]
theorem keys_ins {a : Plc} {x : Spot} {b : Plc} : ∀ {l : List (Plc × Spot)}, b ∈ (ins a x l).map (·.1) ↔ b = a ∨ b ∈ l.map (·.1)
  | [] => by simp [ins]
  | p :: l => by
    unfold ins
    by_cases h1 : p.1 = a
    · rw [if_pos h1]; simp only [List.map_cons, List.mem_cons]; rw [h1]; constructor
      · rintro (h | h)
        · exact .inl h
        · exact .inr (.inr h)
      · rintro (h | h | h)
        · exact .inl h
        · exact .inl h
        · exact .inr h
    · rw [if_neg h1]
      split
      · simp only [List.map_cons, List.mem_cons, keys_ins (l := l)]
        constructor
        · rintro (h | h | h)
          · exact .inr (.inl h)
          · exact .inl h
          · exact .inr (.inr h)
        · rintro (h | h | h)
          · exact .inr (.inl h)
          · exact .inl h
          · exact .inr (.inr h)
      · simp only [List.map_cons, List.mem_cons]
theorem mem_ins {a : Plc} {x : Spot} {q : Plc × Spot} : ∀ {l : List (Plc × Spot)}, q ∈ ins a x l → q = (a, x) ∨ q ∈ l
  | [], h => by simp [ins] at h; exact .inl h
  | p :: l, h => by
    unfold ins at h
    split at h
    · rcases List.mem_cons.1 h with h | h
      · exact .inl h
      · exact .inr (.tail _ h)
    · split at h
      · rcases List.mem_cons.1 h with h | h
        · subst h; exact .inr (.head _)
        · exact (mem_ins h).imp id (.tail _)
      · rcases List.mem_cons.1 h with h | h
        · exact .inl h
        · exact .inr h
theorem srt_ins {a : Plc} {x : Spot} : ∀ {l : List (Plc × Spot)}, Srt l → Srt (ins a x l)
  | [], _ => List.pairwise_singleton _ _
  | p :: l, h => by
    obtain ⟨h1, h2⟩ := List.pairwise_cons.1 h
    unfold ins
    split
    · rename_i e
      exact List.pairwise_cons.2 ⟨fun q hq => e ▸ h1 q hq, h2⟩
    · rename_i e
      split
      · rename_i hlt
        refine List.pairwise_cons.2 ⟨fun q hq => ?_, srt_ins h2⟩
        rcases mem_ins hq with rfl | hq
        · exact hlt
        · exact h1 q hq
      · rename_i hlt
        have ha := ltP_tri hlt e
        refine List.pairwise_cons.2 ⟨fun q hq => ?_, h⟩
        rcases List.mem_cons.1 hq with rfl | hq
        · exact ha
        · exact ltP_trans ha (h1 q hq)
theorem len_ins (a : Plc) (x : Spot) : ∀ l : List (Plc × Spot), (ins a x l).length ≤ l.length + 1
  | [] => by simp [ins]
  | p :: l => by
    have := len_ins a x l
    unfold ins
    split
    · simp
    · split
      · simp; omega
      · simp
theorem mem_ins' {a : Plc} {x : Spot} {q : Plc × Spot} : ∀ {l : List (Plc × Spot)}, Srt l → q ∈ ins a x l → q = (a, x) ∨ (q ∈ l ∧ q.1 ≠ a)
  | [], _, h => by simp [ins] at h; exact .inl h
  | p :: l, hs, h => by
    obtain ⟨h1, h2⟩ := List.pairwise_cons.1 hs
    unfold ins at h
    split at h
    · rename_i e
      rcases List.mem_cons.1 h with h | h
      · exact .inl h
      · exact .inr ⟨.tail _ h, fun e' => by have := h1 _ h; rw [e, e'] at this; exact ltP_irrefl _ this⟩
    · rename_i e
      split at h
      · rcases List.mem_cons.1 h with h | h
        · subst h; exact .inr ⟨.head _, e⟩
        · exact (mem_ins' h2 h).imp id fun ⟨k, k'⟩ => ⟨.tail _ k, k'⟩
      · rename_i hn
        have ha := ltP_tri hn e
        rcases List.mem_cons.1 h with h | h
        · exact .inl h
        · refine .inr ⟨h, fun e' => ?_⟩
          rcases List.mem_cons.1 h with h | h
          · subst h; exact e e'
          · have := ltP_trans ha (h1 _ h); rw [e'] at this; exact ltP_irrefl _ this
theorem ins_len_mem {a : Plc} {x : Spot} : ∀ {l : List (Plc × Spot)}, Srt l → a ∈ l.map (·.1) → (ins a x l).length = l.length
  | [], _, h => by cases h
  | p :: l, hs, h => by
    obtain ⟨h1, h2⟩ := List.pairwise_cons.1 hs
    unfold ins
    split
    · rfl
    · rename_i e
      have hm : a ∈ l.map (·.1) := by
        rcases List.mem_cons.1 h with h | h
        · exact absurd h.symm e
        · exact h
      split
      · rw [List.length_cons, List.length_cons, ins_len_mem h2 hm]
      · rename_i hn
        obtain ⟨q, hq, rfl⟩ := List.mem_map.1 hm
        exact absurd (h1 q hq) hn
theorem ins_len_new {a : Plc} {x : Spot} : ∀ {l : List (Plc × Spot)}, a ∉ l.map (·.1) → (ins a x l).length = l.length + 1
  | [], _ => rfl
  | p :: l, h => by
    simp only [List.map_cons, List.mem_cons, not_or] at h
    unfold ins
    rw [if_neg (fun e => h.1 e.symm)]
    split
    · rw [List.length_cons, List.length_cons, ins_len_new h.2]
    · rfl
theorem lk_mem {a : Plc} {x : Spot} : ∀ {l : List (Plc × Spot)}, lk a l = some x → (a, x) ∈ l
  | [], h => by cases h
  | p :: l, h => by
    unfold lk at h
    split at h
    · rename_i e
      injection h with h
      subst e h
      exact .head _
    · exact .tail _ (lk_mem h)
theorem lk_of_mem {a : Plc} {x : Spot} : ∀ {l : List (Plc × Spot)}, Srt l → (a, x) ∈ l → lk a l = some x
  | [], _, h => by cases h
  | p :: l, hs, h => by
    obtain ⟨h1, h2⟩ := List.pairwise_cons.1 hs
    unfold lk
    rcases List.mem_cons.1 h with h | h
    · subst h; rw [if_pos rfl]
    · rw [if_neg (fun e => by have := h1 _ h; rw [e] at this; exact ltP_irrefl _ this), lk_of_mem h2 h]
theorem lk_none {a : Plc} : ∀ {l : List (Plc × Spot)}, lk a l = none ↔ a ∉ l.map (·.1)
  | [] => by simp [lk]
  | p :: l => by
    unfold lk
    split
    · rename_i e
      constructor
      · intro h; cases h
      · intro h; exact absurd (by simp [e]) h
    · rename_i e
      rw [lk_none]
      simp only [List.map_cons, List.mem_cons, not_or]
      exact ⟨fun h => ⟨fun h' => e h'.symm, h⟩, fun h => h.2⟩
/-- The text of a number. -/
def numT (n : Int) : List UInt8 := Go.Lib.itoa n
theorem numT_len {n : Int} (h : I64 n) : (numT n).length ≤ 21 := Go.Lib.itoa_length_le n h.1 h.2
def tWarm : List UInt8 := [119, 97, 114, 109, 32]
def tHot : List UInt8 := [104, 111, 116, 32]
def tExit : List UInt8 := [101, 120, 105, 116, 32]
def tLeft : List UInt8 := [32, 108, 101, 102, 116, 32]
def tTimes : List UInt8 := [32, 116, 105, 109, 101, 115]
def tErr : List UInt8 := [101, 114, 114, 111, 114, 32]
def tGiven : List UInt8 := [44, 32, 103, 105, 118, 101, 110, 32, 117, 112]
/-- A place is set back. -/
def setB (x : Spot) (n : Int) (tier : Int) (why : List UInt8) : Spot × Option (Int × List UInt8) :=
  if x.fails + 1 = 3 then ({ x with tier := -1, count := n, fails := x.fails + 1, ex := fun _ => 0, en := 0 }, some (-1, why ++ tGiven))
  else ({ x with tier := tier, count := n, fails := x.fails + 1, ex := fun _ => 0, en := 0 }, some (tier, why))
def backS (s w h : Int) (x : Spot) : Spot × Option (Int × List UInt8) :=
  if x.tier = -1 then (x, none)
  else if (x.calls + 1) % s = 0 then
    if x.tier = 0 ∧ w ≤ min (x.count + 1) 1000000 then ({ x with calls := x.calls + 1, count := min (x.count + 1) 1000000, tier := 1 }, some (1, tWarm ++ numT (min (x.count + 1) 1000000)))
    else if x.tier = 1 ∧ h ≤ min (x.count + 1) 1000000 then ({ x with calls := x.calls + 1, count := min (x.count + 1) 1000000, tier := 2 }, some (2, tHot ++ numT (min (x.count + 1) 1000000)))
    else ({ x with calls := x.calls + 1, count := min (x.count + 1) 1000000 }, none)
  else ({ x with calls := x.calls + 1 }, none)
def leftS (w c : Int) (x : Spot) (e : Int) : Spot × Option (Int × List UInt8) :=
  if x.ex e + 1 < c then ({ x with ex := fun i => if i = e then x.ex e + 1 else x.ex i, en := x.en + 1 }, none)
  else setB x w 1 (tExit ++ numT e ++ tLeft ++ numT (x.ex e + 1) ++ tTimes)
def failS (x : Spot) (e : Int) : Spot × Option (Int × List UInt8) := setB x 0 0 (tErr ++ numT e)
/-- What is known of a place turns, with a decision perhaps. -/
def Pst.turn (t : Pst) (a : Plc) (r : Spot × Option (Int × List UInt8)) : Bool × Pst :=
  (r.2.isSome, { t with L := ins a r.1 t.L, D := t.D ++ (r.2.toList.map fun d => ⟨a, d.1, d.2⟩) })
def Pst.back (t : Pst) (a : Plc) : Bool × Pst := t.turn a (backS t.s t.w t.h (t.get a))
def Pst.left (t : Pst) (a : Plc) (e : Int) : Bool × Pst := if (t.get a).tier = 2 ∧ 0 ≤ e then t.turn a (leftS t.w t.c (t.get a) e) else (false, t)
def Pst.failed (t : Pst) (a : Plc) (e : Int) : Pst := if 1 ≤ (t.get a).tier ∧ e ≠ 0 then (t.turn a (failS (t.get a) e)).2 else t
def Pst.tier (t : Pst) (a : Plc) : Int := (t.get a).tier
def lineT (p : Plc × Spot) : List UInt8 :=
  numT p.1.1 ++ 32 :: (numT p.1.2 ++ 32 :: (numT p.2.tier ++ 32 :: (numT p.2.calls ++ 32 :: (numT p.2.count ++ 32 :: (numT p.2.fails ++ [10])))))
def Pst.text (t : Pst) : List UInt8 := t.L.flatMap lineT
def okLim (s w h c : Int) : Prop := (1 ≤ s ∧ s ≤ 1000) ∧ (1 ≤ w ∧ w ≤ 1000000) ∧ (w + 1 ≤ h ∧ h ≤ 1000000) ∧ 1 ≤ c ∧ c ≤ 1000000
instance (s w h c : Int) : Decidable (okLim s w h c) := by unfold okLim; infer_instance
def st0 (s w h c : Int) : Pst := ⟨s, w, h, c, [], []⟩
/-- A spot that so many calls can lead to. -/
structure Spot.Ok (x : Spot) (n : Nat) : Prop where
  t0 : -1 ≤ x.tier
  t1 : x.tier ≤ 2
  c0 : 0 ≤ x.calls
  c1 : x.calls ≤ n
  k0 : 0 ≤ x.count
  k1 : x.count ≤ 1000000
  f0 : 0 ≤ x.fails
  f1 : x.fails ≤ 3
  g : x.fails = 3 ↔ x.tier = -1
  e0 : ∀ i, 0 ≤ x.ex i
  e1 : ∀ i, x.ex i ≤ n
  en : x.en ≤ n
structure Pst.Ok (t : Pst) (n : Nat) : Prop where
  lim : okLim t.s t.w t.h t.c
  srt : Srt t.L
  key : ∀ q ∈ t.L, okP q.1
  spot : ∀ q ∈ t.L, q.2.Ok n
  len : t.L.length ≤ n
  dec : t.D.length ≤ n
  dat : ∀ d ∈ t.D, okP d.plc ∧ -1 ≤ d.tier ∧ d.tier ≤ 2 ∧ d.why.length ≤ 1000
theorem spot_ok0 (n : Nat) : sp0.Ok n := by
  refine ⟨?_, ?_, ?_, ?_, ?_, ?_, ?_, ?_, ?_, ?_, ?_, ?_⟩ <;> (unfold sp0; try simp only) <;> (try intro i) <;> omega
theorem Spot.Ok.up {x : Spot} {n m : Nat} (h : x.Ok n) (hm : n ≤ m) : x.Ok m :=
  ⟨h.t0, h.t1, h.c0, by have := h.c1; omega, h.k0, h.k1, h.f0, h.f1, h.g, h.e0, fun i => by have := h.e1 i; omega, Nat.le_trans h.en hm⟩
theorem Pst.Ok.up {t : Pst} {n m : Nat} (h : t.Ok n) (hm : n ≤ m) : t.Ok m :=
  ⟨h.lim, h.srt, h.key, fun q hq => (h.spot q hq).up hm, Nat.le_trans h.len hm, Nat.le_trans h.dec hm, h.dat⟩
theorem ok0 {s w h c : Int} (hl : okLim s w h c) (n : Nat) : (st0 s w h c).Ok n :=
  ⟨hl, List.Pairwise.nil, fun q hq => (by cases hq), fun q hq => (by cases hq), Nat.zero_le _, Nat.zero_le _, fun q hq => (by cases hq)⟩
theorem Pst.Ok.get {t : Pst} {n : Nat} (h : t.Ok n) (a : Plc) : (t.get a).Ok n := by
  unfold Pst.get
  cases e : lk a t.L with
  | none => exact spot_ok0 n
  | some x => exact h.spot _ (lk_mem e)
theorem get_turn (t : Pst) (a b : Plc) (r : Spot × Option (Int × List UInt8)) : (t.turn a r).2.get b = if b = a then r.1 else t.get b := by
  unfold Pst.turn Pst.get
  simp only [lk_ins]
  split <;> rfl
/-- What a step makes of a spot is right, and the decision is short. -/
structure StepOk (x : Spot) (r : Spot × Option (Int × List UInt8)) (n : Nat) : Prop where
  ok : r.1.Ok n
  dec : ∀ d, r.2 = some d → (-1 ≤ d.1 ∧ d.1 ≤ 2) ∧ d.2.length ≤ 1000 ∧ r.1.tier = d.1
  same : r.2 = none → r.1.tier = x.tier ∧ r.1.fails = x.fails
theorem setB_ok {x : Spot} {n : Nat} (h : x.Ok n) {k : Int} (hk : 0 ≤ k ∧ k ≤ 1000000) {tr : Int} (ht : 0 ≤ tr ∧ tr ≤ 1) {y : List UInt8} (hy : y.length ≤ 900) (hx : x.tier ≠ -1) : StepOk x (setB x k tr y) n := by
  have f3 : x.fails ≠ 3 := fun e => hx (h.g.1 e)
  have := h.f0; have := h.f1; have := h.c0; have := h.c1
  unfold setB
  split
  · rename_i e3
    refine ⟨⟨by simp, by simp, h.c0, h.c1, hk.1, hk.2, by simp only; omega, by simp only; omega, ⟨fun _ => rfl, fun _ => e3⟩, fun i => by simp, fun i => by simp only; omega, Nat.zero_le _⟩, fun d hd => ?_, fun e => by cases e⟩
    injection hd with hd
    subst hd
    exact ⟨by simp, by simp only [List.length_append]; have : tGiven.length = 10 := rfl; omega, rfl⟩
  · rename_i e3
    refine ⟨⟨by simp only; omega, by simp only; omega, h.c0, h.c1, hk.1, hk.2, by simp only; omega, by simp only; omega, ⟨fun e => absurd e e3, fun e => absurd (show tr = -1 from e) (by omega)⟩, fun i => by simp, fun i => by simp only; omega, Nat.zero_le _⟩, fun d hd => ?_, fun e => by cases e⟩
    injection hd with hd
    subst hd
    exact ⟨by simp only; omega, by simp only; omega, rfl⟩
theorem backS_ok {x : Spot} {n : Nat} (h : x.Ok n) {s w k : Int} : StepOk x (backS s w k x) (n + 1) := by
  have hu := h.up (Nat.le_succ n)
  have := h.f0; have := h.f1; have := h.c0; have := h.c1; have := h.k0; have := h.k1; have g := h.g
  have hm : I64 (min (x.count + 1) 1000000) := by unfold I64; omega
  have hl := numT_len hm
  unfold backS
  split
  · exact ⟨hu, fun d hd => (by cases hd), fun _ => ⟨rfl, rfl⟩⟩
  · rename_i ht
    split
    · split
      · rename_i h1
        refine ⟨⟨by simp, by simp, by simp only; omega, by simp only; omega, by simp only; omega, by simp only; omega, h.f0, h.f1, by simp only; omega, hu.e0, hu.e1, hu.en⟩, fun d hd => ?_, fun e => by cases e⟩
        injection hd with hd
        subst hd
        exact ⟨by simp, by simp only [List.length_append]; have : tWarm.length = 5 := rfl; omega, rfl⟩
      · split
        · rename_i h1
          refine ⟨⟨by simp, by simp, by simp only; omega, by simp only; omega, by simp only; omega, by simp only; omega, h.f0, h.f1, by simp only; omega, hu.e0, hu.e1, hu.en⟩, fun d hd => ?_, fun e => by cases e⟩
          injection hd with hd
          subst hd
          exact ⟨by simp, by simp only [List.length_append]; have : tHot.length = 4 := rfl; omega, rfl⟩
        · exact ⟨⟨h.t0, h.t1, by simp only; omega, by simp only; omega, by simp only; omega, by simp only; omega, h.f0, h.f1, h.g, hu.e0, hu.e1, hu.en⟩, fun d hd => (by cases hd), fun _ => ⟨rfl, rfl⟩⟩
    · exact ⟨⟨h.t0, h.t1, by simp only; omega, by simp only; omega, h.k0, h.k1, h.f0, h.f1, h.g, hu.e0, hu.e1, hu.en⟩, fun d hd => (by cases hd), fun _ => ⟨rfl, rfl⟩⟩
theorem leftS_ok {x : Spot} {n : Nat} (h : x.Ok n) (hn : n ≤ 1000000000) {w c e : Int} (hw : 1 ≤ w ∧ w ≤ 1000000) (he : I64 e) (ht : x.tier = 2) : StepOk x (leftS w c x e) (n + 1) := by
  have hu := h.up (Nat.le_succ n)
  have e0 := h.e0 e
  have e1 := h.e1 e
  have h1 := numT_len he
  have h2 := numT_len (show I64 (x.ex e + 1) by unfold I64; omega)
  unfold leftS
  split
  · refine ⟨⟨h.t0, h.t1, h.c0, hu.c1, h.k0, h.k1, h.f0, h.f1, h.g, fun i => ?_, fun i => ?_, Nat.succ_le_succ h.en⟩, fun d hd => (by cases hd), fun _ => ⟨rfl, rfl⟩⟩
    · have := h.e0 i
      simp only
      split <;> omega
    · have := h.e1 i
      simp only
      split <;> omega
  · exact setB_ok hu (by omega) (by omega) (by simp only [List.length_append]; have : tExit.length = 5 := rfl; have : tLeft.length = 6 := rfl; have : tTimes.length = 6 := rfl; omega) (by omega)
theorem failS_ok {x : Spot} {n : Nat} (h : x.Ok n) {e : Int} (he : I64 e) (ht : 1 ≤ x.tier) : StepOk x (failS x e) (n + 1) := by
  have h1 := numT_len he
  exact setB_ok (h.up (Nat.le_succ n)) (by omega) (by omega) (by simp only [List.length_append]; have : tErr.length = 6 := rfl; omega) (by omega)
theorem turn_ok {t : Pst} {n : Nat} (h : t.Ok n) {a : Plc} (ha : okP a) {r : Spot × Option (Int × List UInt8)} (hr : StepOk (t.get a) r (n + 1)) : (t.turn a r).2.Ok (n + 1) := by
  refine ⟨h.lim, srt_ins h.srt, fun q hq => ?_, fun q hq => ?_, ?_, ?_, fun d hd => ?_⟩
  · rcases mem_ins hq with rfl | hq
    · exact ha
    · exact h.key q hq
  · rcases mem_ins hq with rfl | hq
    · exact hr.ok
    · exact (h.spot q hq).up (Nat.le_succ n)
  · have h1 := len_ins a r.1 t.L
    have h2 := h.len
    show (ins a r.1 t.L).length ≤ n + 1
    omega
  · have h2 := h.dec
    show (t.D ++ (r.2.toList.map fun d => (⟨a, d.1, d.2⟩ : Dec))).length ≤ n + 1
    rw [List.length_append, List.length_map]
    have : r.2.toList.length ≤ 1 := by cases r.2 <;> simp
    omega
  · have hd : d ∈ t.D ++ (r.2.toList.map fun d => (⟨a, d.1, d.2⟩ : Dec)) := hd
    rcases List.mem_append.1 hd with hd | hd
    · exact h.dat d hd
    · obtain ⟨y, hy, rfl⟩ := List.mem_map.1 hd
      obtain ⟨h1, h2, _⟩ := hr.dec y (by simpa using hy)
      exact ⟨ha, h1.1, h1.2, h2⟩
theorem back_ok {t : Pst} {n : Nat} (h : t.Ok n) {a : Plc} (ha : okP a) : (t.back a).2.Ok (n + 1) := turn_ok h ha (backS_ok (h.get a))
theorem left_ok {t : Pst} {n : Nat} (h : t.Ok n) (hn : n ≤ 1000000000) {a : Plc} (ha : okP a) {e : Int} (he : I64 e) : (t.left a e).2.Ok (n + 1) := by
  unfold Pst.left
  split
  · rename_i h1
    exact turn_ok h ha (leftS_ok (h.get a) hn h.lim.2.1 he h1.1)
  · exact h.up (Nat.le_succ n)
theorem failed_ok {t : Pst} {n : Nat} (h : t.Ok n) {a : Plc} (ha : okP a) {e : Int} (he : I64 e) : (t.failed a e).Ok (n + 1) := by
  unfold Pst.failed
  split
  · rename_i h1
    exact turn_ok h ha (failS_ok (h.get a) he h1.1)
  · exact h.up (Nat.le_succ n)
end Go.Proofs.YtjoffbgfokedlaaDoor.Pf
