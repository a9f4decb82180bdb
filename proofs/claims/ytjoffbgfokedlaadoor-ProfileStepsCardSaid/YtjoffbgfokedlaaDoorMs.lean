/-
  The decisions, replayed: each one's tier follows from those before.
-/
import Derived.Test.YtjoffbgfokedlaaDoorPe
namespace Go.Proofs.YtjoffbgfokedlaaDoor.Pf
open Go Go.RowKit

def StepGood (x : Spot) (r : Spot × Option (Int × List UInt8)) : Prop :=
  ∀ d, r.2 = some d → 0 ≤ x.tier ∧ d.1 ≤ x.tier + 1 ∧ d.1 ≠ x.tier ∧ d.2 ≠ [] ∧ r.1.fails = x.fails + (if d.1 < x.tier then 1 else 0)
theorem setB_good {x : Spot} (k : Int) {tr : Int} {y : List UInt8} (hy : y ≠ []) (h0 : 0 ≤ x.tier) (ht : tr < x.tier) : StepGood x (setB x k tr y) := by
  unfold setB
  split
  · intro d hd
    injection hd with hd
    subst hd
    refine ⟨h0, by simp only; omega, by simp only; omega, by simp [hy], ?_⟩
    simp only
    rw [if_pos (by omega)]
  · intro d hd
    injection hd with hd
    subst hd
    refine ⟨h0, by simp only; omega, by simp only; omega, hy, ?_⟩
    simp only
    rw [if_pos ht]
theorem backS_good {x : Spot} {n : Nat} (h : x.Ok n) {s w k : Int} : StepGood x (backS s w k x) := by
  have := h.t0
  unfold backS
  split
  · intro d hd; cases hd
  · rename_i ht
    split
    · split
      · rename_i h1
        intro d hd
        injection hd with hd
        subst hd
        refine ⟨by omega, by simp only; omega, by simp only; omega, by simp [tWarm], ?_⟩
        simp only
        rw [if_neg (by omega)]; omega
      · split
        · rename_i h1
          intro d hd
          injection hd with hd
          subst hd
          refine ⟨by omega, by simp only; omega, by simp only; omega, by simp [tHot], ?_⟩
          simp only
          rw [if_neg (by omega)]; omega
        · intro d hd; cases hd
    · intro d hd; cases hd
theorem leftS_good {x : Spot} {w c e : Int} (ht : x.tier = 2) : StepGood x (leftS w c x e) := by
  unfold leftS
  split
  · intro d hd; cases hd
  · exact setB_good _ (by simp [tExit]) (by omega) (by omega)
theorem failS_good {x : Spot} {e : Int} (ht : 1 ≤ x.tier) : StepGood x (failS x e) := setB_good _ (by simp [tErr]) (by omega) (by omega)
def upd (g : Plc → Int × Int) (d : Dec) : Plc → Int × Int := fun b => if b = d.plc then (d.tier, (g b).2 + if d.tier < (g b).1 then 1 else 0) else g b
def rep (D : List Dec) : Plc → Int × Int := D.foldl upd fun _ => (0, 0)
theorem rep_snoc (D : List Dec) (d : Dec) : rep (D ++ [d]) = upd (rep D) d := by unfold rep; rw [List.foldl_append]; rfl
def GoodD (g : Plc → Int × Int) (d : Dec) : Prop :=
  0 ≤ (g d.plc).1 ∧ d.tier ≤ (g d.plc).1 + 1 ∧ d.tier ≠ (g d.plc).1 ∧ -1 ≤ d.tier ∧ d.why ≠ [] ∧ (d.tier = -1 ↔ (upd g d d.plc).2 = 3) ∧ (upd g d d.plc).2 ≤ 3
structure Steps (t : Pst) : Prop where
  good : ∀ k d, t.D[k]? = some d → GoodD (rep (t.D.take k)) d
  at_ : ∀ a, rep t.D a = ((t.get a).tier, (t.get a).fails)
theorem steps0 (s w h c : Int) : Steps (st0 s w h c) := ⟨fun k d hd => by simp [st0] at hd, fun _ => rfl⟩
theorem steps_turn {t : Pst} {n : Nat} (h : Steps t) {a : Plc} {r : Spot × Option (Int × List UInt8)} (hr : StepOk (t.get a) r n) (hg : StepGood (t.get a) r) : Steps (t.turn a r).2 := by
  cases e : r.2 with
  | none =>
    have hD : (t.turn a r).2.D = t.D := by unfold Pst.turn; simp [e]
    refine ⟨fun k d hd => by rw [hD] at hd ⊢; exact h.good k d hd, fun b => ?_⟩
    rw [hD, h.at_ b, get_turn]
    split
    · rename_i hb
      subst hb
      obtain ⟨h1, h2⟩ := hr.same e
      rw [h1, h2]
    · rfl
  | some d =>
    obtain ⟨g0, g1, g2, g3, g4⟩ := hg d e
    obtain ⟨⟨k0, k1⟩, _, k3⟩ := hr.dec d e
    have hD : (t.turn a r).2.D = t.D ++ [⟨a, d.1, d.2⟩] := by unfold Pst.turn; simp [e]
    have ha := h.at_ a
    have hup : upd (rep t.D) ⟨a, d.1, d.2⟩ a = (r.1.tier, r.1.fails) := by
      unfold upd
      simp only [if_true]
      rw [ha, g4, k3]
    refine ⟨fun k x hx => ?_, fun b => ?_⟩
    · rw [hD] at hx ⊢
      rcases Nat.lt_or_ge k t.D.length with hk | hk
      · rw [List.getElem?_append_left hk] at hx
        rw [List.take_append_of_le_length (by omega)]
        exact h.good k x hx
      · obtain rfl : k = t.D.length := by
          have := (List.getElem?_eq_some_iff.1 hx).1
          rw [List.length_append, List.length_singleton] at this
          omega
        rw [List.getElem?_append_right (Nat.le_refl _), Nat.sub_self] at hx
        simp only [List.getElem?_cons_zero, Option.some.injEq] at hx
        subst hx
        rw [List.take_left']
        · unfold GoodD
          rw [hup, ha]
          simp only
          have e1 := hr.ok.g
          have e2 := hr.ok.f1
          rw [k3] at e1
          exact ⟨g0, g1, g2, k0, g3, e1.symm, e2⟩
        · rfl
    · rw [hD, rep_snoc, get_turn]
      by_cases hb : b = a
      · subst hb
        rw [if_pos rfl, hup]
      · rw [if_neg hb]
        show (if b = a then _ else _) = _
        rw [if_neg hb, h.at_ b]
theorem steps_back {t : Pst} {n : Nat} (h : Steps t) (hk : t.Ok n) (a : Plc) : Steps (t.back a).2 := steps_turn h (backS_ok (hk.get a)) (backS_good (hk.get a))
theorem steps_left {t : Pst} {n : Nat} (h : Steps t) (hk : t.Ok n) (hn : n ≤ 1000000000) (a : Plc) {e : Int} (he : I64 e) : Steps (t.left a e).2 := by
  unfold Pst.left
  split
  · rename_i h1
    exact steps_turn h (leftS_ok (hk.get a) hn hk.lim.2.1 he h1.1) (leftS_good h1.1)
  · exact h
theorem steps_failed {t : Pst} {n : Nat} (h : Steps t) (hk : t.Ok n) (a : Plc) {e : Int} (he : I64 e) : Steps (t.failed a e) := by
  unfold Pst.failed
  split
  · rename_i h1
    exact steps_turn h (failS_ok (hk.get a) he h1.1) (failS_good h1.1)
  · exact h
theorem itB_steps {t : Pst} {n : Nat} (h : Steps t) (hk : t.Ok n) {a : Plc} (ha : okP a) : ∀ k, Steps (itB t a k) ∧ (itB t a k).Ok (n + k)
  | 0 => ⟨h, hk⟩
  | k + 1 => by
    obtain ⟨h1, h2⟩ := itB_steps h hk ha k
    exact ⟨steps_back h1 h2 a, back_ok h2 ha⟩
theorem doP_steps {t : Pst} {n : Nat} (h : Steps t) (hk : t.Ok n) (hn : n ≤ 1000000000) (x : Act) : Steps (doP t x).2 := by
  unfold doP
  split
  · exact steps_left h hk hn _ x.exit_ok
  · split
    · exact steps_failed h hk _ x.err_ok
    · exact (itB_steps h hk x.plc_ok _).1
theorem turn_len (t : Pst) (a : Plc) (r : Spot × Option (Int × List UInt8)) : ((t.turn a r).2.D.length : Int) = t.D.length + if (t.turn a r).1 = true then 1 else 0 := by
  unfold Pst.turn
  cases r.2 <;> simp
theorem back_len (t : Pst) (a : Plc) : ((t.back a).2.D.length : Int) = t.D.length + if (t.back a).1 = true then 1 else 0 := turn_len t a _
theorem left_len (t : Pst) (a : Plc) (e : Int) : ((t.left a e).2.D.length : Int) = t.D.length + if (t.left a e).1 = true then 1 else 0 := by
  unfold Pst.left
  split
  · exact turn_len t a _
  · simp
theorem failed_len (t : Pst) (a : Plc) (e : Int) : t.D.length ≤ (t.failed a e).D.length ∧ (t.failed a e).D.length ≤ t.D.length + 1 := by
  unfold Pst.failed
  split
  · have := turn_len t a (failS (t.get a) e)
    split at this <;> omega
  · exact ⟨Nat.le_refl _, by omega⟩
theorem itB_len (t : Pst) (a : Plc) : ∀ k, ((itB t a k).D.length : Int) = t.D.length + bc t a k
  | 0 => by simp [itB, bc]
  | k + 1 => by
    show (((itB t a k).back a).2.D.length : Int) = _
    rw [back_len, itB_len t a k, bc]
    omega
theorem doP_len (t : Pst) (x : Act) : (x.what % 6 ≠ 5 → ((doP t x).2.D.length : Int) = t.D.length + (doP t x).1) ∧ 0 ≤ (doP t x).1 ∧ (doP t x).1 ≤ 9 ∧ t.D.length ≤ (doP t x).2.D.length ∧ (x.what % 6 = 5 → (doP t x).2.D.length ≤ t.D.length + 1) := by
  by_cases h4 : x.what % 6 = 4
  · have := left_len t x.plc x.exit
    unfold doP
    rw [if_pos h4]
    simp only
    split at this <;> (rename_i e; simp only [e, if_true]; simp; omega)
  · by_cases h5 : x.what % 6 = 5
    · have := failed_len t x.plc x.err
      unfold doP
      rw [if_neg h4, if_pos h5]
      simp only
      exact ⟨fun e => absurd h5 e, by omega, by omega, this.1, fun _ => this.2⟩
    · have h1 := itB_len t x.plc x.times.toNat
      have h2 := bc_le t x.plc x.times.toNat
      have h3 := x.times_ok
      unfold doP
      rw [if_neg h4, if_neg h5]
      simp only
      exact ⟨fun _ => h1, h2.1, by omega, by omega, fun e => absurd e h5⟩
theorem rep_fails : ∀ (D : List Dec) (a : Plc) (g : Plc → Int × Int), (∀ b, 0 ≤ (g b).2) → 0 ≤ (D.foldl upd g a).2
  | [], a, g, h => h a
  | d :: D, a, g, h => rep_fails D a (upd g d) fun b => by
    have := h b
    unfold upd
    split
    · simp only; split <;> omega
    · exact this
theorem rep_tier : ∀ (D : List Dec) (a : Plc) (g : Plc → Int × Int), (∀ b, -1 ≤ (g b).1 ∧ (g b).1 ≤ 2) → (∀ d ∈ D, -1 ≤ d.tier ∧ d.tier ≤ 2) → -1 ≤ (D.foldl upd g a).1 ∧ (D.foldl upd g a).1 ≤ 2
  | [], a, g, h, _ => h a
  | d :: D, a, g, h, k => rep_tier D a (upd g d) (fun b => by
      unfold upd
      split
      · exact k d (.head _)
      · exact h b) fun x hx => k x (.tail _ hx)
theorem rep_tier0 {D : List Dec} (a : Plc) (k : ∀ d ∈ D, -1 ≤ d.tier ∧ d.tier ≤ 2) : -1 ≤ (rep D a).1 ∧ (rep D a).1 ≤ 2 := rep_tier D a _ (fun _ => ⟨by decide, by decide⟩) k
theorem rep_fails0 (D : List Dec) (a : Plc) : 0 ≤ (rep D a).2 := rep_fails D a _ fun _ => Int.le_refl _
end Go.Proofs.YtjoffbgfokedlaaDoor.Pf
