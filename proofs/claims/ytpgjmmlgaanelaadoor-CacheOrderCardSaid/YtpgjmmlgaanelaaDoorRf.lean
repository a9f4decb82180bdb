/-
  The reference's Find and Learn.
-/
import Derived.Test.YtpgjmmlgaanelaaDoorRa
namespace Go.Proofs.YtpgjmmlgaanelaaDoor.Ch
open Go Go.RowKit

theorem Bk.set {w : World} {b : Nat} {c : Array Value} {T : TypeId} (h : Bk w b c T) (i : Nat) (v : Value) : Bk (w.setCell ⟨b, i, none⟩ v) b (c.setIfInBounds i v) T := by
  unfold Bk at h ⊢
  unfold World.setCell
  simp only [Array.getElem?_modify, if_true, h]
  rfl
theorem Bk.frozen {w : World} {b : Nat} {c : Array Value} {T : TypeId} (h : Bk w b c T) (i : Nat) : w.frozen? ⟨b, i, none⟩ = false := by
  unfold Bk at h
  simp [World.frozen?, h]
theorem Chg.set {F : Nat → Prop} (w : World) (p : Addr) (v : Value) (h : F p.block) : Chg F w (w.setCell p v) :=
  ⟨rfl, rfl, rfl, by simp [World.setCell], fun k _ hf => Below.heap_setCell w p v k (fun e => hf (by rw [e]; exact h))⟩
theorem Chg.drawn {F : Nat → Prop} {w : World} (n : Nat) : Chg F w (w.drewN n) := ⟨rfl, rfl, rfl, Nat.le_refl _, fun _ _ _ => rfl⟩
theorem Sub.refl (F : Nat → Prop) (w : World) : Sub F F w := fun _ hb => .inl hb
theorem far_set (w : World) (q i : Nat) (x : Value) : ∀ b, b ≠ q → (w.setCell ⟨q, i, none⟩ x).heap[b]? = w.heap[b]? := fun b hb => Below.heap_setCell w _ _ b (fun e => hb e)
section
variable {w : World} {q : Nat} {t : Ste} {v : Value} {G : Nat → Prop}
theorem hit_to (h : RefA w q t v G) (n : Nat) (u : Value) : RefTo w q G { t with hits := t.hits + 1 } u (.returned u) ((w.drewN n).setCell ⟨q, 2, none⟩ (.int .i64 (t.hits + 1))) := by
  have h' : RefA (w.drewN n) q t v G := h.keep fun _ _ => rfl
  refine ⟨G, rfl, ⟨v, turn2 h' { t with hits := t.hits + 1 } rfl (h'.c.set 2 (.int .i64 (t.hits + 1))) (far_set _ q 2 _)⟩, Chg.trans (Chg.drawn n) (Chg.set _ _ _ ((h.g q).2 (.inl rfl))) fun _ hx => .inl hx, Sub.refl _ _⟩
theorem miss_to (h : RefA w q t v G) (n : Nat) (u : Value) : RefTo w q G { t with miss := t.miss + 1 } u (.returned u) ((w.drewN n).setCell ⟨q, 3, none⟩ (.int .i64 (t.miss + 1))) := by
  have h' : RefA (w.drewN n) q t v G := h.keep fun _ _ => rfl
  refine ⟨G, rfl, ⟨v, turn2 h' { t with miss := t.miss + 1 } rfl (h'.c.set 3 (.int .i64 (t.miss + 1))) (far_set _ q 3 _)⟩, Chg.trans (Chg.drawn n) (Chg.set _ _ _ ((h.g q).2 (.inl rfl))) fun _ hx => .inl hx, Sub.refl _ _⟩
theorem same_to (h : RefA w q t v G) (n : Nat) (u : Value) : RefTo w q G t u (.returned u) (w.drewN n) :=
  ⟨G, rfl, ⟨v, h.keep fun _ _ => rfl⟩, Chg.drawn n, Sub.refl _ _⟩
theorem upd_flat {s x : Int} {l : List (Int × Int)} {j : Nat} {p : Int × Int} (hj : l[j]? = some p) (e : p.1 = s) (hb : ∀ (i : Nat) (p : Int × Int), i < j → l[i]? = some p → p.1 ≠ s) : flat (upd s x l) = (flat l).set (j * 2 + 1) (.int .i64 x) := by
  induction l generalizing j with
  | nil => simp at hj
  | cons r l ih =>
    unfold upd
    cases j with
    | zero =>
      simp at hj
      subst hj
      rw [if_pos e]
      rfl
    | succ j =>
      rw [if_neg (hb 0 r (by omega) rfl)]
      have ih' := ih (j := j) (by simpa using hj) (fun i p hi hp => hb (i + 1) p (by omega) (by simpa using hp))
      unfold flat at ih' ⊢
      rw [List.flatMap_cons, List.flatMap_cons, ih', show (j + 1) * 2 + 1 = (j * 2 + 1) + 2 by omega]
      rfl
/-- A slot turned, in place. -/
theorem upd_to (h : RefA w q t v G) {g c : Nat} (hv : v = .slice (some ⟨g, 0, none⟩) t.l.length c) (n : Nat) {s x : Int} {j : Nat} {p : Int × Int} (hj : t.l[j]? = some p) (e : p.1 = s) (hb : ∀ (i : Nat) (p : Int × Int), i < j → t.l[i]? = some p → p.1 ≠ s) (u : Value) :
    RefTo w q G { t with l := upd s x t.l } u (.returned u) ((w.drewN n).setCell ⟨g, j * 2 + 1, none⟩ (.int .i64 x)) := by
  have h' : RefA (w.drewN n) q t v G := h.keep fun _ _ => rfl
  have hg : G g := (h.g g).2 (.inr (by rw [hv]; rfl))
  refine ⟨G, rfl, ⟨v, ?_, ?_, h.n, h.g⟩, Chg.trans (Chg.drawn n) (Chg.set _ _ _ hg) fun _ hx => .inl hx, Sub.refl _ _⟩
  · have := h'.c
    unfold Bk at *
    rw [far_set _ g _ _ q (fun e => h.n (by rw [hv, e]; rfl))]
    exact this
  · show World.ownsRow _ 0 _ 2 v (upd s x t.l).length (flat (upd s x t.l))
    rw [upd_len, upd_flat hj e hb]
    have ho := h'.o
    subst hv
    exact (World.ownsRow.stored ho _ _).1
end
set_option maxRecDepth 100000 in
set_option maxHeartbeats 2000000 in
theorem ref_find (w : World) (q : Nat) (t : Ste) (G : Nat → Prop) (n : Nat) (s : Int) (h : RefS w q t G) (hk : t.Ok n) (hn : n ≤ 4611686018427387904) (hs : I64 s) :
    Calls Tryd.prog 28 #[.pointer (some ⟨q, 0, none⟩), .int .i64 s] w (RefTo w q G (t.find s).2 (.tuple #[.int .i64 (t.find s).1.1, .bool (t.find s).1.2])) := by
  obtain ⟨v, h⟩ := h
  obtain ⟨A, c, hv, hA, hc, hrow⟩ := h.form
  have H := Lib.hid h
  have ROW := Lib.hid hrow
  have c0 := h.c0
  have c2 := h.c2
  have c3 := h.c3
  have f2 := h.c.frozen 2
  have f3 := h.c.frozen 3
  have l4 := hk.len
  have h0 := hk.h0
  have m0 := hk.m0
  have sm := hk.sum
  rw [hv] at c0
  have HVV := Lib.hid hv
  obtain ⟨s1, s2⟩ := hs
  clear h hrow hk hv
  go_enter Tryd.func28, Tryd.ntmps28
  go_wp2_with fail
  go_loopw [6] (fun i wr => ∃ j : Nat, j ≤ t.l.length ∧ i = .int .i64 j ∧ Hid (∀ (i : Nat) (p : Int × Int), i < j → t.l[i]? = some p → p.1 ≠ s) ∧ Hid (∃ n, wr = w.drewN n)) (fun i _ => t.l.length - (intOf i).toNat)
  case atStart => exact ⟨0, by omega, rfl, Lib.hid (fun i p hi => by omega), Lib.hid ⟨0, rfl⟩⟩
  case round =>
    obtain ⟨j, hj, rfl, hb, hw⟩ := hrel
    obtain ⟨nd, hwr⟩ := hw.out
    subst hwr
    have c0 : (w.drewN nd).cell? ⟨q, 0, none⟩ = some (.slice A t.l.length c) := c0
    have c2 : (w.drewN nd).cell? ⟨q, 2, none⟩ = some (.int .i64 t.hits) := c2
    have c3 : (w.drewN nd).cell? ⟨q, 3, none⟩ = some (.int .i64 t.miss) := c3
    have f2 : (w.drewN nd).frozen? ⟨q, 2, none⟩ = false := f2
    have f3 : (w.drewN nd).frozen? ⟨q, 3, none⟩ = false := f3
    by_cases hlt : j < t.l.length
    · have hg := List.getElem?_eq_getElem hlt
      obtain ⟨g, rfl, hown, r0, r1⟩ := ROW.out j _ hg
      have r0 : (w.drewN nd).cell? ⟨g, j * 2, none⟩ = some (.int .i64 t.l[j].1) := r0
      have r1 : (w.drewN nd).cell? ⟨g, j * 2 + 1, none⟩ = some (.int .i64 t.l[j].2) := r1
      have hjl : (j : Int) < t.l.length := by omega
      have gq : ¬ g = q := fun e => H.out.n (by rw [hown, e])
      have HG := Lib.hid hg
      clear hg hown
      obtain ⟨p, hp⟩ : ∃ p, t.l[j] = p := ⟨_, rfl⟩
      rw [hp] at r0 r1 HG
      clear hp
      obtain ⟨x, y⟩ := p
      simp only at r0 r1
      by_cases he : x = s
      · have hkb : (x == s) = true := by simp [he]
        have LK := Lib.hid (find_some (lk_first HG.out he hb.out))
        have TO := Lib.hid (hit_to H.out nd (.tuple #[.int .i64 y, .bool true]))
        clear he hb hw
        go_wp2_with fail
        go_ret2
        rw [LK.out]; exact TO.out
      · have hkb : (x == s) = false := by simp [he]
        have HB := Lib.hid (show ∀ (i : Nat) (p : Int × Int), i < j + 1 → t.l[i]? = some p → p.1 ≠ s from fun i p hi hp => by
          rcases Nat.lt_or_ge i j with g | g
          · exact hb.out i p g hp
          · obtain rfl : i = j := by omega
            rw [HG.out] at hp
            injection hp with hp
            subst hp
            exact he)
        clear he hb
        go_wp2_with fail
        go_roundw
        case rel => exact ⟨j + 1, by omega, by go_num, HB, Lib.hid ⟨_, rfl⟩⟩
        case measure => simp [intOf]; omega
    · obtain rfl : j = t.l.length := by omega
      have LK := Lib.hid (find_none (lk_none_at fun i p hp => hb.out i p (List.getElem?_eq_some_iff.1 hp).1 hp))
      have TO := Lib.hid (miss_to H.out nd (.tuple #[.int .i64 0, .bool false]))
      clear hb hw
      go_wp2_with fail
      go_ret2
      rw [LK.out]; exact TO.out
end Go.Proofs.YtpgjmmlgaanelaaDoor.Ch
