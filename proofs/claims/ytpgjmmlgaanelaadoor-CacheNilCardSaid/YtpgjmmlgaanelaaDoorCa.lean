/-
  The walk of CacheArgs.
-/
import Derived.Test.YtpgjmmlgaanelaaDoorCs
namespace Go.Proofs.YtpgjmmlgaanelaaDoor.Ch
open Go Go.RowKit

theorem learn_neg {t : Ste} {s v : Int} (h : s < 0 ∨ v < 0) : t.learn s v = (1, t) := by unfold Ste.learn; rw [if_pos h]
theorem learn_in {t : Ste} {s v : Int} (h : 0 ≤ s) (h' : 0 ≤ v) (hf : t.full = false) (h4 : t.l.length < 4 ∨ lk s t.l ≠ none) : ∃ t', t.learn s v = (0, t') ∧ lk s t'.l = some v ∧ t'.full = false := by
  unfold Ste.learn
  rw [if_neg (by omega), if_neg (by rw [hf]; decide)]
  cases hl : lk s t.l with
  | some b => exact ⟨_, rfl, (by show lk s (upd s v t.l) = _; rw [lk_upd _ (by rw [hl]; simp)]; simp), hf⟩
  | none =>
    have h5 : ¬ t.l.length = 4 := by
      rcases h4 with h4 | h4
      · omega
      · exact absurd hl h4
    simp only [if_neg h5]
    exact ⟨_, rfl, (by show lk s (t.l ++ [(s, v)]) = _; rw [lk_snoc hl]; simp), hf⟩
theorem find_hit {t : Ste} {s b : Int} (h : lk s t.l = some b) : ∃ t', t.find s = ((b, true), t') ∧ t'.l = t.l ∧ t'.full = t.full := by unfold Ste.find; rw [h]; exact ⟨_, rfl, rfl, rfl⟩
theorem find_miss {t : Ste} {s : Int} (h : lk s t.l = none) : ∃ t', t.find s = ((0, false), t') ∧ t'.l = t.l ∧ t'.full = t.full := by unfold Ste.find; rw [h]; exact ⟨_, rfl, rfl, rfl⟩
def a1 : Ste := (st0.learn 1 1).2
theorem r1 : st0.learn 1 1 = (0, a1) := by kernel_rfl
theorem a1_l : a1.l = [(1, 1)] := by kernel_rfl
theorem a1_f : a1.full = false := by kernel_rfl
def b11 : ByteArray := ⟨#[49, 58, 49]⟩
theorem a1_text : ∀ t : Ste, t.l = a1.l → t.full = a1.full → t.text = b11.data.toList := fun t h h' => by
  have : a1.text = b11.data.toList := by kernel_rfl
  rw [← this]; unfold Ste.text; rw [h, h']
set_option maxRecDepth 100000 in
set_option maxHeartbeats 4000000 in
theorem args_walk (K : Kit) (s v : Int) (hs : I64 s) (hv : I64 v) (w : World) (hk : K.V w) :
    Calls Tryd.prog 8 #[.int .i64 s, .int .i64 v] w fun e w' => e = .returned (.bool true) ∧ Below w.heap.size w w' := by
  have HV := Lib.hid hk
  have SI := Lib.hid hs
  have VI := Lib.hid hv
  clear hk hs hv
  go_enter Tryd.func8, Tryd.ntmps8
  go_wp2_with fail
  refine (sanity_any K _ HV.out).mono ?_
  rintro e w1 ⟨rfl, hb⟩
  have B1 := Lib.hid hb
  clear hb
  go_wp2_with fail
  refine (new_at (w0 := w) HV.out B1.out).mono ?_
  rintro e w2 ⟨p, F, rfl, h, _⟩
  have hs := Lib.hid h
  clear h
  go_wp2_with fail
  refine (learn_at hs.out (i64 (by omega) (by omega)) (i64 (by omega) (by omega)) r1).mono ?_
  rintro e w3 ⟨F2, rfl, h, _⟩
  replace hs := Lib.hid h
  clear h
  have HT : b11 = ⟨#[49, 58, 49]⟩ := rfl
  by_cases h1 : s < 0
  · have hne : (s == 1) = false := by simp; omega
    obtain ⟨t', e1, e2, e3⟩ := find_miss (t := a1) (s := s) (lk_none.2 (by rw [a1_l]; intro p hp; simp at hp; subst hp; show (1 : Int) ≠ s; omega))
    have E1 := Lib.hid e1
    have E2 := Lib.hid (a1_text t' e2 e3)
    clear e1 e2 e3
    go_wp2_with fail
    refine (learn_at hs.out SI.out VI.out (learn_neg (.inl h1))).mono ?_
    rintro e w4 ⟨F3, rfl, h, _⟩
    replace hs := Lib.hid h
    clear h
    go_wp2_with fail
    refine (find_at hs.out (by omega) SI.out E1.out).mono ?_
    rintro e w5 ⟨F4, rfl, h, _⟩
    replace hs := Lib.hid h
    clear h
    go_wp2_with fail
    refine (text_at hs.out E2.out).mono ?_
    rintro e w6 ⟨rfl, h, _⟩
    replace hs := Lib.hid h
    clear h
    go_wp2_with fail
    go_ret
    exact ⟨rfl, hs.out.b⟩
  by_cases h2 : v < 0
  · have LN := Lib.hid (learn_neg (t := a1) (s := s) (.inr h2))
    by_cases h3 : s = 1
    · subst h3
      obtain ⟨t', e1, e2, e3⟩ := find_hit (t := a1) (s := 1) (b := 1) (by rw [a1_l]; rfl)
      have E1 := Lib.hid e1
      have E2 := Lib.hid (a1_text t' e2 e3)
      clear e1 e2 e3
      go_wp2_with fail
      refine (learn_at hs.out SI.out VI.out LN.out).mono ?_
      rintro e w4 ⟨F3, rfl, h, _⟩
      replace hs := Lib.hid h
      clear h
      go_wp2_with fail
      refine (find_at hs.out (by omega) SI.out E1.out).mono ?_
      rintro e w5 ⟨F4, rfl, h, _⟩
      replace hs := Lib.hid h
      clear h
      go_wp2_with fail
      refine (text_at hs.out E2.out).mono ?_
      rintro e w6 ⟨rfl, h, _⟩
      replace hs := Lib.hid h
      clear h
      go_wp2_with fail
      go_ret
      exact ⟨rfl, hs.out.b⟩
    · have hne : (s == 1) = false := by simp; exact h3
      obtain ⟨t', e1, e2, e3⟩ := find_miss (t := a1) (s := s) (lk_none.2 (by rw [a1_l]; intro p hp; simp at hp; subst hp; show (1 : Int) ≠ s; omega))
      have E1 := Lib.hid e1
      have E2 := Lib.hid (a1_text t' e2 e3)
      clear e1 e2 e3
      go_wp2_with fail
      refine (learn_at hs.out SI.out VI.out LN.out).mono ?_
      rintro e w4 ⟨F3, rfl, h, _⟩
      replace hs := Lib.hid h
      clear h
      go_wp2_with fail
      refine (find_at hs.out (by omega) SI.out E1.out).mono ?_
      rintro e w5 ⟨F4, rfl, h, _⟩
      replace hs := Lib.hid h
      clear h
      go_wp2_with fail
      refine (text_at hs.out E2.out).mono ?_
      rintro e w6 ⟨rfl, h, _⟩
      replace hs := Lib.hid h
      clear h
      go_wp2_with fail
      go_ret
      exact ⟨rfl, hs.out.b⟩
  · obtain ⟨t1, e1, e2, _⟩ := learn_in (t := a1) (s := s) (v := v) (by omega) (by omega) a1_f (.inl (by rw [a1_l]; decide))
    obtain ⟨t', e3, _, _⟩ := find_hit e2
    have E1 := Lib.hid e1
    have E3 := Lib.hid e3
    clear e1 e2 e3
    go_wp2_with fail
    refine (learn_at hs.out SI.out VI.out E1.out).mono ?_
    rintro e w4 ⟨F3, rfl, h, _⟩
    replace hs := Lib.hid h
    clear h
    go_wp2_with fail
    refine (find_at hs.out (by omega) SI.out E3.out).mono ?_
    rintro e w5 ⟨F4, rfl, h, _⟩
    replace hs := Lib.hid h
    clear h
    go_wp2_with fail
    go_ret
    exact ⟨by simp, hs.out.b⟩
end Go.Proofs.YtpgjmmlgaanelaaDoor.Ch
