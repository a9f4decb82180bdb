/-
  slices.ContainsFunc for operands that are unset.
-/
import Derived.Test.YtephblgakkeclaaDoorHn
namespace Go.Proofs.YtephblgakkeclaaDoor.Hp
open Go Go.RowKit Go.Maps Va

theorem unset_any (v : Val) (w : World) : Calls Tryd.prog 40 #[valV v] w fun e w' => e = .returned (.bool (v.k == 0)) ∧ Below w.heap.size w w' := by
  obtain ⟨k, n, s⟩ := v
  unfold valV
  simp only
  go_enter Tryd.func40, Tryd.ntmps40
  go_wp2_with fail
  go_ret
  exact ⟨rfl, (Below.refl _ w).alloc (Nat.le_refl _) _⟩
theorem any_stop {l : List Val} {k : Nat} (h : k < l.length) (e : (l[k].k == 0) = true) : l.any (fun v => v.k == 0) = true := List.any_eq_true.2 ⟨_, List.getElem_mem h, e⟩
theorem any_snoc {l : List Val} {k : Nat} (h : k < l.length) : (l.take (k + 1)).any (fun v => v.k == 0) = ((l.take k).any (fun v => v.k == 0) || (l[k].k == 0)) := by
  rw [List.take_succ_eq_append_getElem h, List.any_append]; simp
set_option maxHeartbeats 1000000 in
theorem indexU_any (P : Nat → Prop) (A : Option Addr) (l : List Val) (c : Nat) (w : World) (h : ValsAt w P A l) (hP : ∀ b, P b → b < w.heap.size) (hl : l.length ≤ 4398046511104) :
    Calls Tryd.prog 59 #[.slice A l.length c, .func (.func 40) #[] #[]] w fun e w' => (∃ i : Int, e = .returned (.int .i64 i) ∧ decide (0 ≤ i) = l.any (fun v => v.k == 0)) ∧ Below w.heap.size w w' := by
  have H := Lib.hid h
  have HP := Lib.hid hP
  clear h hP
  go_enter Tryd.func59, Tryd.ntmps59
  go_wp2_with fail
  go_loopw [8] (fun i wr => ∃ k : Nat, k ≤ l.length ∧ i = .int .i64 k ∧ Hid ((l.take k).any (fun v => v.k == 0) = false) ∧ Hid (Below w.heap.size w wr)) (fun i _ => l.length - (intOf i).toNat)
  case atStart => exact ⟨0, by omega, rfl, Lib.hid rfl, Lib.hid (Below.refl _ _)⟩
  case round =>
    obtain ⟨k, hk, rfl, ha, hw⟩ := hrel
    by_cases hlt : k < l.length
    · have hg := List.getElem?_eq_getElem hlt
      obtain ⟨b, o, rfl, hb, c0, c1, c2⟩ := H.out.low HP.out hw.out k _ hg
      have SS := Lib.hid (any_stop hlt)
      have SN := Lib.hid (any_snoc hlt)
      have UN := Lib.hid (unset_any l[k])
      have ki : (k : Int) < l.length := by omega
      generalize l[k] = v at *
      clear hg hb
      obtain ⟨vk, vn, vs⟩ := v
      unfold valV at UN
      simp only at c0 c1 c2 UN
      go_wp2_with fail
      refine (UN.out _).mono ?_
      rintro e w2 ⟨rfl, hb⟩
      have HW := Lib.hid (hw.out.trans (hb.mono hw.out.size))
      clear hb hw
      cases hr : (vk == 0)
      · have A2 := Lib.hid (show (l.take (k + 1)).any (fun v => v.k == 0) = false by rw [SN.out, ha.out]; exact hr)
        clear hr
        go_wp2_with fail
        go_roundw
        case rel => exact ⟨k + 1, by omega, by go_num, A2, HW⟩
        case measure => simp [intOf]; omega
      · have E2 := Lib.hid (SS.out hr)
        clear hr
        go_wp2_with fail
        go_ret
        exact ⟨⟨k, rfl, by rw [E2.out]; simp⟩, HW.out⟩
    · obtain rfl : k = l.length := by omega
      have E2 := Lib.hid (show l.any (fun v => v.k == 0) = false by have := ha.out; rw [List.take_length] at this; exact this)
      go_wp2_with fail
      go_ret
      exact ⟨⟨-1, rfl, by rw [E2.out]; rfl⟩, hw.out⟩
theorem contU_any (P : Nat → Prop) (A : Option Addr) (l : List Val) (n c : Nat) (w : World) (hn : l.length = n) (h : ValsAt w P A l) (hP : ∀ b, P b → b < w.heap.size) (hl : n ≤ 4398046511104) :
    Calls Tryd.prog 41 #[.slice A n c, .func (.func 40) #[] #[]] w fun e w' => e = .returned (.bool (l.any (fun v => v.k == 0))) ∧ Below w.heap.size w w' := by
  subst hn
  have IX := Lib.hid (indexU_any P A l c w h hP hl)
  clear h hP
  go_enter Tryd.func41, Tryd.ntmps41
  go_wp2_with fail
  refine IX.out.mono ?_
  rintro e w2 ⟨⟨i, rfl, hi⟩, hb⟩
  have HI := Lib.hid hi
  have HB := Lib.hid hb
  clear hi hb
  go_wp2_with fail
  go_ret
  exact ⟨ret_bool HI.out, HB.out⟩
end Go.Proofs.YtephblgakkeclaaDoor.Hp
