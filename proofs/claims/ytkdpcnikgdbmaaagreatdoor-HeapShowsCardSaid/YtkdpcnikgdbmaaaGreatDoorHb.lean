/-
  Contracts of zero, natural, noneNamed, Size, storable, target.
-/
import Derived.Test.YtkdpcnikgdbmaaaGreatDoorHa
namespace Go.Proofs.YtkdpcnikgdbmaaaGreatDoor.Hp
open Go Go.RowKit Va

theorem zero_any (n : Int) (w : World) : Calls Tryz.prog 103 #[.int .i64 n] w fun e w' => e = .returned (.bool (decide (n = 0))) ∧ w = w' := by
  go_enter Tryz.func103, Tryz.ntmps103
  go_wp2_with fail
  go_ret
  exact ⟨ret_bool (by rw [Bool.eq_iff_iff]; simp), rfl⟩
theorem natural_any (n : Int) (w : World) : Calls Tryz.prog 102 #[.int .i64 n] w fun e w' => e = .returned (.bool (decide (0 ≤ n))) ∧ w = w' := by
  go_enter Tryz.func102, Tryz.ntmps102
  go_wp2_with fail
  go_ret
  exact ⟨rfl, rfl⟩
theorem none_any (A : Option Addr) (n c : Nat) (m : Int) (w : World) : Calls Tryz.prog 106 #[.slice A n c, .int .i64 m] w fun e w' => e = .returned (.bool (decide (n = 0))) ∧ w = w' := by
  go_enter Tryz.func106, Tryz.ntmps106
  go_wp2_with fail
  go_ret
  exact ⟨ret_bool (by rw [Bool.eq_iff_iff]; simp), rfl⟩
theorem stor_snoc {l : List Val} {k : Nat} (h : k < l.length) : (l.take (k + 1)).all okB = ((l.take k).all okB && okB l[k]) := by
  rw [List.take_succ_eq_append_getElem h, List.all_append]; simp
theorem stor_stop {l : List Val} {k : Nat} (h : k < l.length) (e : okB l[k] = false) : l.all okB = false := by
  rw [Bool.eq_false_iff]
  intro h'
  have := List.all_eq_true.1 h' _ (List.getElem_mem h)
  rw [e] at this; cases this
set_option maxHeartbeats 2000000 in
theorem storable_any (P : Nat → Prop) (A : Option Addr) (l : List Val) (c : Nat) (w : World) (h : ValsAt w P A l) (hP : ∀ b, P b → b < w.heap.size) (hl : l.length ≤ 4398046511104) (hf : ∀ v ∈ l, v.Fits) (hB : Bnds w) :
    Calls Tryz.prog 105 #[.slice A l.length c] w fun e w' => e = .returned (.bool (storB l)) ∧ Below w.heap.size w w' := by
  have H := Lib.hid h
  have HP := Lib.hid hP
  have HF := Lib.hid hf
  have BN := Lib.hid hB
  clear h hP hf hB
  by_cases h64 : 64 < (l.length : Int)
  · have E := Lib.hid (show storB l = false by unfold storB; rw [decide_eq_false (by omega)]; rfl)
    go_enter Tryz.func105, Tryz.ntmps105
    go_wp2_with fail
    go_ret
    exact ⟨by rw [E.out]; rfl, Below.refl _ _⟩
  · have E := Lib.hid (show storB l = l.all okB by unfold storB; rw [decide_eq_true (by omega)]; rfl)
    go_enter Tryz.func105, Tryz.ntmps105
    go_wp2_with fail
    go_loopw [10] (fun i wr => ∃ k : Nat, k ≤ l.length ∧ i = .int .i64 k ∧ Hid ((l.take k).all okB = true) ∧ Hid (Below w.heap.size w wr)) (fun i _ => l.length - (intOf i).toNat)
    case atStart => exact ⟨0, by omega, rfl, Lib.hid rfl, Lib.hid (Below.refl _ _)⟩
    case round =>
      obtain ⟨k, hk, rfl, ha, hw⟩ := hrel
      by_cases hlt : k < l.length
      · have hg := List.getElem?_eq_getElem hlt
        obtain ⟨b, o, rfl, hb, c0, c1, c2⟩ := H.out.low HP.out hw.out k _ hg
        have FT := Lib.hid (HF.out _ (List.getElem_mem hlt))
        have SN := Lib.hid (stor_snoc hlt)
        have SS := Lib.hid (stor_stop hlt)
        have ki : (k : Int) < l.length := by omega
        generalize l[k] = v at *
        clear hg hb
        obtain ⟨vk, vn, vs⟩ := v
        simp only at c0 c1 c2
        by_cases h0 : vk = 0
        · have hk0 : (vk == 0) = true := by simp [h0]
          have E2 := Lib.hid (show l.all okB = false from SS.out (by unfold okB; simp [h0]))
          clear h0
          go_wp2_with fail
          go_ret
          exact ⟨by rw [E.out, E2.out]; rfl, hw.out.alloc hw.out.size _⟩
        · have hk0 : (vk == 0) = false := by simp [h0]
          have OKB := Lib.hid (show okB ⟨vk, vn, vs⟩ = rightB vk vn vs by unfold okB; simp [h0, Val.right])
          clear h0
          go_wp2_with fail
          refine (right_any vk vn vs _ FT.out.2.2 (fun i hi => by rw [(hw.out.alloc hw.out.size _).cell (by exact BN.out.size)]; exact BN.out i hi)).mono ?_
          rintro e w2 ⟨rfl, hb⟩
          have HW := Lib.hid ((hw.out.alloc hw.out.size (.cells #[.int .i64 vk, .int .i64 vn, .string vs] 64)).trans (hb.mono (by have := hw.out.size; simp; omega)))
          clear hb hw
          cases hr : rightB vk vn vs
          · have E2 := Lib.hid (show l.all okB = false from SS.out (by rw [OKB.out, hr]))
            clear hr
            go_wp2_with fail
            go_ret
            exact ⟨by rw [E.out, E2.out]; rfl, HW.out⟩
          · have A2 := Lib.hid (show (l.take (k + 1)).all okB = true by rw [SN.out, ha.out, OKB.out, hr]; rfl)
            clear hr
            go_wp2_with fail
            go_roundw
            case rel => exact ⟨k + 1, by omega, by go_num, A2, HW⟩
            case measure => simp [intOf]; omega
      · obtain rfl : k = l.length := by omega
        have E2 := Lib.hid (show l.all okB = true by have := ha.out; rw [List.take_length] at this; exact this)
        go_wp2_with fail
        go_ret
        exact ⟨by rw [E.out, E2.out]; rfl, hw.out⟩
set_option maxHeartbeats 2000000 in
theorem target_any (P : Nat → Prop) (A : Option Addr) (l : List Val) (c : Nat) (w : World) (h : ValsAt w P A l) (hP : ∀ b, P b → b < w.heap.size) (hl : l.length ≤ 4398046511104) (hf : ∀ v ∈ l, v.Fits) (hB : Bnds w) :
    Calls Tryz.prog 107 #[.slice A l.length c] w fun e w' => e = .returned (.bool (targB l)) ∧ Below w.heap.size w w' := by
  have ST := Lib.hid (storable_any P A l c w h hP hl hf hB)
  by_cases h1 : l.length = 1
  · obtain ⟨v, rfl⟩ := List.length_eq_one_iff.1 h1
    obtain ⟨b, o, rfl, hb, c0, c1, c2⟩ := h 0 v rfl
    have c0 : w.cell? ⟨b, o, none⟩ = some (.int .i64 v.k) := by simpa using c0
    have E := Lib.hid (show storB [v] = okB v by unfold storB; simp)
    obtain ⟨vk, vn, vs⟩ := v
    simp only at c0
    clear h hP hl hf hB hb c1 c2 h1
    simp only [List.length_singleton] at ST ⊢
    by_cases k1 : vk = 1
    · subst k1
      have T := Lib.hid (show targB [⟨1, vn, vs⟩] = okB ⟨1, vn, vs⟩ by unfold targB; simp)
      go_enter Tryz.func107, Tryz.ntmps107
      go_wp2_with fail
      refine ST.out.mono ?_
      rintro e w2 ⟨rfl, hb⟩
      go_wp2_with fail
      go_ret
      exact ⟨by rw [T.out, ← E.out]; rfl, hb⟩
    by_cases k5 : vk = 5
    · subst k5
      have T := Lib.hid (show targB [⟨5, vn, vs⟩] = okB ⟨5, vn, vs⟩ by unfold targB; simp)
      go_enter Tryz.func107, Tryz.ntmps107
      go_wp2_with fail
      refine ST.out.mono ?_
      rintro e w2 ⟨rfl, hb⟩
      go_wp2_with fail
      go_ret
      exact ⟨by rw [T.out, ← E.out]; rfl, hb⟩
    · have hk1 : (vk == 1) = false := by simp [k1]
      have hk : (vk == 5) = false := by simp [k5]
      have T := Lib.hid (show targB [⟨vk, vn, vs⟩] = false by unfold targB; simp [k1, k5])
      go_enter Tryz.func107, Tryz.ntmps107
      go_wp2_with fail
      go_ret
      exact ⟨by rw [T.out]; rfl, Below.refl _ _⟩
  · have T := Lib.hid (show targB l = false by
      match l, h1 with
      | [], _ => rfl
      | [_], h1 => exact absurd rfl h1
      | _ :: _ :: _, _ => rfl)
    have h1i : ((l.length : Int) == 1) = false := by simp; omega
    clear h hP hf hB
    go_enter Tryz.func107, Tryz.ntmps107
    go_wp2_with fail
    go_ret
    exact ⟨by rw [T.out]; rfl, Below.refl _ _⟩
theorem size_any (k cl fn tn : Int) (nA : Value) (A : Option Addr) (n c : Nat) (hn : n ≤ 1000000) (w : World) :
    Calls Tryz.prog 36 #[.agg #[.int .i64 k, .int .i64 cl, .int .i64 fn, .int .i64 tn, nA, .slice A n c]] w fun e w' => e = .returned (.int .i64 (16 + 8 * n)) ∧ Below w.heap.size w w' := by
  have ni : (n : Int) ≤ 1000000 := by omega
  go_enter Tryz.func36, Tryz.ntmps36
  go_wp2_with fail
  go_ret
  exact ⟨rfl, (Below.refl _ w).alloc (Nat.le_refl _) _⟩
end Go.Proofs.YtkdpcnikgdbmaaaGreatDoor.Hp
