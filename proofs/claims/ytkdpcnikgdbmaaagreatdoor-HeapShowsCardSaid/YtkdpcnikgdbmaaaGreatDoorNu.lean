/-
  The reference's numbers: Mod, Next.
-/
import Derived.Test.YtkdpcnikgdbmaaaGreatDoorAw
import Derived.Deep.Draws
namespace Go.Proofs.YtkdpcnikgdbmaaaGreatDoor.Ac
open Go Go.RowKit

theorem ret_int {k : IntKind} {a b : Int} (h : a = b) : Ending.returned (.int k a) = .returned (.int k b) := by rw [h]
theorem tmod_fix (a m : Int) (hm : 1 ≤ m) : (if a.tmod m < 0 then a.tmod m + m else a.tmod m) = a % m := by
  by_cases h : 0 ≤ a
  · rw [Int.tmod_eq_emod_of_nonneg h]
    have := Int.emod_nonneg a (show m ≠ 0 by omega)
    rw [if_neg (by omega)]
  · have h1 := Int.lt_tmod_of_pos a (show 0 < m by omega)
    have h2 : a.tmod m ≤ 0 := by
      have := Int.tmod_nonneg (a := -a) m (by omega)
      rw [Int.neg_tmod] at this; omega
    have h3 : a.tmod m % m = a % m := by rw [Int.tmod_def]; rw [Int.sub_emod, Int.mul_emod_right, Int.sub_zero, Int.emod_emod]
    by_cases h4 : a.tmod m < 0
    · rw [if_pos h4, ← h3, ← Int.add_emod_right, Int.emod_eq_of_lt (by omega) (by omega)]
    · rw [if_neg h4, ← h3, Int.emod_eq_of_lt (by omega) (by omega)]
theorem mod_any (a m : Int) (ha : I64 a) (hm : 1 ≤ m) (hm' : m ≤ 9223372036854775807) (w : World) :
    Calls Tryz.prog 16 #[.int .i64 a, .int .i64 m] w fun e w' => e = .returned (.int .i64 (a % m)) ∧ w = w' := by
  obtain ⟨ha1, ha2⟩ := ha
  have T := Lib.hid (tmod_fix a m hm)
  have h1 := Int.lt_tmod_of_pos a (show 0 < m by omega)
  have h2 := Int.tmod_lt_of_pos a (show 0 < m by omega)
  have hne : ¬ m = 0 := by omega
  go_enter Tryz.func16, Tryz.ntmps16
  go_wp2
  all_goals
    go_ret
    exact ⟨ret_int (by have := T.out; split at this <;> omega), rfl⟩
/-- The numbers that are read: a block of their slice and of how many were read. -/
def Nm (w : World) (b : Nat) (A : Option Addr) (n c : Nat) : Prop := ∃ K : Nat, K ≤ n ∧ Bk w b #[.slice A n c, .int .i64 K] 89
/-- How a call of Next ends. -/
def NextTo (m : Int) (b : Nat) (A : Option Addr) (n c : Nat) (w : World) (e : Ending) (w' : World) : Prop :=
  ∃ r : Int, e = .returned (.int .i64 r) ∧ Hid (0 ≤ r ∧ r < m) ∧ Hid (Nm w' b A n c ∧ w.grownBy w' (some b))
theorem only_drewN {a w : World} {row : Option Nat} (h : a.grownBy w row) (n : Nat) : a.grownBy (w.drewN n) row := ⟨h.os, h.tape, h.output, h.size, h.block⟩
theorem only_setCell {a w : World} {g : Nat} (h : a.grownBy w (some g)) {p : Addr} (hp : p.block = g) (u : Value) : a.grownBy (w.setCell p u) (some g) :=
  ⟨h.os, h.tape, h.output, by simpa [World.setCell] using h.size, fun i hi hne => (Below.heap_setCell w p u i (by
    rintro rfl
    exact hne (by rw [hp]))).trans (h.block i hi hne)⟩
theorem next_any (m : Int) (b : Nat) (A : Option Addr) (zs : List Int) (c B : Nat) (w : World) (hA : Sl w B A zs) (hB : B ≤ b) (hz : ∀ z ∈ zs, I64 z) (hl : zs.length ≤ 17592186044404) (h : Nm w b A zs.length c) (hm : 1 ≤ m) (hm' : m ≤ 9223372036854775807) :
    Calls Tryz.prog 55 #[.pointer (some ⟨b, 0, none⟩), .int .i64 m] w (NextTo m b A zs.length c w) := by
  obtain ⟨K, hK, hb⟩ := h
  have H := Lib.hid hb
  have c0 := hb.cell 0 _ rfl
  have c1 := hb.cell 1 _ rfl
  clear hb
  by_cases hlt : K < zs.length
  · obtain ⟨ad, rfl, hbl, hc⟩ := hA.get K hlt
    have hz1 := hz _ (List.getElem_mem hlt)
    generalize zs[K] = z at *
    have hlt' : (K : Int) < zs.length := by omega
    have hf := H.out.frozen 1
    have M := Lib.hid (fun W => q_same (fun W => mod_any z m hz1 hm hm' W) W)
    have R0 := Lib.hid (Int.emod_nonneg z (show m ≠ 0 by omega))
    have R1 := Lib.hid (Int.emod_lt_of_pos z (show 0 < m by omega))
    generalize z % m = r at *
    have HC := Lib.hid hc
    clear hc hz
    go_enter Tryz.func55, Tryz.ntmps55
    go_wp2
    go_quiet (fail)
    go_wp2
    have H1 := Lib.hid (show Bk ((w.drewN nq).setCell ⟨b, 1, none⟩ (.int .i64 (↑K + 1))) b #[.slice (some ad) zs.length c, .int .i64 (↑K + 1)] 89 from Bk.set (w := w.drewN nq) H.out 1 _)
    have G1 := Lib.hid (only_setCell (p := ⟨b, 1, none⟩) (only_drewN (World.grownBy.refl w (some b)) nq) rfl (.int .i64 (↑K + 1)))
    have hc1 : ((w.drewN nq).setCell ⟨b, 1, none⟩ (.int .i64 (↑K + 1))).cell? (ad.add K) = some (.int .i64 z) := by
      rw [World.cell?_of_block (w := w) (Below.heap_setCell (w.drewN nq) ⟨b, 1, none⟩ (.int .i64 (↑K + 1)) (ad.add K).block (by rw [blk_add]; show ad.block ≠ b; omega))]
      exact HC.out
    generalize (w.drewN nq).setCell ⟨b, 1, none⟩ (.int .i64 (↑K + 1)) = wx at *
    clear c0 c1 hf
    have d0 := H1.out.cell 0 _ rfl
    have d1 := H1.out.cell 1 _ rfl
    have e1 : IntKind.i64.wrap ((K : Int) + 1 - 1) = K := by rw [IntWalk.i64_in _ (by omega)]; omega
    go_quiet ((go_at_call 16; exact qq _ _ M.out))
    clear d0 d1 e1 hc1
    go_wp2
    go_ret
    refine ⟨r, rfl, ⟨R0.out, R1.out⟩, ⟨K + 1, by omega, ?_⟩, only_drewN G1.out _⟩
    exact H1.out
  · have hge : zs.length ≤ K := by omega
    have hge' : (zs.length : Int) ≤ K := by omega
    have hd : decide ((zs.length : Int) ≤ K) = true := by simp; omega
    have hd' : decide (zs.length ≤ K) = true := by simp; omega
    go_enter Tryz.func55, Tryz.ntmps55
    go_wp2
    go_quiet (fail)
    go_wp2
    go_ret
    exact ⟨0, rfl, ⟨by omega, by omega⟩, ⟨K, hK, H.out⟩, only_drewN (World.grownBy.refl w (some b)) _⟩
end Go.Proofs.YtkdpcnikgdbmaaaGreatDoor.Ac
