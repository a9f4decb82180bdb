/-
  The reference's Act.Values: values that numbers determine.
-/
import Derived.Test.YtkdpcnikgdbmaaaGreatDoorNe
namespace Go.Proofs.YtkdpcnikgdbmaaaGreatDoor.Ac
open Go Go.RowKit

/-- A value of Values. -/
def Wv (v : Hp.Val) : Prop := Gv (Lo 12) v.k v.n v.s ∨ v = ⟨0, 0, ⟨#[]⟩⟩
/-- What a round of Values carries. -/
structure Wi (W : World) (b : Nat) (A : Option Addr) (n c : Nat) (iv : Value) (m : Nat) (w : World) : Prop where
  st : Sn W b A n c [] w
  own : ∃ vs : List Hp.Val, vs.length = m ∧ (∀ v ∈ vs, Wv v) ∧ w.ownsRow W.heap.size 64 3 iv m (Hp.flatV vs)
/-- How a call of Values ends. -/
def ValsTo (n : Nat) (w : World) (e : Ending) (w' : World) : Prop :=
  ∃ (vs : List Hp.Val) (VA : Option Addr) (vc : Nat), e = .returned (.slice VA n vc) ∧ vs.length = n ∧ Hid (∀ v ∈ vs, Wv v) ∧ Hid (Below w.heap.size w w') ∧ Hid (w'.ownsRow w.heap.size 64 3 (.slice VA n vc) n (Hp.flatV vs))
theorem below_of1 {w W w' : World} (h : Below w.heap.size w W) (k : W.grownBy w' (some (w.heap.size + 1))) : Below w.heap.size w w' :=
  h.trans ⟨k.os, k.tape, k.output, k.size, fun i hi => k.block i (Nat.lt_of_lt_of_le hi h.size) (fun e => by injection e with e; omega)⟩
set_option maxRecDepth 10000 in
set_option maxHeartbeats 8000000 in
theorem values_any (wh : Int) (A : Option Addr) (zs : List Int) (c n : Nat) (w : World) (hA : Sl w w.heap.size A zs) (hz : ∀ z ∈ zs, I64 z) (hl : zs.length ≤ 17592186044404) (hn : n ≤ 64) :
    Calls Tryz.prog 20 #[.agg #[.int .i64 wh, .slice A zs.length c], .int .i64 n] w (ValsTo n w) := by
  obtain ⟨i0, hi0, hz0, hz1, hz2⟩ := info_parts infoV
  have HZ := Lib.hid hz
  have hbw : Below w.heap.size w ((w.alloc (.cells #[.int .i64 wh, .slice A zs.length c] 31)).alloc (.cells #[.slice A zs.length c, .int .i64 0] 89)) := ((Below.refl _ _).alloc (Nat.le_refl _) _).alloc (by simp) _
  have HA := Lib.hid (hA.below hbw (Nat.le_refl _))
  have HB := Lib.hid hbw
  have S0 := Lib.hid (Sn.init (w := ((w.alloc (.cells #[.int .i64 wh, .slice A zs.length c] 31)).alloc (.cells #[.slice A zs.length c, .int .i64 0] 89))) (b := w.heap.size + 1) (A := A) (n := zs.length) (c := c) ⟨0, Nat.zero_le _, by have h := Bk.new (w.alloc (.cells #[.int .i64 wh, .slice A zs.length c] 31)) #[.slice A zs.length c, .int .i64 0] 89; rwa [World.size_alloc] at h⟩)
  clear hA hz hbw
  go_enter Tryz.func20, Tryz.ntmps20
  go_wp2_with fail
  have hsz : ((w.alloc (.cells #[.int .i64 wh, .slice A zs.length c] 31)).alloc (.cells #[.slice A zs.length c, .int .i64 0] 89)).heap.size = w.heap.size + 1 + 1 := by simp
  have hW : w.heap.size + 1 ≤ ((w.alloc (.cells #[.int .i64 wh, .slice A zs.length c] 31)).alloc (.cells #[.slice A zs.length c, .int .i64 0] 89)).heap.size := by omega
  clear hsz
  generalize ((w.alloc (.cells #[.int .i64 wh, .slice A zs.length c] 31)).alloc (.cells #[.slice A zs.length c, .int .i64 0] 89)) = W at *
  have L0 := Lib.hid (show Wi W (w.heap.size + 1) A zs.length c (.slice none 0 0) 0 W from ⟨S0.out, [], rfl, (fun _ h => by cases h), World.ownsRow_nil _ _ _ _⟩)
  clear S0
  go_loopw [6, 7] (fun v i wr => ∃ (k : Nat) (VA : Option Addr) (vc : Nat), k ≤ n ∧ i = .int .i64 k ∧ v = .slice VA k vc ∧ Hid (Wi W (w.heap.size + 1) A zs.length c (.slice VA k vc) k wr)) (fun _ i _ => n - (intOf i).toNat)
  case atStart => exact ⟨0, none, 0, by omega, rfl, rfl, L0⟩
  case round =>
    clear L0
    obtain ⟨k, VA, vc, hk, rfl, rfl, hM⟩ := hrel
    by_cases hlt : k < n
    · have hki : (k : Int) < n := by omega
      obtain ⟨vs, hvl, hvs, hvo⟩ := hM.out.own
      have ST := Lib.hid hM.out.st
      have HV := Lib.hid hvs
      have HO := Lib.hid hvo
      clear hM hvs hvo
      go_wp2_with fail
      refine (value_st ST.out HA.out (Nat.le_succ _) hW HZ.out hl 12 (by omega) (by omega) HO.out (by decide)).mono ?_
      rintro e w2 ⟨kk, x, s, rfl, hg, ST2, HO2, hw2⟩
      go_wp2_with fail
      have S3a := Lib.hid (ST2.out.alloc #[.int .i64 kk, .int .i64 x, .string s] 64)
      have HO3a := Lib.hid (World.ownsRow.alloc HO2.out (.cells #[.int .i64 kk, .int .i64 x, .string s] 64))
      have hvb := Lib.hid (show ∀ g, (Value.slice VA k vc).ownBlock = some g → g ≠ w2.heap.size from fun g hg => by have := (HO2.out.lt g hg).2; omega)
      clear ST HO ST2 HO2
      refine (next_keep S3a.out HA.out (Nat.le_succ _) hW HZ.out hl 30 (by omega) (by omega) HO3a.out (by decide)).mono ?_
      rintro e w3 ⟨q, rfl, hq, ST3, HO3⟩
      obtain ⟨q0, q1⟩ := hq.out
      clear S3a HO3a hq
      generalize w2.heap.size = vb at *
      by_cases hq9 : q = 29
      · subst hq9
        have f0 := ST3.out.frozen _ _ _ (.head _) 0
        have f1 := ST3.out.frozen _ _ _ (.head _) 1
        have f2 := ST3.out.frozen _ _ _ (.head _) 2
        have c0 : w3.cell? ⟨vb, 0, none⟩ = some (.int .i64 kk) := ST3.out.cell _ _ _ (.head _) 0 _ rfl
        have c1 : w3.cell? ⟨vb, 1, none⟩ = some (.int .i64 x) := ST3.out.cell _ _ _ (.head _) 1 _ rfl
        have c2 : w3.cell? ⟨vb, 2, none⟩ = some (.string s) := ST3.out.cell _ _ _ (.head _) 2 _ rfl
        have S4 := Lib.hid (ST3.out.set3 vb _ _ _ 64 (.head _) (.int .i64 0) (.int .i64 0) (.string ⟨#[]⟩))
        have own1 : ∀ {w' : World} (i : Nat) (u : Value), w'.ownsRow W.heap.size 64 3 (.slice VA k vc) k (Hp.flatV vs) → (w'.setCell ⟨vb, i, none⟩ u).ownsRow W.heap.size 64 3 (.slice VA k vc) k (Hp.flatV vs) := fun {w'} i u h => h.kept (row := some vb) ⟨rfl, rfl, rfl, by simp [World.setCell], fun j _ hne => Below.heap_setCell w' _ u j (fun e => hne (by rw [e]))⟩ (.inr (fun e => hvb.out vb e rfl))
        have HO4 := Lib.hid (own1 2 (.string ⟨#[]⟩) (own1 1 (.int .i64 0) (own1 0 (.int .i64 0) HO3.out)))
        have WV := Lib.hid (show Wv ⟨0, 0, ⟨#[]⟩⟩ from .inr rfl)
        have hw4 := ST3.out.gr.size
        clear own1 ST3 HO3
        have OW := Lib.hid (World.ownsRow.alloc HO4.out (.cells #[.int .i64 0, .int .i64 0, .string ⟨#[]⟩] 64))
        have S5 := Lib.hid ((S4.out.alloc #[.int .i64 0, .int .i64 0, .string ⟨#[]⟩] 64).drop (L' := []) (fun p hp => by cases hp))
        go_wp2_with (at_builtin; refine wpList_append_own _ rfl _ _ 44 rfl W.heap.size 64 i0 _ 3 32 Tryz.underlying44 hi0 hz0 hz1 hz2 rfl (by decide) (.slice VA k vc) k (Hp.flatV vs) rfl OW.out ⟨w3.heap.size, 0, none⟩ 1 1 [.int .i64 0, .int .i64 0, .string ⟨#[]⟩] rfl ?qc1 ?qc2 ?qc3 ?qc4 ?qc5 ?qc6 ?_)
        case qc1 => rfl
        case qc2 =>
          intro j u hj
          have h := news_all (((w3.setCell ⟨vb, 0, none⟩ (.int .i64 0)).setCell ⟨vb, 1, none⟩ (.int .i64 0)).setCell ⟨vb, 2, none⟩ (.string ⟨#[]⟩)) #[.int .i64 0, .int .i64 0, .string ⟨#[]⟩] 64 j u hj
          rw [show ((((w3.setCell ⟨vb, 0, none⟩ (.int .i64 0)).setCell ⟨vb, 1, none⟩ (.int .i64 0)).setCell ⟨vb, 2, none⟩ (.string ⟨#[]⟩))).heap.size = w3.heap.size by first | rfl | simp [World.setCell]] at h
          exact h
        case qc3 => intro u hu; simp at hu; rcases hu with rfl | rfl | rfl <;> rfl
        case qc4 => unfold maxLen; omega
        case qc5 => omega
        case qc6 => rw [World.size_alloc, show ((((w3.setCell ⟨vb, 0, none⟩ (.int .i64 0)).setCell ⟨vb, 1, none⟩ (.int .i64 0)).setCell ⟨vb, 2, none⟩ (.string ⟨#[]⟩))).heap.size = w3.heap.size by first | rfl | simp [World.setCell]]; omega
        intro v' w6 hown hgrow _
        obtain ⟨vA', vc', rfl⟩ := own_slice hown
        have L6 := Lib.hid (show Wi W (w.heap.size + 1) A zs.length c (.slice vA' (k + 1) vc') (k + 1) w6 from ⟨S5.out.append OW.out hgrow (fun p hp => by cases hp) (by decide), vs ++ [⟨0, 0, ⟨#[]⟩⟩], by simp [hvl], (fun v hv => by
          rcases List.mem_append.1 hv with h | h
          · exact HV.out v h
          · obtain rfl : v = ⟨0, 0, ⟨#[]⟩⟩ := by simpa using h
            exact WV.out), by rw [show Hp.flatV (vs ++ [⟨0, 0, ⟨#[]⟩⟩]) = Hp.flatV vs ++ [.int .i64 0, .int .i64 0, .string ⟨#[]⟩] by simp [Hp.flatV]]; exact hown⟩)
        clear hown hgrow OW S5 S4 HO4
        go_wp2_with fail
        go_roundw
        case rel => exact ⟨k + 1, vA', vc', by omega, by go_num, rfl, L6⟩
        case measure => simp [intOf]; omega
      · have hqb : (q == 29) = false := by simpa using hq9
        have S4 := Lib.hid ST3.out
        have HO4 := Lib.hid HO3.out
        have WV := Lib.hid (show Wv ⟨kk, x, s⟩ from .inl hg.out)
        have hw4 := ST3.out.gr.size
        have v0 : w3.cell? ⟨vb, 0, none⟩ = some (.int .i64 kk) := ST3.out.cell _ _ _ (.head _) 0 _ rfl
        have v1 : w3.cell? ⟨vb, 1, none⟩ = some (.int .i64 x) := ST3.out.cell _ _ _ (.head _) 1 _ rfl
        have v2 : w3.cell? ⟨vb, 2, none⟩ = some (.string s) := ST3.out.cell _ _ _ (.head _) 2 _ rfl
        clear ST3 HO3
        have OW := Lib.hid (World.ownsRow.alloc HO4.out (.cells #[.int .i64 kk, .int .i64 x, .string s] 64))
        have S5 := Lib.hid ((S4.out.alloc #[.int .i64 kk, .int .i64 x, .string s] 64).drop (L' := []) (fun p hp => by cases hp))
        go_wp2_with (at_builtin; refine wpList_append_own _ rfl _ _ 44 rfl W.heap.size 64 i0 _ 3 32 Tryz.underlying44 hi0 hz0 hz1 hz2 rfl (by decide) (.slice VA k vc) k (Hp.flatV vs) rfl OW.out ⟨w3.heap.size, 0, none⟩ 1 1 [.int .i64 kk, .int .i64 x, .string s] rfl ?qc1 ?qc2 ?qc3 ?qc4 ?qc5 ?qc6 ?_)
        case qc1 => rfl
        case qc2 =>
          intro j u hj
          have h := news_all w3 #[.int .i64 kk, .int .i64 x, .string s] 64 j u hj
          rw [show (w3).heap.size = w3.heap.size by first | rfl | simp [World.setCell]] at h
          exact h
        case qc3 => intro u hu; simp at hu; rcases hu with rfl | rfl | rfl <;> rfl
        case qc4 => unfold maxLen; omega
        case qc5 => omega
        case qc6 => rw [World.size_alloc, show (w3).heap.size = w3.heap.size by first | rfl | simp [World.setCell]]; omega
        intro v' w6 hown hgrow _
        obtain ⟨vA', vc', rfl⟩ := own_slice hown
        have L6 := Lib.hid (show Wi W (w.heap.size + 1) A zs.length c (.slice vA' (k + 1) vc') (k + 1) w6 from ⟨S5.out.append OW.out hgrow (fun p hp => by cases hp) (by decide), vs ++ [⟨kk, x, s⟩], by simp [hvl], (fun v hv => by
          rcases List.mem_append.1 hv with h | h
          · exact HV.out v h
          · obtain rfl : v = ⟨kk, x, s⟩ := by simpa using h
            exact WV.out), by rw [show Hp.flatV (vs ++ [⟨kk, x, s⟩]) = Hp.flatV vs ++ [.int .i64 kk, .int .i64 x, .string s] by simp [Hp.flatV]]; exact hown⟩)
        clear hown hgrow OW S5 S4 HO4
        go_wp2_with fail
        go_roundw
        case rel => exact ⟨k + 1, vA', vc', by omega, by go_num, rfl, L6⟩
        case measure => simp [intOf]; omega
    · have hki : ¬ (k : Int) < n := by omega
      obtain rfl : k = n := by omega
      obtain ⟨vs, hvl, hvs, hvo⟩ := hM.out.own
      have ST := Lib.hid hM.out.st
      have HV := Lib.hid hvs
      have HO := Lib.hid hvo
      clear hM hvs hvo
      go_wp2_with fail
      go_ret
      exact ⟨vs, VA, vc, rfl, hvl, HV, Lib.hid (below_of1 HB.out ST.out.gr), Lib.hid (own_mono HO.out (by omega))⟩
end Go.Proofs.YtkdpcnikgdbmaaaGreatDoor.Ac
