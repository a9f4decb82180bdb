/-
  slices.Reverse at entries: the entries are the same, in another order.
-/
import Derived.Test.YtbpehdpcnnaidaaNg
import Derived.Test.YtbpehdpcnnaidaaAe
namespace Go.Proofs.Ytbpehdpcnnaidaa.Ac
open Go Go.RowKit

theorem flat_eq (es : List En) (xs : List Value) (hl : xs.length = es.length * 7) (h : ∀ j i e u, es[j]? = some e → e.cells[i]? = some u → xs[j * 7 + i]? = some u) : xs = es.flatMap En.cells := by
  apply List.ext_getElem?
  intro q
  by_cases hq : q < es.length * 7
  · have hj : q / 7 < es.length := by omega
    have hr : q % 7 < 7 := Nat.mod_lt _ (by decide)
    have hh : q / 7 * 7 + q % 7 = q := by omega
    obtain ⟨v, hv⟩ : ∃ v, (es[q / 7]).cells[q % 7]? = some v := ⟨_, List.getElem?_eq_getElem (l := (es[q / 7]).cells) (show q % 7 < (es[q / 7]).cells.length from hr)⟩
    have h1 := h _ _ _ v (List.getElem?_eq_getElem hj) hv
    have h2 := flat_get es _ _ _ v (List.getElem?_eq_getElem hj) hv
    rw [hh] at h1 h2
    rw [h1, h2]
  · rw [List.getElem?_eq_none (by omega), List.getElem?_eq_none (by rw [flat_len]; omega)]
/-- An entry written whole into an own row. -/
theorem own_seven {w : World} {base g cap n : Nat} {es : List En} (hn : es.length = n) (h : w.ownsRow base 54 7 (.slice (some ⟨g, 0, none⟩) n cap) n (es.flatMap En.cells)) (I : Nat) (e : En) (hI : I < n) :
    (((((((w.setCell ⟨g, I * 7, none⟩ (.int .i64 e.id)).setCell ⟨g, I * 7 + 1, none⟩ (.int .i64 e.kind)).setCell ⟨g, I * 7 + 2, none⟩ (.int .i64 e.cls)).setCell ⟨g, I * 7 + 3, none⟩ (.int .i64 e.fn)).setCell ⟨g, I * 7 + 4, none⟩ (.int .i64 e.ten)).setCell ⟨g, I * 7 + 5, none⟩ (.slice e.nA e.nn e.nc)).setCell ⟨g, I * 7 + 6, none⟩ (.slice e.iA e.m e.ic)).ownsRow base 54 7 (.slice (some ⟨g, 0, none⟩) n cap) n ((es.set I e).flatMap En.cells) ∧
    w.grownBy (((((((w.setCell ⟨g, I * 7, none⟩ (.int .i64 e.id)).setCell ⟨g, I * 7 + 1, none⟩ (.int .i64 e.kind)).setCell ⟨g, I * 7 + 2, none⟩ (.int .i64 e.cls)).setCell ⟨g, I * 7 + 3, none⟩ (.int .i64 e.fn)).setCell ⟨g, I * 7 + 4, none⟩ (.int .i64 e.ten)).setCell ⟨g, I * 7 + 5, none⟩ (.slice e.nA e.nn e.nc)).setCell ⟨g, I * 7 + 6, none⟩ (.slice e.iA e.m e.ic)) (some g) := by
  have h0 := World.ownsRow.stored h (I * 7) (.int .i64 e.id)
  have h1 := World.ownsRow.stored h0.1 (I * 7 + 1) (.int .i64 e.kind)
  have h2 := World.ownsRow.stored h1.1 (I * 7 + 2) (.int .i64 e.cls)
  have h3 := World.ownsRow.stored h2.1 (I * 7 + 3) (.int .i64 e.fn)
  have h4 := World.ownsRow.stored h3.1 (I * 7 + 4) (.int .i64 e.ten)
  have h5 := World.ownsRow.stored h4.1 (I * 7 + 5) (.slice e.nA e.nn e.nc)
  have h6 := World.ownsRow.stored h5.1 (I * 7 + 6) (.slice e.iA e.m e.ic)
  have hx := flat_eq (es.set I e) ((((((((es.flatMap En.cells).set (I * 7) (.int .i64 e.id)).set (I * 7 + 1) (.int .i64 e.kind)).set (I * 7 + 2) (.int .i64 e.cls)).set (I * 7 + 3) (.int .i64 e.fn)).set (I * 7 + 4) (.int .i64 e.ten)).set (I * 7 + 5) (.slice e.nA e.nn e.nc)).set (I * 7 + 6) (.slice e.iA e.m e.ic)) (by simp only [List.length_set]; exact flat_len es) (fun j i f u hf hu => by
    have hi : i < 7 := (List.getElem?_eq_some_iff.1 hu).1
    rw [List.getElem?_set] at hf
    have fl := flat_len es
    by_cases hj : I = j
    · subst hj
      rw [if_pos rfl, if_pos (by omega)] at hf
      injection hf with hf
      subst hf
      rcases (show i = 0 ∨ i = 1 ∨ i = 2 ∨ i = 3 ∨ i = 4 ∨ i = 5 ∨ i = 6 by omega) with rfl | rfl | rfl | rfl | rfl | rfl | rfl
      all_goals
        injection hu with hu
        subst hu
        repeat (first | rw [List.getElem?_set_self (by simp only [List.length_set]; omega)] | rw [List.getElem?_set_ne (by omega)])
        try exact List.getElem?_set_self (by omega)
    · rw [if_neg hj] at hf
      have hb := flat_get es j i f u hf hu
      repeat rw [List.getElem?_set_ne (by omega)]
      exact hb)
  refine ⟨?_, (grown_trans (grown_trans (grown_trans (grown_trans (grown_trans (grown_trans h0.2 h1.2) h2.2) h3.2) h4.2) h5.2) h6.2)⟩
  rw [← hx]; exact h6.1
theorem sumOf_set (t : Int) (es : List En) (I : Nat) (e : En) (h : I < es.length) : sumOf t (es.set I e) = sumOf t es - (if (es[I]).ten = t then 16 + 8 * ((es[I]).m : Int) else 0) + (if e.ten = t then 16 + 8 * (e.m : Int) else 0) := by
  induction es generalizing I with
  | nil => simp at h
  | cons d es ih =>
    rcases I with _ | I
    · simp only [List.set_cons_zero, sumOf, List.getElem_cons_zero]; omega
    · simp only [List.set_cons_succ, sumOf, List.getElem_cons_succ]
      rw [ih I (by simpa using h)]; omega
/-- The same entries, as far as sums see them. -/
def Alike (es fs : List En) : Prop := fs.length = es.length ∧ (∀ t, sumOf t fs = sumOf t es) ∧ ∀ f, f ∈ fs → f ∈ es
theorem Alike.refl (es : List En) : Alike es es := ⟨rfl, fun _ => rfl, fun _ h => h⟩
theorem Alike.swap {es fs : List En} (h : Alike es fs) (I J : Nat) (hI : I < fs.length) (hJ : J < fs.length) (hne : I ≠ J) : Alike es ((fs.set I fs[J]).set J fs[I]) := by
  refine ⟨by simp [h.1], fun t => ?_, fun f hf => ?_⟩
  · rw [sumOf_set t _ J _ (by simpa using hJ), sumOf_set t _ I _ hI, ← h.2.1 t]
    rw [List.getElem_set_ne (by omega)]
    omega
  · rcases List.mem_or_eq_of_mem_set hf with hf | rfl
    · rcases List.mem_or_eq_of_mem_set hf with hf | rfl
      · exact h.2.2 f hf
      · exact h.2.2 _ (List.getElem_mem _)
    · exact h.2.2 _ (List.getElem_mem _)
/-- How a call of Reverse ends. -/
def RevTo (base : Nat) (v : Value) (es : List En) (g : Nat) (w : World) (e : Ending) (w' : World) : Prop := e = .returned (.tuple #[]) ∧ ∃ fs, Alike es fs ∧ OwnE w' base v fs ∧ w.grownBy w' (some g)
set_option maxRecDepth 10000 in
set_option maxHeartbeats 8000000 in
theorem reverse_some (g c n base : Nat) (es : List En) (w : World) (hn : es.length = n) (h1 : 1 ≤ n) (hm : n ≤ 1000) (h : OwnE w base (.slice (some ⟨g, 0, none⟩) n c) es) :
    Calls Try.prog 23 #[.slice (some ⟨g, 0, none⟩) n c] w (RevTo base (.slice (some ⟨g, 0, none⟩) n c) es g w) := by
  have HO := Lib.hid h
  have HG := Lib.hid (World.grownBy.refl w (some g))
  have HAL := Lib.hid (Alike.refl es)
  have HN := Lib.hid hn
  clear h hn
  go_enter Try.func23, Try.ntmps23
  go_wp2_with fail
  go_loopw [2, 3] (fun i j wr => ∃ k J : Nat, Hid (k + J + 1 = n) ∧ i = .int .i64 k ∧ j = .int .i64 J ∧ k ≤ n ∧ J ≤ n ∧ ∃ fs, Hid (Alike es fs) ∧ Hid (OwnE wr base (.slice (some ⟨g, 0, none⟩) n c) fs) ∧ Hid (w.grownBy wr (some g))) (fun _ j _ => (intOf j).toNat)
  case atStart => exact ⟨0, n - 1, Lib.hid (by omega), rfl, by rw [show ((n - 1 : Nat) : Int) = n - 1 by omega], by omega, by omega, es, HAL, HO, HG⟩
  case round =>
    clear HO HG HAL
    obtain ⟨k, J, hkJ, rfl, rfl, hk, hJ, fs, HAL, HO, HG⟩ := hrel
    by_cases hlt : k < J
    · have hlt' : (k : Int) < J := by omega
      have hkn : k < n := by omega
      have hJn : J < n := by have := hkJ.out; omega
      have hkn' : (k : Int) < n := by omega
      have hJn' : (J : Int) < n := by omega
      have hL : fs.length = n := HAL.out.1.trans HN.out
      obtain ⟨ek, hek⟩ : ∃ e, fs[k]'(by omega) = e := ⟨_, rfl⟩
      obtain ⟨ej, hej⟩ : ∃ e, fs[J]'(by omega) = e := ⟨_, rfl⟩
      have ho : wr.ownsRow base 54 7 (.slice (some ⟨g, 0, none⟩) n c) n (fs.flatMap En.cells) := by have h := HO.out; unfold OwnE at h; rw [hL] at h; exact h
      have hc : ∀ q e, fs[q]? = some e → ∀ i u, e.cells[i]? = some u → wr.cell? ⟨g, q * 7 + i, none⟩ = some u := fun q e he i u hu => by
        have hq := (List.getElem?_eq_some_iff.1 he).1
        have hi : i < 7 := (List.getElem?_eq_some_iff.1 hu).1
        rw [World.ownsRow.cellAt ho _ (by omega)]; exact flat_get fs q i e u he hu
      have gk : fs[k]? = some ek := by rw [← hek]; exact List.getElem?_eq_getElem _
      have gj : fs[J]? = some ej := by rw [← hej]; exact List.getElem?_eq_getElem _
      have a0 := hc k ek gk 0 _ rfl
      have b0 := hc J ej gj 0 _ rfl
      have f0 := World.ownsRow.frozenAt ho (k * 7 + 0)
      have q0 := World.ownsRow.frozenAt ho (J * 7 + 0)
      have a1 := hc k ek gk 1 _ rfl
      have b1 := hc J ej gj 1 _ rfl
      have f1 := World.ownsRow.frozenAt ho (k * 7 + 1)
      have q1 := World.ownsRow.frozenAt ho (J * 7 + 1)
      have a2 := hc k ek gk 2 _ rfl
      have b2 := hc J ej gj 2 _ rfl
      have f2 := World.ownsRow.frozenAt ho (k * 7 + 2)
      have q2 := World.ownsRow.frozenAt ho (J * 7 + 2)
      have a3 := hc k ek gk 3 _ rfl
      have b3 := hc J ej gj 3 _ rfl
      have f3 := World.ownsRow.frozenAt ho (k * 7 + 3)
      have q3 := World.ownsRow.frozenAt ho (J * 7 + 3)
      have a4 := hc k ek gk 4 _ rfl
      have b4 := hc J ej gj 4 _ rfl
      have f4 := World.ownsRow.frozenAt ho (k * 7 + 4)
      have q4 := World.ownsRow.frozenAt ho (J * 7 + 4)
      have a5 := hc k ek gk 5 _ rfl
      have b5 := hc J ej gj 5 _ rfl
      have f5 := World.ownsRow.frozenAt ho (k * 7 + 5)
      have q5 := World.ownsRow.frozenAt ho (J * 7 + 5)
      have a6 := hc k ek gk 6 _ rfl
      have b6 := hc J ej gj 6 _ rfl
      have f6 := World.ownsRow.frozenAt ho (k * 7 + 6)
      have q6 := World.ownsRow.frozenAt ho (J * 7 + 6)
      have O1 := own_seven hL ho k ej hkn
      have O2 := own_seven (es := fs.set k ej) (by simp [hL]) O1.1 J ek hJn
      have HO2 := Lib.hid O2
      have HO1 := Lib.hid O1.2
      have hgs : g < wr.heap.size := (ho.lt g rfl).2
      have HSW := Lib.hid (show Alike es ((fs.set k ej).set J ek) by
        have h := HAL.out.swap k J (by omega) (by omega) (by omega)
        rw [hek, hej] at h; exact h)
      have HO3 := Lib.hid HO2.out.1
      have HG3 := Lib.hid (grown_trans HG.out (grown_trans HO1.out HO2.out.2))
      clear O1 O2 HO1 HO2 HO HG ho hc gk gj hek hej hL
      simp only [Nat.add_zero] at a0 b0 f0 q0
      go_wp2_with fail
      go_region
      generalize ((((((((((((((wr.setCell ⟨g, k * 7, none⟩ (.int .i64 ej.id)).setCell ⟨g, k * 7 + 1, none⟩ (.int .i64 ej.kind)).setCell ⟨g, k * 7 + 2, none⟩ (.int .i64 ej.cls)).setCell ⟨g, k * 7 + 3, none⟩ (.int .i64 ej.fn)).setCell ⟨g, k * 7 + 4, none⟩ (.int .i64 ej.ten)).setCell ⟨g, k * 7 + 5, none⟩ (.slice ej.nA ej.nn ej.nc)).setCell ⟨g, k * 7 + 6, none⟩ (.slice ej.iA ej.m ej.ic)).setCell ⟨g, J * 7, none⟩ (.int .i64 ek.id)).setCell ⟨g, J * 7 + 1, none⟩ (.int .i64 ek.kind)).setCell ⟨g, J * 7 + 2, none⟩ (.int .i64 ek.cls)).setCell ⟨g, J * 7 + 3, none⟩ (.int .i64 ek.fn)).setCell ⟨g, J * 7 + 4, none⟩ (.int .i64 ek.ten)).setCell ⟨g, J * 7 + 5, none⟩ (.slice ek.nA ek.nn ek.nc)).setCell ⟨g, J * 7 + 6, none⟩ (.slice ek.iA ek.m ek.ic)) = wz at HO3 HG3 ⊢
      clear a0 a1 a2 a3 a4 a5 a6 b0 b1 b2 b3 b4 b5 b6 f0 f1 f2 f3 f4 f5 f6 q0 q1 q2 q3 q4 q5 q6
      have hJ1 : 1 ≤ J := by omega
      have HN3 := Lib.hid (HSW.out.1.trans HN.out)
      have HO4 := Lib.hid (show OwnE wz.drew base (.slice (some ⟨g, 0, none⟩) n c) ((fs.set k ej).set J ek) by unfold OwnE; rw [HN3.out]; exact HO3.out)
      have HG4 := Lib.hid (show w.grownBy wz.drew (some g) from only_drewN HG3.out 1)
      go_wp2_with fail
      go_roundw
      case rel => exact ⟨k + 1, J - 1, Lib.hid (by have := hkJ.out; omega), by go_num, by rw [show ((J - 1 : Nat) : Int) = J - 1 by omega], by omega, by omega, (fs.set k ej).set J ek, HSW, HO4, HG4⟩
      case measure => simp [intOf]; omega
    · have hge : (J : Int) ≤ k := by omega
      go_wp2_with fail
      go_end0
      exact ⟨rfl, fs, HAL.out, HO.out, HG.out⟩
theorem reverse_any (D : Option Addr) (c n base : Nat) (es : List En) (w : World) (hn : es.length = n) (hm : n ≤ 1000) (h : OwnE w base (.slice D n c) es) (hb : base ≤ w.heap.size) :
    Calls Try.prog 23 #[.slice D n c] w fun e w' => e = .returned (.tuple #[]) ∧ ∃ fs, Hid (Alike es fs ∧ OwnE w' base (.slice D n c) fs ∧ Below base w w') := by
  rcases Nat.eq_zero_or_pos n with h0 | h0
  · subst h0
    have HO := Lib.hid h
    clear h
    go_enter Try.func23, Try.ntmps23
    go_wp2_with fail
    go_loopw [2, 3] (fun i j wr => i = .int .i64 0 ∧ j = .int .i64 (-1) ∧ At wr w) (fun _ _ _ => 0)
    case atStart => exact ⟨rfl, rfl, rfl⟩
    case round =>
      obtain ⟨rfl, rfl, hw⟩ := hrel
      obtain rfl : wr = w := hw
      go_wp2_with fail
      go_end0
      exact ⟨rfl, es, Alike.refl es, HO.out, Below.refl _ _⟩
  · have ho := h
    unfold OwnE at ho
    rw [hn] at ho
    obtain ⟨g, cap, e, hbg, hg⟩ := World.ownsRow.form ho h0
    simp only [Value.slice.injEq] at e
    obtain ⟨rfl, _, _⟩ := e
    refine (reverse_some g c n base es w hn h0 hm h).mono ?_
    rintro e w' ⟨rfl, fs, h1, h2, h3⟩
    exact ⟨rfl, fs, h1, h2, h3.os, h3.tape, h3.output, h3.size, fun i hi => h3.block i (by omega) (fun e => by injection e with e; omega)⟩
end Go.Proofs.Ytbpehdpcnnaidaa.Ac
