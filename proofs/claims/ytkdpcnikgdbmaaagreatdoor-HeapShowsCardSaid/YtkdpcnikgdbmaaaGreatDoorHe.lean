/-
  slices.Clone at rows of values and at rows of names; duplicate.
-/
import Derived.Test.YtkdpcnikgdbmaaaGreatDoorHc
import Derived.Laws.MakeOwn
import Derived.Laws.AppendOwn
import Derived.Laws.OwnMore
namespace Go.Proofs.YtkdpcnikgdbmaaaGreatDoor.Hp
open Go Go.RowKit Go.Maps Va

theorem infoV : (Tryz.prog.info? 64).map (fun i => (i.zero, i.size, i.bytes)) = some (some (.agg #[.int .i64 0, .int .i64 0, .string ⟨#[]⟩]), 3, 32) := by kernel_rfl
theorem infoS : (Tryz.prog.info? 9).map (fun i => (i.zero, i.size, i.bytes)) = some (some (.string ⟨#[]⟩), 1, 16) := by kernel_rfl
theorem eqlNilV (w : World) (a : Option Addr) (n c n' c' : Nat) : (binOp .eql 44 (.slice a n c) (.slice none n' c')).run Tryz.prog w = .ok (.bool a.isNone) w := Lib.run_eql_slice_nil w _ _ a n c n' c' Tryz.underlying44
theorem eqlNilS (w : World) (a : Option Addr) (n c n' c' : Nat) : (binOp .eql 43 (.slice a n c) (.slice none n' c')).run Tryz.prog w = .ok (.bool a.isNone) w := Lib.run_eql_slice_nil w _ _ a n c n' c' Tryz.underlying43
theorem add_at (g o j : Nat) : (⟨g, o, none⟩ : Addr).add j = ⟨g, o + j, none⟩ := by unfold Addr.add; split <;> simp_all
theorem blk_add (ad : Addr) (j : Nat) : (ad.add j).block = ad.block := by unfold Addr.add; split <;> rfl
theorem flatV_len (l : List Val) : (flatV l).length = l.length * 3 := by
  induction l with
  | nil => rfl
  | cons v l ih => rw [show flatV (v :: l) = [.int .i64 v.k, .int .i64 v.n, .string v.s] ++ flatV l from rfl, List.length_append, ih]; simp; omega
theorem flatV_at (l : List Val) : ∀ (q : Nat) (v : Val), l[q]? = some v → (flatV l)[q * 3]? = some (.int .i64 v.k) ∧ (flatV l)[q * 3 + 1]? = some (.int .i64 v.n) ∧ (flatV l)[q * 3 + 2]? = some (.string v.s) := by
  induction l with
  | nil => intro q v h; cases h
  | cons x l ih =>
    intro q v h
    rw [show flatV (x :: l) = [.int .i64 x.k, .int .i64 x.n, .string x.s] ++ flatV l from rfl]
    rcases q with _ | q
    · obtain rfl : x = v := by simpa using h
      exact ⟨rfl, rfl, rfl⟩
    · have := ih q v (by simpa using h)
      have e : ∀ i, ([Value.int .i64 x.k, .int .i64 x.n, .string x.s] ++ flatV l)[(q + 1) * 3 + i]? = (flatV l)[q * 3 + i]? := fun i => by
        rw [List.getElem?_append_right (by simp; omega)]; congr 1; simp; omega
      exact ⟨(e 0).trans this.1, (e 1).trans this.2.1, (e 2).trans this.2.2⟩
theorem onesV (l : List Val) : ∀ u ∈ flatV l, u.oneCell' = true := by
  intro u hu
  obtain ⟨e, _, h⟩ := List.mem_flatMap.1 hu
  simp at h
  rcases h with rfl | rfl | rfl <;> rfl
theorem onesS (ns : List ByteArray) : ∀ u ∈ ns.map Value.string, u.oneCell' = true := by
  intro u hu
  obtain ⟨e, _, rfl⟩ := List.mem_map.1 hu
  rfl
theorem ValsAt.flat {w : World} {P : Nat → Prop} {ad : Addr} {l : List Val} (h : ValsAt w P (some ad) l) : ∀ j u, (flatV l)[j]? = some u → P ad.block ∧ w.cell? (ad.add j) = some u := by
  intro j u hu
  have hlt : j < l.length * 3 := by rw [← flatV_len l]; exact (List.getElem?_eq_some_iff.1 hu).1
  have hq : j / 3 < l.length := by omega
  have hv := List.getElem?_eq_getElem hq
  obtain ⟨b, o, e, hb, c0, c1, c2⟩ := h (j / 3) _ hv
  injection e with e
  subst e
  refine ⟨hb, ?_⟩
  obtain ⟨f0, f1, f2⟩ := flatV_at l _ _ hv
  rw [add_at]
  have hr : j % 3 < 3 := Nat.mod_lt _ (by decide)
  have hj : j = j / 3 * 3 + j % 3 := by omega
  clear hlt
  generalize l[j / 3] = v at *
  generalize j / 3 = q at *
  generalize j % 3 = r at *
  subst hj
  rcases (show r = 0 ∨ r = 1 ∨ r = 2 by omega) with rfl | rfl | rfl
  · rw [Nat.add_zero] at *
    rw [f0] at hu; rw [← hu]; exact c0
  · rw [f1] at hu; rw [← hu]; exact c1
  · rw [f2] at hu; rw [← hu]; exact c2
theorem SlS.flat {w : World} {P : Nat → Prop} {ad : Addr} {l : List ByteArray} (h : SlS w P (some ad) l) : ∀ j u, (l.map Value.string)[j]? = some u → P ad.block ∧ w.cell? (ad.add j) = some u := by
  intro j u hu
  rw [List.getElem?_map, Option.map_eq_some_iff] at hu
  obtain ⟨z, hz, rfl⟩ := hu
  obtain ⟨b, o, e, hb, hc⟩ := h j z hz
  injection e with e
  subst e
  rw [add_at]
  exact ⟨hb, hc⟩
theorem own_slice {w : World} {base : Nat} {e : TypeId} {size n : Nat} {v : Value} {xs : List Value} (h : w.ownsRow base e size v n xs) : ∃ A c, v = .slice A n c := by
  rcases h.2 with ⟨rfl, h0⟩ | ⟨g, cap, cur, rfl, _⟩
  · exact ⟨none, 0, by rw [h0]⟩
  · exact ⟨_, _, rfl⟩
set_option maxHeartbeats 1000000 in
theorem cloneV_any (P : Nat → Prop) (A : Option Addr) (l : List Val) (n c : Nat) (w : World) (hn : l.length = n) (h : ValsAt w P A l) (hP : ∀ b, P b → b < w.heap.size) (hm : n ≤ 4398046511104) :
    Calls Tryz.prog 92 #[.slice A n c] w fun e w' => ∃ D d, e = .returned (.slice D n d) ∧ Hid (w'.ownsRow w.heap.size 64 3 (.slice D n d) n (flatV l) ∧ Below w.heap.size w w') := by
  subst hn
  have q := eqlNilV
  rcases A with _ | ad
  · rcases l with _ | ⟨e, l⟩
    · go_enter Tryz.func92, Tryz.ntmps92
      go_wp2
      go_ret
      exact ⟨none, 0, rfl, World.ownsRow_nil _ _ _ _, Below.refl _ _⟩
    · obtain ⟨_, _, h0, _⟩ := h 0 e rfl
      cases h0
  · obtain ⟨i0, hi0, hz0, hz1, hz2⟩ := info_parts infoV
    have H := Lib.hid h
    have HP := Lib.hid hP
    have HO := Lib.hid (onesV l)
    have HL := Lib.hid (flatV_len l)
    clear h hP
    go_enter Tryz.func92, Tryz.ntmps92
    go_wp2_with (at_builtin; refine wpList_append_own _ rfl _ _ 44 rfl w.heap.size 64 i0 _ 3 32 Tryz.underlying44 hi0 hz0 hz1 hz2 rfl (by decide) _ _ _ rfl (World.ownsRow_made w #[] 0 (Nat.le_refl _) (Nat.zero_le _) (by simp)) ad l.length c (flatV l) rfl ?qc1 ?qc2 ?qc3 ?qc4 ?qc5 ?qc6 ?_)
    case qc1 => exact HL.out
    case qc2 =>
      intro j u hj
      obtain ⟨hb, hc⟩ := H.out.flat j u hj
      rw [World.cell?_alloc_lt _ _ _ (by rw [blk_add]; exact HP.out _ hb)]; exact hc
    case qc3 => exact HO.out
    case qc4 => unfold maxLen; omega
    case qc5 => omega
    case qc6 => simp
    intro v' w1 hown hgrow hnil
    have hown : w1.ownsRow w.heap.size 64 3 v' l.length (flatV l) := by simpa using hown
    obtain ⟨D, d, rfl⟩ := own_slice hown
    have HOW := Lib.hid hown
    have HG := Lib.hid (((Below.refl _ w).alloc (Nat.le_refl _) (.cells #[] 64)).grown hgrow (by simp) (by intro k hk; simp [Value.ownBlock] at hk; omega))
    clear hown hgrow
    go_wp2
    go_ret
    exact ⟨D, d, rfl, HOW.out, HG.out⟩
set_option maxHeartbeats 1000000 in
theorem cloneS_any (P : Nat → Prop) (A : Option Addr) (l : List ByteArray) (n c : Nat) (w : World) (hn : l.length = n) (h : SlS w P A l) (hP : ∀ b, P b → b < w.heap.size) (hm : n ≤ 4398046511104) :
    Calls Tryz.prog 91 #[.slice A n c] w fun e w' => ∃ D d, e = .returned (.slice D n d) ∧ Hid (w'.ownsRow w.heap.size 9 1 (.slice D n d) n (l.map Value.string) ∧ Below w.heap.size w w') := by
  subst hn
  have q := eqlNilS
  rcases A with _ | ad
  · rcases l with _ | ⟨e, l⟩
    · go_enter Tryz.func91, Tryz.ntmps91
      go_wp2
      go_ret
      exact ⟨none, 0, rfl, World.ownsRow_nil _ _ _ _, Below.refl _ _⟩
    · obtain ⟨_, _, h0, _⟩ := h 0 e rfl
      cases h0
  · obtain ⟨i0, hi0, hz0, hz1, hz2⟩ := info_parts infoS
    have H := Lib.hid h
    have HP := Lib.hid hP
    have HO := Lib.hid (onesS l)
    have HL := Lib.hid (show (l.map Value.string).length = l.length * 1 by simp)
    clear h hP
    go_enter Tryz.func91, Tryz.ntmps91
    go_wp2_with (at_builtin; refine wpList_append_own _ rfl _ _ 43 rfl w.heap.size 9 i0 _ 1 16 Tryz.underlying43 hi0 hz0 hz1 hz2 rfl (by decide) _ _ _ rfl (World.ownsRow_made w #[] 0 (Nat.le_refl _) (Nat.zero_le _) (by simp)) ad l.length c (l.map Value.string) rfl ?qc1 ?qc2 ?qc3 ?qc4 ?qc5 ?qc6 ?_)
    case qc1 => exact HL.out
    case qc2 =>
      intro j u hj
      obtain ⟨hb, hc⟩ := H.out.flat j u hj
      rw [World.cell?_alloc_lt _ _ _ (by rw [blk_add]; exact HP.out _ hb)]; exact hc
    case qc3 => exact HO.out
    case qc4 => unfold maxLen; omega
    case qc5 => omega
    case qc6 => simp
    intro v' w1 hown hgrow hnil
    have hown : w1.ownsRow w.heap.size 9 1 v' l.length (l.map Value.string) := by simpa using hown
    obtain ⟨D, d, rfl⟩ := own_slice hown
    have HOW := Lib.hid hown
    have HG := Lib.hid (((Below.refl _ w).alloc (Nat.le_refl _) (.cells #[] 9)).grown hgrow (by simp) (by intro k hk; simp [Value.ownBlock] at hk; omega))
    clear hown hgrow
    go_wp2
    go_ret
    exact ⟨D, d, rfl, HOW.out, HG.out⟩
end Go.Proofs.YtkdpcnikgdbmaaaGreatDoor.Hp
