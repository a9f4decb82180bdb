/-
  slices.Clone at entries.
-/
import Derived.Test.YtbpehdpcnnaidaaNe
import Derived.Test.YtbpehdpcnnaidaaRc
import Derived.Laws.MakeOwn
namespace Go.Proofs.Ytbpehdpcnnaidaa.Ac
open Go Go.RowKit

theorem eqlNilE (w : World) (a : Option Addr) (n c n' c' : Nat) : (binOp .eql 45 (.slice a n c) (.slice none n' c')).run Try.prog w = .ok (.bool a.isNone) w := Lib.run_eql_slice_nil w _ _ a n c n' c' Try.underlying45
theorem onesE (es : List En) : ∀ u ∈ es.flatMap En.cells, u.oneCell' = true := by
  intro u hu
  obtain ⟨e, _, h⟩ := List.mem_flatMap.1 hu
  simp [En.cells] at h
  rcases h with rfl | rfl | rfl | rfl | rfl | rfl | rfl <;> rfl
theorem add_lit (g j : Nat) : (⟨g, 0, none⟩ : Addr).add j = ⟨g, j, none⟩ := by unfold Addr.add; split <;> simp_all
theorem Se.flat {w : World} {B : Nat} {ad : Addr} {es : List En} (h : Se w B (some ad) es) : ∀ j u, (es.flatMap En.cells)[j]? = some u → ad.block < B ∧ w.cell? (ad.add j) = some u := by
  intro j u hu
  have hlt : j < es.length * 7 := by rw [← flat_len es]; exact (List.getElem?_eq_some_iff.1 hu).1
  have hq : j / 7 < es.length := by omega
  obtain ⟨g, e, hb, hc⟩ := h (j / 7) _ (List.getElem?_eq_getElem hq)
  injection e with e
  subst e
  refine ⟨hb, ?_⟩
  have hr : j % 7 < 7 := Nat.mod_lt _ (by decide)
  have hj : j / 7 * 7 + j % 7 = j := by omega
  obtain ⟨v, hv⟩ : ∃ v, (es[j / 7]).cells[j % 7]? = some v := ⟨_, List.getElem?_eq_getElem (l := (es[j / 7]).cells) (show j % 7 < (es[j / 7]).cells.length from hr)⟩
  have h1 := hc _ v hv
  have h2 := flat_get es (j / 7) (j % 7) _ v (List.getElem?_eq_getElem hq) hv
  rw [hj] at h1 h2
  rw [h2] at hu
  injection hu with hu
  rw [add_lit, ← hu]; exact h1
theorem cloneE_any (A : Option Addr) (es : List En) (l c B : Nat) (w : World) (hl : es.length = l) (h : Se w B A es) (hB : B ≤ w.heap.size) (hm : l ≤ 1000) :
    Calls Try.prog 22 #[.slice A l c] w fun e w' => ∃ D d, e = .returned (.slice D l d) ∧ Hid (OwnE w' w.heap.size (.slice D l d) es ∧ Below w.heap.size w w') := by
  subst hl
  have q := eqlNilE
  rcases A with _ | ad
  · rcases es with _ | ⟨e, es⟩
    · go_enter Try.func22, Try.ntmps22
      go_wp2
      go_ret
      exact ⟨none, 0, rfl, World.ownsRow_nil _ _ _ _, Below.refl _ _⟩
    · obtain ⟨ad, h0, _⟩ := h 0 e rfl
      cases h0
  · obtain ⟨i0, hi0, hz0, hz1, hz2⟩ := info_parts infoE
    have H := Lib.hid h
    have HO := Lib.hid (onesE es)
    have HL := Lib.hid (flat_len es)
    clear h
    go_enter Try.func22, Try.ntmps22
    go_wp2_with (at_builtin; refine wpList_append_own _ rfl _ _ 45 rfl w.heap.size 54 i0 _ 7 88 Try.underlying45 hi0 hz0 hz1 hz2 rfl (by decide) _ _ _ rfl (World.ownsRow_made w #[] 0 (Nat.le_refl _) (Nat.zero_le _) (by simp)) ad es.length c (es.flatMap En.cells) rfl ?qc1 ?qc2 ?qc3 ?qc4 ?qc5 ?qc6 ?_)
    case qc1 => exact HL.out
    case qc2 =>
      intro j u hj
      obtain ⟨hb, hc⟩ := H.out.flat j u hj
      rw [World.cell?_alloc_lt _ _ _ (by rw [blk_add]; omega)]; exact hc
    case qc3 => exact HO.out
    case qc4 => unfold maxLen; omega
    case qc5 => omega
    case qc6 => simp
    intro v' w1 hown hgrow hnil
    have hown : w1.ownsRow w.heap.size 54 7 v' es.length (es.flatMap En.cells) := by simpa using hown
    obtain ⟨D, d, rfl⟩ := own_slice hown
    have HOW := Lib.hid hown
    have HG := Lib.hid (((Below.refl _ w).alloc (Nat.le_refl _) (.cells #[] 54)).grown hgrow (by simp) (by intro k hk; simp [Value.ownBlock] at hk; omega))
    clear hown hgrow
    go_wp2
    go_ret
    exact ⟨D, d, rfl, HOW.out, HG.out⟩
end Go.Proofs.Ytbpehdpcnnaidaa.Ac
