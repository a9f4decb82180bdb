/-
  The landed site: Shapes.
-/
import Derived.Test.YtpgjmmlgaanelaaDoorSb
import Derived.Test.YtpgjmmlgaanelaaDoorRh
namespace Go.Proofs.YtpgjmmlgaanelaaDoor.Ch
open Go Go.RowKit

section
variable {p : Nat} {t : Ste} {F : Nat → Prop}
set_option maxRecDepth 100000 in
set_option maxHeartbeats 2000000 in
theorem code_shapes (w : World) (h : SiteAt w p t F) (h4 : t.l.length ≤ 4) :
    Calls Tryd.prog 19 #[.pointer (some ⟨p, 0, none⟩)] w fun e w' => ∃ v, e = .returned v ∧ OwnI w' w.heap.size v t.shapes ∧ Below w.heap.size w w' := by
  have H := Lib.hid h
  have KN := Lib.hid (code_known w h h4)
  have pl := Lib.hid h.c.lt
  obtain ⟨i0, hi0, hz0, hz1, hz2⟩ := info_parts infoI
  clear h
  go_enter Tryd.func19, Tryd.ntmps19
  go_wp2_with fail
  refine KN.out.mono ?_
  rintro e w1 ⟨rfl, rfl⟩
  go_wp2_with fail
  go_loopw [3, 9] (fun o i wr => ∃ j : Nat, j ≤ t.l.length ∧ i = .int .i64 j ∧ Hid (OwnI wr w.heap.size o (t.shapes.take j)) ∧ Hid (Below w.heap.size w wr)) (fun _ i _ => t.l.length - (intOf i).toNat)
  case atStart => exact ⟨0, by omega, rfl, Lib.hid (OwnI.nil _ _), Lib.hid ⟨rfl, rfl, rfl, Nat.le_refl _, fun _ _ => rfl⟩⟩
  case round =>
    obtain ⟨j, hj, rfl, ho, hw⟩ := hrel
    by_cases hlt : j < t.l.length
    · have hg := List.getElem?_eq_getElem hlt
      obtain ⟨r0, r1⟩ := row_at hg
      have r0 : wr.cell? ⟨p, j * 2, none⟩ = some (.int .i64 t.l[j].1) := (hw.out.cell (p := ⟨p, j * 2, none⟩) pl.out).trans (H.out.c.cell _ _ r0)
      have r1 : wr.cell? ⟨p, j * 2 + 1, none⟩ = some (.int .i64 t.l[j].2) := (hw.out.cell (p := ⟨p, j * 2 + 1, none⟩) pl.out).trans (H.out.c.cell _ _ r1)
      have hjl : (j : Int) < t.l.length := by omega
      have TN := Lib.hid (show t.shapes.take (j + 1) = t.shapes.take j ++ [t.l[j].1] by
        unfold Ste.shapes
        rw [take_next _ _ (by rw [List.length_map]; exact hlt), List.getElem_map])
      have TL := Lib.hid (show (t.shapes.take j).length = j by unfold Ste.shapes; rw [List.length_take, List.length_map]; omega)
      obtain ⟨x, hx⟩ : ∃ x, t.l[j].1 = x := ⟨_, rfl⟩
      obtain ⟨y, hy⟩ : ∃ y, t.l[j].2 = y := ⟨_, rfl⟩
      rw [hx] at r0 TN
      rw [hy] at r1
      obtain ⟨zs, hzs⟩ : ∃ zs, t.shapes.take j = zs := ⟨_, rfl⟩
      rw [hzs] at ho TN TL
      clear hzs
      have zw := hw.out.size
      have HO := Lib.hid ((ho.out.alloc (.cells #[.int .i64 x, .int .i64 y] 54)).alloc (.cells #[.int .i64 x] 3))
      clear hg hx hy ho
      go_wp2_with (at_builtin; refine wpList_append_own _ rfl _ _ 40 rfl w.heap.size 3 i0 (.int .i64 0) 1 8 Tryd.underlying40 hi0 hz0 hz1 hz2 rfl (by decide) _ _ _ rfl HO.out ⟨_, 0, none⟩ 1 1 [.int .i64 x] rfl ?qc1 ?qc2 ?qc3 ?qc4 ?qc5 ?qc6 ?_)
      case qc1 => rfl
      case qc2 =>
        have h := oneNewI (wr.alloc (.cells #[.int .i64 x, .int .i64 y] 54)) x
        rw [World.size_alloc] at h
        exact h
      case qc3 => exact onesI [x]
      case qc4 => have := TL.out; unfold maxLen; omega
      case qc5 => have := TL.out; omega
      case qc6 => rw [World.size_alloc, World.size_alloc]; omega
      intro v' w2 hown hgrow _
      have hn := OwnI.ge HO.out
      have HW := Lib.hid ((((hw.out.alloc hw.out.size (.cells #[.int .i64 x, .int .i64 y] 54)).alloc (by rw [World.size_alloc]; omega) (.cells #[.int .i64 x] 3)).grown hgrow (by rw [World.size_alloc, World.size_alloc]; omega) hn))
      have HO' := Lib.hid (ownI_snoc hown)
      clear hown hgrow hn
      go_wp2_with fail
      go_roundw
      case rel => exact ⟨j + 1, by omega, by go_num, by rw [TN.out]; exact HO', HW⟩
      case measure => simp [intOf]; omega
    · obtain rfl : j = t.l.length := by omega
      go_wp2_with fail
      go_ret
      exact ⟨_, rfl, by have := ho.out; rw [List.take_of_length_le (by unfold Ste.shapes; rw [List.length_map]; omega)] at this; exact this, hw.out⟩
end
end Go.Proofs.YtpgjmmlgaanelaaDoor.Ch
