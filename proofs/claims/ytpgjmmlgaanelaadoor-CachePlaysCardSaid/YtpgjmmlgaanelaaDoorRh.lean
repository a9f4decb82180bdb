/-
  The reference's Forget and Shapes.
-/
import Derived.Test.YtpgjmmlgaanelaaDoorRg
namespace Go.Proofs.YtpgjmmlgaanelaaDoor.Ch
open Go Go.RowKit

theorem infoI : (Tryd.prog.info? 3).map (fun i => (i.zero, i.size, i.bytes)) = some (some (.int .i64 0), 1, 8) := by kernel_rfl
theorem take_next {α : Type} (l : List α) (k : Nat) (h : k < l.length) : l.take (k + 1) = l.take k ++ [l[k]] := by rw [List.take_succ_eq_append_getElem h]
theorem onesI (ns : List Int) : ∀ u ∈ ns.map (Value.int .i64), u.oneCell' = true := by
  intro u hu; obtain ⟨z, _, rfl⟩ := List.mem_map.1 hu; rfl
theorem oneNewI (w : World) (y : Int) : ∀ j u, [Value.int .i64 y][j]? = some u → (w.alloc (.cells #[.int .i64 y] 3)).cell? ((⟨w.heap.size, 0, none⟩ : Addr).add j) = some u := by
  intro j u h
  rcases j with _ | j
  · injection h with h; subst h
    show (w.alloc _).cell? ⟨w.heap.size, 0, none⟩ = _
    rw [World.cell?_alloc_new]; rfl
  · simp at h
theorem OwnI.nil (w : World) (base : Nat) : OwnI w base (.slice none 0 0) [] := World.ownsRow_nil _ _ _ _
theorem OwnI.below {w w' : World} {base C : Nat} {v : Value} {ns : List Int} (h : OwnI w base v ns) (hb : Below C w w') (hC : w.heap.size ≤ C) : OwnI w' base v ns :=
  h.kept (row := none) ⟨hb.os, hb.tape, hb.output, hb.size, fun i hi _ => hb.block i (by omega)⟩ (by cases hv : v.ownBlock <;> simp)
theorem OwnI.ge {w : World} {base : Nat} {v : Value} {ns : List Int} (h : OwnI w base v ns) : ∀ k, v.ownBlock = some k → base ≤ k := fun k hk => (h.lt k hk).1
theorem ownI_snoc {w : World} {base : Nat} {v : Value} {ns : List Int} {y : Int} (h : w.ownsRow base 3 1 v (ns.length + 1) (ns.map (Value.int .i64) ++ [.int .i64 y])) : OwnI w base v (ns ++ [y]) := by
  unfold OwnI
  rw [List.map_append, List.length_append]; exact h
set_option maxRecDepth 100000 in
set_option maxHeartbeats 2000000 in
theorem ref_shapes (w : World) (q : Nat) (t : Ste) (G : Nat → Prop) (h : RefS w q t G) (h4 : t.l.length ≤ 4) :
    Calls Tryd.prog 30 #[.pointer (some ⟨q, 0, none⟩)] w fun e w' => ∃ v, e = .returned v ∧ OwnI w' w.heap.size v t.shapes ∧ Below w.heap.size w w' := by
  obtain ⟨v, h⟩ := h
  obtain ⟨A, c, hv, hA, hc, hrow⟩ := h.form
  have H := Lib.hid h
  have ROW := Lib.hid hrow
  have c0 := h.c0
  have ql := Lib.hid h.c.lt
  rw [hv] at c0
  obtain ⟨i0, hi0, hz0, hz1, hz2⟩ := info_parts infoI
  have LT := Lib.hid h.ownLt
  clear h hrow hv
  go_enter Tryd.func30, Tryd.ntmps30
  go_wp2_with fail
  go_loopw [3, 4] (fun o i wr => ∃ j : Nat, j ≤ t.l.length ∧ i = .int .i64 j ∧ Hid (OwnI wr w.heap.size o (t.shapes.take j)) ∧ Hid (Below w.heap.size w wr)) (fun _ i _ => t.l.length - (intOf i).toNat)
  case atStart => exact ⟨0, by omega, rfl, Lib.hid (OwnI.nil _ _), Lib.hid (Below.refl _ _)⟩
  case round =>
    obtain ⟨j, hj, rfl, ho, hw⟩ := hrel
    have c0 : wr.cell? ⟨q, 0, none⟩ = some (.slice A t.l.length c) := (hw.out.cell (p := ⟨q, 0, none⟩) ql.out).trans c0
    by_cases hlt : j < t.l.length
    · have hg := List.getElem?_eq_getElem hlt
      obtain ⟨g, rfl, hown, r0, r1⟩ := ROW.out j _ hg
      have gl := LT.out g hown
      have r0 : wr.cell? ⟨g, j * 2, none⟩ = some (.int .i64 t.l[j].1) := (hw.out.cell (p := ⟨g, j * 2, none⟩) gl).trans r0
      have hjl : (j : Int) < t.l.length := by omega
      have TN := Lib.hid (show t.shapes.take (j + 1) = t.shapes.take j ++ [t.l[j].1] by
        unfold Ste.shapes
        rw [take_next _ _ (by rw [List.length_map]; exact hlt), List.getElem_map])
      have TL := Lib.hid (show (t.shapes.take j).length = j by unfold Ste.shapes; rw [List.length_take, List.length_map]; omega)
      obtain ⟨x, hx⟩ : ∃ x, t.l[j].1 = x := ⟨_, rfl⟩
      rw [hx] at r0 TN
      obtain ⟨zs, hzs⟩ : ∃ zs, t.shapes.take j = zs := ⟨_, rfl⟩
      rw [hzs] at ho TN TL
      clear hzs
      have HO := Lib.hid (ho.out.alloc (.cells #[.int .i64 x] 3))
      clear hg hown r1 gl hx ho
      go_wp2_with (at_builtin; refine wpList_append_own _ rfl _ _ 40 rfl w.heap.size 3 i0 (.int .i64 0) 1 8 Tryd.underlying40 hi0 hz0 hz1 hz2 rfl (by decide) _ _ _ rfl HO.out ⟨_, 0, none⟩ 1 1 [.int .i64 x] rfl ?qc1 ?qc2 ?qc3 ?qc4 ?qc5 ?qc6 ?_)
      case qc1 => rfl
      case qc2 => exact oneNewI _ _
      case qc3 => exact onesI [x]
      case qc4 => have := TL.out; unfold maxLen; omega
      case qc5 => have := TL.out; omega
      case qc6 => rw [World.size_alloc]; have := hw.out.size; omega
      intro v' w2 hown hgrow _
      have hn := OwnI.ge HO.out
      have HW := Lib.hid (((hw.out.alloc hw.out.size (.cells #[.int .i64 x] 3)).grown hgrow (by rw [World.size_alloc]; have := hw.out.size; omega) hn))
      have HO' := Lib.hid (ownI_snoc hown)
      clear hown hgrow hn
      go_wp2_with fail
      go_roundw
      case rel => exact ⟨j + 1, by omega, by go_num, by rw [TN.out]; exact HO', HW⟩
      case measure => simp [intOf]; omega
    · obtain rfl : j = t.l.length := by omega
      go_wp2_with fail
      go_ret
      exact ⟨_, rfl, by have := ho.out; rw [List.take_of_length_le (by unfold Ste.shapes; rw [List.length_map]; omega)] at this; exact this, hw.out⟩
end Go.Proofs.YtpgjmmlgaanelaaDoor.Ch
