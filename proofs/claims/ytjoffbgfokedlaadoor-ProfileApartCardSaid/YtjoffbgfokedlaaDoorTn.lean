/-
  The landed profile: numbers, Decisions.
-/
import Derived.Test.YtjoffbgfokedlaaDoorSb
import Derived.Test.YtjoffbgfokedlaaDoorSc
import Derived.Test.YtjoffbgfokedlaaDoorSe
import Derived.Laws.MakeOwn
namespace Go.Proofs.YtjoffbgfokedlaaDoor.Pf
open Go Go.RowKit

def OwnB (w : World) (base : Nat) (v : Value) (xs : List ByteArray) : Prop := w.ownsRow base 9 1 v xs.length (xs.map Value.string)
theorem infoB : (Tryd.prog.info? 9).map (fun i => (i.zero, i.size, i.bytes)) = some (some (.string ⟨#[]⟩), 1, 16) := by kernel_rfl
theorem take_next {α : Type} (l : List α) (j : Nat) (h : j < l.length) : l.take (j + 1) = l.take j ++ [l[j]] := by rw [List.take_succ_eq_append_getElem h]
theorem add0 (g j : Nat) : (⟨g, 0, none⟩ : Addr).add j = ⟨g, j, none⟩ := by unfold Addr.add; split <;> simp_all
set_option maxRecDepth 100000 in
set_option maxHeartbeats 2000000 in
theorem numbers_any (g n c : Nat) (ns : List Int) (w : World) (hn : ns.length = n) (n1 : 1 ≤ n) (n8 : n ≤ 8) (hb : ∀ (j : Nat) x, ns[j]? = some x → w.cell? ⟨g, j, none⟩ = some (.int .i64 x)) (hg : g < w.heap.size) (hi : ∀ x ∈ ns, I64 x) (hG : Pw w) :
    Calls Tryd.prog 38 #[.slice (some ⟨g, 0, none⟩) n c] w fun e w' => e = .returned (.string (bsL (Lib.join (ns.map numT) [32]))) ∧ Below w.heap.size w w' := by
  obtain ⟨i0, hi0, hz0, hz1, hz2⟩ := info_parts infoB
  have HB := Lib.hid hb
  have HI := Lib.hid hi
  have HG := Lib.hid hG
  have HN := Lib.hid hn
  have n0 : (0 : Int) ≤ n := by omega
  clear hb hi hG hn
  go_enter Tryd.func38, Tryd.ntmps38
  go_wp2_with fail
  go_loopw [3, 8] (fun o i wr => ∃ j : Nat, j ≤ n ∧ i = .int .i64 j ∧ Hid (OwnB wr w.heap.size o ((ns.take j).map fun x => bsL (numT x))) ∧ Hid (Below w.heap.size w wr)) (fun _ i _ => n - (intOf i).toNat)
  case atStart => exact ⟨0, by omega, rfl, Lib.hid (World.ownsRow_nil _ _ _ _), Lib.hid (Below.refl _ _)⟩
  case round =>
    obtain ⟨j, hj, rfl, ho, hw⟩ := hrel
    by_cases hlt : j < n
    · have hg' := List.getElem?_eq_getElem (l := ns) (i := j) (by rw [HN.out]; exact hlt)
      have HX := Lib.hid (HI.out _ (List.getElem_mem (l := ns) (n := j) (by rw [HN.out]; exact hlt)))
      have r0 : wr.cell? ⟨g, j, none⟩ = some (.int .i64 (ns[j]'(by rw [HN.out]; exact hlt))) := (hw.out.cell (p := ⟨g, j, none⟩) hg).trans (HB.out j _ hg')
      have TN := Lib.hid (show (ns.take (j + 1)).map (fun x => bsL (numT x)) = (ns.take j).map (fun x => bsL (numT x)) ++ [bsL (numT (ns[j]'(by rw [HN.out]; exact hlt)))] by rw [take_next _ _ (by rw [HN.out]; exact hlt), List.map_append]; rfl)
      have TL := Lib.hid (show ((ns.take j).map (fun x => bsL (numT x))).length ≤ 8 by rw [List.length_map, List.length_take]; omega)
      obtain ⟨x, hx⟩ : ∃ x, ns[j]'(by rw [HN.out]; exact hlt) = x := ⟨_, rfl⟩
      rw [hx] at r0 TN HX
      obtain ⟨zs, hzs⟩ : ∃ zs, (ns.take j).map (fun x => bsL (numT x)) = zs := ⟨_, rfl⟩
      rw [hzs] at ho TN TL
      have hjl : (j : Int) < n := by omega
      have zw := hw.out.size
      clear hg' hx hzs
      go_wp2_with fail
      refine (itoa_c x HX.out wr (HG.out.below hw.out)).mono ?_
      rintro e w3 ⟨rfl, hb⟩
      have HB3 := Lib.hid (hw.out.trans (hb.mono hw.out.size))
      have HO3 := Lib.hid (show OwnB w3 w.heap.size _ zs from World.ownsRow.kept (row := none) ho.out ⟨hb.os, hb.tape, hb.output, hb.size, fun i hi _ => hb.block i hi⟩ (by cases hv : u3.ownBlock <;> simp))
      have z3 := hb.size
      clear hb ho hw
      go_wp2_with (at_builtin; refine wpList_append_own _ rfl _ _ 73 rfl w.heap.size 9 i0 (.string ⟨#[]⟩) 1 16 Tryd.underlying73 hi0 hz0 hz1 hz2 rfl (by decide) _ _ _ rfl (HO3.out.alloc _) ⟨w3.heap.size, 0, none⟩ 1 1 [.string (bsL (numT x))] rfl rfl (World.news_of_block (cs := #[.string (bsL (numT x))]) (t := 9) (fr := (0, 0)) (heap_alloc_new w3 _)) (by simp [Value.oneCell']) (by have := TL.out; unfold maxLen; omega) (by have := TL.out; omega) (by simp; omega) ?_; intro v' w1 hown hgrow _; have HO := Lib.hid (show OwnB w1 w.heap.size v' ((ns.take (j + 1)).map fun x => bsL (numT x)) from (by rw [TN.out]; unfold OwnB; rw [List.length_append, List.map_append]; exact hown)); have HB1 := Lib.hid (show Below w.heap.size w w1 from (HB3.out.alloc HB3.out.size (.cells #[.string (bsL (numT x))] 9)).grown hgrow (by have := HB3.out.size; simp; omega) (fun k hk => (HO3.out.lt k hk).1)); clear hown hgrow)
      go_roundw
      case rel => exact ⟨j + 1, by omega, by go_num, HO, HB1⟩
      case measure => simp [intOf]; omega
    · obtain rfl : j = n := by omega
      rw [List.take_of_length_le (by rw [HN.out]; exact Nat.le_refl _)] at ho
      rcases ho.out.2 with ⟨hv, h0⟩ | ⟨g', cap, cur, hv, hb', hg', h1, h2, h3, h4⟩
      · rw [List.length_map, HN.out] at h0; omega
      · have CE := Lib.hid (fun (i : Nat) (y : ByteArray) (hy : (ns.map fun x => bsL (numT x))[i]? = some y) => (show wr.cell? ⟨g', i, none⟩ = some (.string y) from by
          have := ho.out.cells (g := g') (by rw [hv]; rfl) i (.string y) (by rw [List.getElem?_map, hy]; rfl)
          rw [add0] at this; exact this))
        rw [List.length_map, HN.out] at hv h1
        have hg2 : g' < wr.heap.size := (Array.getElem?_eq_some_iff.1 hg').1
        have JL := Lib.hid (show (Lib.join (ns.map numT) [32]).length ≤ 100000 from by
          have key : ∀ l : List Int, (∀ x ∈ l, I64 x) → (Lib.join (l.map numT) [32]).length ≤ l.length * 22 := fun l hl => by
            cases l with
            | nil => simp [Lib.join]
            | cons x l =>
              rw [List.map_cons, Lib.join_cons, List.length_append]
              have h1 := numT_len (hl x (.head _))
              have h2 : (Lib.joinTail [32] (l.map numT)).length ≤ l.length * 22 := by
                have hl' : ∀ x ∈ l, I64 x := fun y hy => hl y (.tail _ hy)
                clear hl h1
                induction l with
                | nil => simp [Lib.joinTail]
                | cons y l ih =>
                  have h3 := numT_len (hl' y (.head _))
                  have ih := ih fun z hz => hl' z (.tail _ hz)
                  unfold Lib.joinTail at *
                  simp only [List.map_cons, List.flatten_cons, List.length_append, List.length_cons, List.length_nil] at *
                  omega
              rw [List.length_cons]; omega
          have := key ns HI.out
          rw [HN.out] at this; omega)
        have JM := Lib.hid (show Lib.join ((ns.map fun x => bsL (numT x)).map (·.data.toList)) [32] = Lib.join (ns.map numT) [32] from by
          rw [List.map_map]; congr 1)
        have LN := Lib.hid (show (ns.map fun x => bsL (numT x)).length = j from by rw [List.length_map, HN.out])
        clear hb' hg' h2 h3 h4
        subst hv
        go_wp2_with fail
        refine (join_c g' j cap _ _ wr LN.out CE.out hg2 h1 (by omega) JM.out JL.out).mono ?_
        rintro e w5 ⟨rfl, hb⟩
        have HB5 := Lib.hid (hw.out.trans (hb.mono hw.out.size))
        clear hb
        go_wp2_with fail
        go_ret
        exact ⟨rfl, HB5.out⟩
theorem eqlNilD (w : World) (a : Option Addr) (n c n' c' : Nat) : (binOp .eql 36 (.slice a n c) (.slice none n' c')).run Tryd.prog w = .ok (.bool a.isNone) w := Lib.run_eql_slice_nil w _ _ a n c n' c' Tryd.underlying36
theorem onesD (l : List Dec) : ∀ u ∈ flatD l, u.oneCell' = true := by
  intro u hu
  obtain ⟨e, _, h⟩ := List.mem_flatMap.1 hu
  unfold cellsD at h
  simp at h
  rcases h with rfl | rfl | rfl | rfl <;> rfl
set_option maxHeartbeats 1000000 in
theorem clone_any (w : World) (v : Value) (l : List Dec) (h : w.ownsRow 0 49 4 v l.length (flatD l)) (hl : l.length ≤ 1000000) :
    Calls Tryd.prog 41 #[v] w fun e w' => ∃ v', e = .returned v' ∧ OwnD w' w.heap.size v' l ∧ Below w.heap.size w w' := by
  have q := eqlNilD
  rcases h.2 with ⟨rfl, h0⟩ | ⟨g, cap, cur, rfl, hb, hg, h1, h2, h3, h4⟩
  · obtain rfl := List.eq_nil_of_length_eq_zero h0
    clear h
    go_enter Tryd.func41, Tryd.ntmps41
    go_wp2_with fail
    go_ret
    exact ⟨_, rfl, World.ownsRow_nil _ _ _ _, Below.refl _ _⟩
  · obtain ⟨i0, hi0, hz0, hz1, hz2⟩ := info_parts infoD
    have H := Lib.hid h
    have gl : g < w.heap.size := (Array.getElem?_eq_some_iff.1 hg).1
    have HO := Lib.hid (onesD l)
    have HL := Lib.hid (flatD_len l)
    clear h hb hg h3 h4
    go_enter Tryd.func41, Tryd.ntmps41
    go_wp2_with (at_builtin; refine wpList_append_own _ rfl _ _ 36 rfl w.heap.size 49 i0 _ 4 40 Tryd.underlying36 hi0 hz0 hz1 hz2 rfl (by decide) _ _ _ rfl (World.ownsRow_made w #[] 0 (Nat.le_refl _) (Nat.zero_le _) (by simp)) ⟨g, 0, none⟩ l.length cap (flatD l) rfl ?qc1 ?qc2 ?qc3 ?qc4 ?qc5 ?qc6 ?_)
    case qc1 => exact HL.out
    case qc2 =>
      intro j u hj
      rw [World.cell?_alloc_lt _ _ _ (by rw [add0]; exact gl)]
      exact H.out.cells (g := g) rfl j u hj
    case qc3 => exact HO.out
    case qc4 => unfold maxLen; omega
    case qc5 => omega
    case qc6 => simp
    intro v' w1 hown hgrow hnil
    have hown : w1.ownsRow w.heap.size 49 4 v' l.length (flatD l) := by simpa using hown
    have HOW := Lib.hid hown
    have HG := Lib.hid (((Below.refl _ w).alloc (Nat.le_refl _) (.cells #[] 49)).grown hgrow (by simp) (by intro k hk; simp [Value.ownBlock] at hk; omega))
    clear hown hgrow
    go_wp2_with fail
    go_ret
    exact ⟨_, rfl, HOW.out, HG.out⟩
theorem code_decs (w : World) (p : Nat) (t : Pst) (F : Nat → Prop) (n : Nat) (h : ProfH w p t F) (hk : t.Ok n) (hn : n ≤ 1000000) :
    Calls Tryd.prog 17 #[.pointer (some ⟨p, 0, none⟩)] w fun e w' => ∃ v, e = .returned v ∧ OwnD w' w.heap.size v t.D ∧ Below w.heap.size w w' := by
  obtain ⟨mb, v, f, h⟩ := h
  have c5 := h.top.cell 5 v rfl
  have C := Lib.hid (clone_any w v t.D h.own (by have := hk.dec; omega))
  clear h hk
  go_enter Tryd.func17, Tryd.ntmps17
  go_wp2_with fail
  refine C.out.mono ?_
  rintro e w1 ⟨v', rfl, ho, hb⟩
  have G := Lib.hid (And.intro ho hb)
  clear ho hb
  go_wp2_with fail
  go_ret
  exact ⟨v', rfl, G.out⟩
end Go.Proofs.YtjoffbgfokedlaaDoor.Pf
