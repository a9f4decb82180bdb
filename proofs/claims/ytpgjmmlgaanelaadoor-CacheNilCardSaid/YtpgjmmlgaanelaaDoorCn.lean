/-
  The walk of CacheNil: nil and zero sites; sites apart.
-/
import Derived.Test.YtpgjmmlgaanelaaDoorCa
import Derived.Test.YtpgjmmlgaanelaaDoorPl
namespace Go.Proofs.YtpgjmmlgaanelaaDoor.Ch
open Go Go.RowKit

/-- The cells of a site that nothing was put into (as the package lays them). -/
def zeroSite : Array Value := #[.int .i64 0, .int .i64 0, .int .i64 0, .int .i64 0, .int .i64 0, .int .i64 0, .int .i64 0, .int .i64 0, .int .i64 0, .bool false, .int .i64 0, .int .i64 0]
/-- What package cache does with a nil site, and that a zero one is as a new one. -/
structure NilKit (K : Kit) : Prop where
  zero : ∀ (w : World) (z : Nat), Bk w z zeroSite 57 → K.H w z st0 (fun b => b = z)
  find : ∀ (w : World) (s : Int), I64 s → Calls Tryd.prog 18 #[.pointer none, .int .i64 s] w fun e w' => e = .returned (.tuple #[.int .i64 0, .bool false]) ∧ Below w.heap.size w w'
  learn : ∀ (w : World) (s v : Int), I64 s → I64 v → Calls Tryd.prog 15 #[.pointer none, .int .i64 s, .int .i64 v] w fun e w' => e = .returned (.int .i64 1) ∧ Below w.heap.size w w'
  forget : ∀ (w : World) (s : Int), I64 s → Calls Tryd.prog 16 #[.pointer none, .int .i64 s] w fun e w' => e = .returned (.bool false) ∧ Below w.heap.size w w'
  state : ∀ (w : World), Calls Tryd.prog 17 #[.pointer none] w fun e w' => e = .returned (.int .i64 0) ∧ Below w.heap.size w w'
  shapes : ∀ (w : World), Calls Tryd.prog 19 #[.pointer none] w fun e w' => ∃ A c, e = .returned (.slice A 0 c) ∧ Below w.heap.size w w'
  counts : ∀ (w : World), Calls Tryd.prog 25 #[.pointer none] w fun e w' => e = .returned (.tuple #[.int .i64 0, .int .i64 0]) ∧ Below w.heap.size w w'
  text : ∀ (w : World), Calls Tryd.prog 20 #[.pointer none] w fun e w' => e = .returned (.string ⟨#[]⟩) ∧ Below w.heap.size w w'
theorem OwnI.slot {w : World} {base : Nat} {v : Value} {ns : List Int} (h : OwnI w base v ns) :
    ∃ A c, v = .slice A ns.length c ∧ (0 < ns.length → ∃ g, A = some ⟨g, 0, none⟩ ∧ base ≤ g) := by
  rcases h.2 with ⟨rfl, h0⟩ | ⟨g, cap, cur, rfl, hb, _⟩
  · exact ⟨none, 0, by rw [h0], fun h => by omega⟩
  · exact ⟨_, _, rfl, fun _ => ⟨g, rfl, hb⟩⟩
section
variable {K : Kit} {w0 w w' : World} {p q n m : Nat} {t u : Ste} {F G : Nat → Prop}
/-- A cell that is neither's was stored to. -/
theorem Two.free (h : Two K w0 w p t F n q u G m) {g : Nat} (hF : ¬ F g) (hG : ¬ G g) (h0 : w0.heap.size ≤ g) (i : Nat) (x : Value) : Two K w0 (w.setCell ⟨g, i, none⟩ x) p t F n q u G m := by
  have far : ∀ b, b ≠ g → (w.setCell ⟨g, i, none⟩ x).heap[b]? = w.heap[b]? := fun b hb => Below.heap_setCell w _ _ b (fun e => hb e)
  have hz : (w.setCell ⟨g, i, none⟩ x).heap.size = w.heap.size := by simp [World.setCell]
  have hb : Below w0.heap.size w0 (w.setCell ⟨g, i, none⟩ x) := h.a.b.trans ⟨rfl, rfl, rfl, by rw [hz]; exact Nat.le_refl _, fun b hb => far b (by omega)⟩
  exact ⟨⟨K.keep h.a.h fun b hb => far b (fun e => hF (by rw [← e]; exact hb)), hb, h.a.f, h.a.v, h.a.k, h.a.s⟩, ⟨K.keep h.b.h fun b hb => far b (fun e => hG (by rw [← e]; exact hb)), hb, h.b.f, h.b.v, h.b.k, h.b.s⟩, h.d⟩
end
theorem SlI.blk {w : World} {b : Nat} {ns : List Int} (h : Bk w b (ns.map (Value.int .i64)).toArray 3) : SlI w (fun _ => True) (some ⟨b, 0, none⟩) ns := fun j x hx =>
  ⟨b, rfl, trivial, h.cell j _ (by rw [List.getElem?_toArray, List.getElem?_map, hx]; rfl)⟩
def bE : ByteArray := ⟨#[]⟩
/-- What one call of Learn makes of a new site. -/
theorem learn0 (s v : Int) : ∃ c t', st0.learn s v = (c, t') ∧ ((c = 1 ∧ t'.shapes = []) ∨ (c = 0 ∧ t'.shapes = [s] ∧ t'.state = 1)) := by
  by_cases h : s < 0 ∨ v < 0
  · exact ⟨_, _, learn_neg h, .inl ⟨rfl, rfl⟩⟩
  · refine ⟨0, ⟨[(s, v)], false, 0, 0⟩, ?_, .inr ⟨rfl, rfl, rfl⟩⟩
    unfold Ste.learn
    rw [if_neg h, if_neg (by simp [st0])]
    rfl
set_option maxRecDepth 100000 in
set_option maxHeartbeats 8000000 in
theorem nil_walk (K : Kit) (Z : NilKit K) (s v : Int) (hs : I64 s) (hv : I64 v) (w : World) (hk : K.V w) :
    Calls Tryd.prog 9 #[.int .i64 s, .int .i64 v] w fun e w' => e = .returned (.bool true) ∧ Below w.heap.size w w' := by
  have HV := Lib.hid hk
  have SI := Lib.hid hs
  have VI := Lib.hid hv
  clear hk hs hv
  go_enter Tryd.func9, Tryd.ntmps9
  go_wp2_with fail
  refine (sanity_any K _ HV.out).mono ?_
  rintro e w1 ⟨rfl, hb⟩
  have BL := Lib.hid hb
  clear hb
  go_wp2_with fail
  refine (Z.find _ s SI.out).mono ?_
  rintro e wa ⟨rfl, hb⟩
  replace BL := Lib.hid (BL.out.trans (hb.mono BL.out.size))
  clear hb
  go_wp2_with fail
  refine (Z.counts _).mono ?_
  rintro e wb ⟨rfl, hb⟩
  replace BL := Lib.hid (BL.out.trans (hb.mono BL.out.size))
  clear hb
  go_wp2_with fail
  refine (Z.learn _ s v SI.out VI.out).mono ?_
  rintro e wc ⟨rfl, hb⟩
  replace BL := Lib.hid (BL.out.trans (hb.mono BL.out.size))
  clear hb
  go_wp2_with fail
  refine (Z.forget _ s SI.out).mono ?_
  rintro e wd ⟨rfl, hb⟩
  replace BL := Lib.hid (BL.out.trans (hb.mono BL.out.size))
  clear hb
  go_wp2_with fail
  refine (Z.state _).mono ?_
  rintro e we ⟨rfl, hb⟩
  replace BL := Lib.hid (BL.out.trans (hb.mono BL.out.size))
  clear hb
  go_wp2_with fail
  refine (Z.shapes _).mono ?_
  rintro e wf ⟨A0, k0, rfl, hb⟩
  replace BL := Lib.hid (BL.out.trans (hb.mono BL.out.size))
  clear hb
  go_wp2_with fail
  refine (Z.text _).mono ?_
  rintro e wg ⟨rfl, hb⟩
  replace BL := Lib.hid (BL.out.trans (hb.mono BL.out.size))
  clear hb
  go_wp2_with fail
  have TZ := Lib.hid (show Tr K w (wg.alloc (.cells zeroSite 57)) wg.heap.size st0 (fun b => b = wg.heap.size) 0 from ⟨Z.zero _ _ (Bk.new wg _ _), BL.out.alloc BL.out.size _, fun b hb => by rw [hb]; exact BL.out.size, HV.out, ok0, by omega⟩)
  refine (new_at (w0 := w) HV.out TZ.out.b).mono ?_
  rintro e w2 ⟨p2, G, rfl, h2, hb2, hG2⟩
  have TW := Lib.hid (Two.mk' TZ.out h2 hb2 hG2)
  clear h2 hb2 hG2 TZ BL
  obtain ⟨p1, hp1⟩ : ∃ p1, wg.heap.size = p1 := ⟨_, rfl⟩
  rw [hp1] at TW ⊢
  clear hp1
  obtain ⟨cr, t', hle, hwy⟩ := learn0 s v
  obtain ⟨N, hN⟩ : ∃ N, t'.shapes.length = N := ⟨_, rfl⟩
  have N1 : N ≤ 1 := by rcases hwy with ⟨_, h⟩ | ⟨_, h, _⟩ <;> rw [← hN, h] <;> simp
  have LE := Lib.hid hle
  have WY := Lib.hid hwy
  have LN := Lib.hid hN
  have S0 := Lib.hid (show st0.state = 0 by kernel_rfl)
  have E0 := Lib.hid (show st0.text = bE.data.toList by kernel_rfl)
  have HE : bE = ⟨#[]⟩ := rfl
  clear hle hwy hN
  go_wp2_with fail
  refine (learn_at TW.out.a SI.out VI.out LE.out).mono ?_
  rintro e w3 ⟨F1, rfl, h, c, s'⟩
  replace TW := Lib.hid (TW.out.fst h c s')
  clear h c s'
  go_wp2_with fail
  obtain ⟨w4, hw4⟩ : ∃ w4, w3 = w4 := ⟨_, rfl⟩
  rw [hw4] at TW ⊢
  clear hw4
  obtain ⟨F2, hF2⟩ : ∃ F2, F1 = F2 := ⟨_, rfl⟩
  rw [hF2] at TW
  clear hF2
  refine (shapes_at TW.out.a rfl).mono ?_
  rintro e w5 ⟨v', rfl, ho, _, hb⟩
  obtain ⟨A1, c1, rfl, hform⟩ := ho.slot
  have HO := Lib.hid ho
  have HF := Lib.hid hform
  have NF := Lib.hid (show ∀ b, w4.heap.size ≤ b → ¬ F2 b ∧ ¬ G b ∧ w.heap.size ≤ b from fun b hb => ⟨fun e => by have := K.lt TW.out.a.h b e; omega, fun e => by have := K.lt TW.out.b.h b e; omega, by have := TW.out.a.b.size; omega⟩)
  replace TW := Lib.hid (TW.out.below hb)
  clear ho hform hb
  unfold OwnI at HO
  rw [LN.out] at HO HF ⊢
  go_wp2_with fail
  go_loopw [15, 79] (fun _ i wx => ∃ k : Nat, k ≤ N ∧ i = .int .i64 k ∧ Hid (∃ xs, wx.ownsRow w4.heap.size 3 1 (.slice A1 N c1) N xs) ∧ Hid (Two K w wx p1 t' F2 0 p2 st0 G 0)) (fun _ i _ => N - (intOf i).toNat)
  case atStart => exact ⟨0, by omega, rfl, Lib.hid ⟨_, HO.out⟩, TW⟩
  case round =>
    clear HO TW
    obtain ⟨k, hk, rfl, ho, TW⟩ := hrel
    by_cases hlt : k < N
    · obtain ⟨g, rfl, hg⟩ := HF.out (by omega)
      obtain ⟨xs, ho⟩ := ho.out
      have hx : k < xs.length := by rw [ho.1]; omega
      have e0 := World.ownsRow.cellAt ho k (by omega)
      rw [List.getElem?_eq_getElem hx] at e0
      have f0 := World.ownsRow.frozenAt ho k
      have STO := Lib.hid (World.ownsRow.stored ho k (.int .i64 (-9)))
      have ki : (k : Int) < N := by omega
      have R2 := Lib.hid (TW.out.free (NF.out g hg).1 (NF.out g hg).2.1 (NF.out g hg).2.2 k (.int .i64 (-9)))
      have R1 := Lib.hid (show ∃ ys, _ from ⟨_, STO.out.1⟩)
      generalize xs[k] = x0 at e0
      clear STO ho TW hx
      go_wp2_with fail
      go_roundw
      case rel => exact ⟨k + 1, by omega, by go_num, R1, R2⟩
      case measure => simp [intOf]; omega
    · obtain rfl : k = N := by omega
      clear ho
      go_wp2_with fail
      refine (new_at (w0 := w) HV.out TW.out.a.b).mono ?_
      rintro e w6 ⟨p3, F3, rfl, h3, hb3, hF3⟩
      have T3 := Lib.hid h3
      have B3 := Lib.hid hb3
      have HF3 := Lib.hid hF3
      clear h3 hb3 hF3
      go_wp2_with fail
      refine (learn_at T3.out SI.out VI.out LE.out).mono ?_
      rintro e w7 ⟨F4, rfl, _, cc, _⟩
      have TX := Lib.hid ((TW.out.below (B3.out.trans (cc.below HF3.out B3.out.size))))
      clear cc TW T3 B3 HF3
      rcases WY.out with ⟨rfl, _⟩ | ⟨rfl, hsh, hst⟩
      · go_wp2_with fail
        refine (state_at TX.out.b S0.out).mono ?_
        rintro e w8 ⟨rfl, _, hb⟩
        replace TX := Lib.hid (TX.out.below hb)
        clear hb
        go_wp2_with fail
        refine (text_at TX.out.b E0.out).mono ?_
        rintro e w9 ⟨rfl, _, hb⟩
        replace TX := Lib.hid (TX.out.below hb)
        clear hb
        go_wp2_with fail
        go_ret
        exact ⟨rfl, TX.out.a.b⟩
      · have SH := Lib.hid hsh
        have ST := Lib.hid hst
        clear hsh hst
        go_wp2_with fail
        refine (state_at TX.out.b S0.out).mono ?_
        rintro e w8 ⟨rfl, _, hb⟩
        replace TX := Lib.hid (TX.out.below hb)
        clear hb
        go_wp2_with fail
        refine (text_at TX.out.b E0.out).mono ?_
        rintro e w9 ⟨rfl, _, hb⟩
        replace TX := Lib.hid (TX.out.below hb)
        clear hb
        go_wp2_with fail
        refine (state_at TX.out.a ST.out).mono ?_
        rintro e wp ⟨rfl, _, hb⟩
        replace TX := Lib.hid (TX.out.below hb)
        clear hb
        go_wp2_with fail
        refine (shapes_at TX.out.a SH.out).mono ?_
        rintro e wq ⟨v', rfl, ho, _, hb⟩
        obtain ⟨A5, c5, rfl, _, _, hs⟩ := ho.form
        have S1 := Lib.hid hs
        replace TX := Lib.hid (TX.out.below hb)
        clear hb ho hs
        go_wp2_with fail
        refine (equal_any (fun b => wp.heap.size ≤ b ∧ b < wq.heap.size) (fun _ => True) A5 (some ⟨wq.heap.size, 0, none⟩) [s] [s] c5 1 _ (S1.out.low (fun b h => h.2) ((Below.refl _ wq).alloc (Nat.le_refl _) _)) (SlI.blk (ns := [s]) (Bk.new wq #[.int .i64 s] 3)) (by simp) (by simp) true (by simp)).mono ?_
        rintro e wr ⟨rfl, nq, rfl⟩
        have TY := Lib.hid ((TX.out.alloc (.cells #[.int .i64 s] 3)).drewN nq)
        clear TX S1
        go_wp2_with fail
        go_ret
        exact ⟨by simp, TY.out.a.b⟩
end Go.Proofs.YtpgjmmlgaanelaaDoor.Ch
