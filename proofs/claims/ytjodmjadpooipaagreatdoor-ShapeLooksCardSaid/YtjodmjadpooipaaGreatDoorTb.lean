/-
  The reference's Find and Merge.
-/
import Derived.Test.YtjodmjadpooipaaGreatDoorTa
import Derived.Deep.RegionLaw
import Derived.Deep.RegionHeld3
namespace Go.Proofs.YtjodmjadpooipaaGreatDoor.Sh
open Go Go.RowKit

theorem fits_iff {k : Int} {ns : List ByteArray} {x : Shp} : fits k ns x = true ↔ x.ali = none ∧ (x.cls : Int) = k ∧ x.names = ns := by unfold fits; rw [decide_eq_true_eq]
theorem find_at_k {t : Tre} {k : Int} {ns : List ByteArray} (j : Nat) (hj : j < t.L.length) (hb : ∀ i, i < j → fits k ns (t.sh i) = false) (h : fits k ns (t.sh j) = true) : t.find k ns = some j := by
  unfold Tre.find
  rw [List.findIdx?_eq_some_iff_getElem]
  refine ⟨hj, by rw [← sh_lt hj]; exact h, fun i hi => ?_⟩
  have := hb i hi
  rw [sh_lt (by omega)] at this
  simp [this]
theorem all_snoc {P : Nat → Prop} {j : Nat} (h : ∀ i, i < j → P i) (hj : P j) : ∀ i, i < j + 1 → P i := fun i hi => by
  rcases Nat.lt_or_ge i j with g | g
  · exact h i g
  · obtain rfl : i = j := by omega
    exact hj
theorem find_no {t : Tre} {k : Int} {ns : List ByteArray} (hb : ∀ i, i < t.L.length → fits k ns (t.sh i) = false) : t.find k ns = none := by
  unfold Tre.find
  rw [List.findIdx?_eq_none_iff]
  intro x hx
  obtain ⟨i, hi, rfl⟩ := List.mem_iff_getElem.1 hx
  rw [← sh_lt hi]; exact hb i hi
theorem RefAt.refH {w : World} {p : Nat} {t : Tre} {F : Nat → Prop} {gL cL : Nat} {vR : Value} {hd : Nat → Hd} (h : RefAt w p t F gL cL vR hd) : RefH w p t F := ⟨gL, cL, vR, hd, h⟩
set_option maxRecDepth 100000 in
set_option maxHeartbeats 2000000 in
theorem ref_find (w : World) (p : Nat) (t : Tre) (F : Nat → Prop) (m : Nat) (k : Int) (A : Option Addr) (ns : List ByteArray) (c : Nat) (h : RefH w p t F) (hw : t.WF m) (h64 : ∀ s, (t.sh s).names.length ≤ 200) (hk : I64 k) (hs : SlS w (· < w.heap.size) A ns) (hl : ns.length ≤ 8796093022208) :
    Calls Tryz.prog 15 #[.pointer (some ⟨p, 0, none⟩), .int .i64 k, .slice A ns.length c] w fun e w' => e = .returned (.tuple #[.int .i64 (t.findI k ns).1, .bool (t.findI k ns).2]) ∧ Below w.heap.size w w' := by
  obtain ⟨gL, cL, vR, hd, h⟩ := h
  have H := Lib.hid h
  have HS := Lib.hid hs
  have H64 := Lib.hid h64
  have hcap := h.cap
  have W := Lib.hid hw
  have few := hw.few
  obtain ⟨k1, k2⟩ := hk
  have c0 := h.c0
  have SH := Lib.hid h.names
  clear h hs h64 hw
  go_enter Tryz.func15, Tryz.ntmps15
  go_wp2_with fail
  go_loopw [8] (fun i wr => ∃ j : Nat, j ≤ t.L.length ∧ i = .int .i64 j ∧ Hid (∀ i, i < j → fits k ns (t.sh i) = false) ∧ Hid (∃ n, wr = w.drewN n)) (fun i _ => t.L.length - (intOf i).toNat)
  case atStart => exact ⟨0, by omega, rfl, Lib.hid (fun i hi => by omega), Lib.hid ⟨0, rfl⟩⟩
  case round =>
    obtain ⟨j, hj, rfl, hb, hw⟩ := hrel
    obtain ⟨nd, hwr⟩ := hw.out
    have c0 : wr.cell? ⟨p, 0, none⟩ = some (.slice (some ⟨gL, 0, none⟩) t.L.length cL) := by rw [hwr]; exact c0
    by_cases hlt : j < t.L.length
    · have r0 : wr.cell? ⟨gL, j * 4, none⟩ = some (.int .i64 (t.sh j).cls) := by rw [hwr]; exact H.out.r0 hlt
      have r1 : wr.cell? ⟨gL, j * 4 + 1, none⟩ = some (.int .i64 (aliV (t.sh j))) := by rw [hwr]; exact H.out.r1 hlt
      have r2 : wr.cell? ⟨gL, j * 4 + 2, none⟩ = some (.slice (some (hd j).nA) (t.sh j).names.length (hd j).nc) := by rw [hwr]; exact H.out.r2 hlt
      have S1 := Lib.hid (show SlS wr (fun b => F b ∧ isStr w b) (some (hd j).nA) (t.sh j).names by rw [hwr]; exact SH.out j hlt)
      have S2 := Lib.hid (show SlS wr (· < w.heap.size) A ns by rw [hwr]; exact HS.out)
      have hjl : (j : Int) < t.L.length := by omega
      have n64 := H64.out j
      have WR := Lib.hid hwr
      clear hwr hw
      cases ha : (t.sh j).ali with
      | some a =>
        rw [ali_some ha] at r1
        have HF := Lib.hid (show fits k ns (t.sh j) = false by rw [Bool.eq_false_iff]; exact fun e => by have := (fits_iff.1 e).1; rw [ha] at this; cases this)
        clear ha
        go_wp2_with fail
        go_roundw
        case rel => exact ⟨j + 1, by omega, by go_num, Lib.hid (all_snoc hb.out HF.out), Lib.hid ⟨nd, WR.out⟩⟩
        case measure => simp [intOf]; omega
      | none =>
        rw [ali_none ha] at r1
        obtain ⟨kc, hkc⟩ : ∃ kc, (t.sh j).cls = kc := ⟨_, rfl⟩
        rw [hkc] at r0
        by_cases he : (kc : Int) = k
        · have hkb : ((kc : Int) == k) = true := by simp [he]
          obtain ⟨l, hle⟩ : ∃ l, (t.sh j).names = l := ⟨_, rfl⟩
          rw [hle] at r2 S1 n64
          by_cases hn : l = ns
          · have PF := Lib.hid (find_at_k j hlt hb.out (fits_iff.2 ⟨ha, by rw [hkc]; exact he, hle.trans hn⟩))
            have HNE := Lib.hid hn
            clear ha hkc hle he hn
            go_wp2_with fail
            refine (strings_eq _ _ _ A l ns _ c _ S1.out S2.out (by omega) hl HNE.out).mono ?_
            rintro e w2 ⟨rfl, nq, hw2⟩
            have HB := Lib.hid (show Below w.heap.size w w2 by rw [hw2, WR.out]; exact ⟨rfl, rfl, rfl, Nat.le_refl _, fun _ _ => rfl⟩)
            clear hw2
            go_wp2_with fail
            go_ret2
            exact ⟨by unfold Tre.findI; rw [PF.out]; rfl, HB.out⟩
          · have HF := Lib.hid (show fits k ns (t.sh j) = false by rw [Bool.eq_false_iff]; exact fun e => hn (hle.symm.trans (fits_iff.1 e).2.2))
            have HNE := Lib.hid hn
            clear ha hkc hle he hn
            go_wp2_with fail
            refine (strings_ne _ _ _ A l ns _ c _ S1.out S2.out (by omega) hl HNE.out).mono ?_
            rintro e w2 ⟨rfl, nq, hw2⟩
            have HB := Lib.hid (show ∃ n, w2 = w.drewN n from ⟨_, by rw [hw2, WR.out, World.drewN_drewN]⟩)
            clear hw2
            go_wp2_with fail
            go_roundw
            case rel => exact ⟨j + 1, by omega, by go_num, Lib.hid (all_snoc hb.out HF.out), HB⟩
            case measure => simp [intOf]; omega
        · have hkb : ((kc : Int) == k) = false := by simp [he]
          have HF := Lib.hid (show fits k ns (t.sh j) = false by rw [Bool.eq_false_iff]; exact fun e => he (by rw [← hkc]; exact (fits_iff.1 e).2.1))
          clear ha hkc he
          go_wp2_with fail
          go_roundw
          case rel => exact ⟨j + 1, by omega, by go_num, Lib.hid (all_snoc hb.out HF.out), Lib.hid ⟨nd, WR.out⟩⟩
          case measure => simp [intOf]; omega
    · obtain rfl : j = t.L.length := by omega
      have PF := Lib.hid (find_no hb.out)
      have HB := Lib.hid (show Below w.heap.size w wr by rw [hwr]; exact ⟨rfl, rfl, rfl, Nat.le_refl _, fun _ _ => rfl⟩)
      clear hwr
      go_wp2_with fail
      go_ret2
      exact ⟨by unfold Tre.findI; rw [PF.out]; rfl, HB.out⟩
theorem RefH.keep {w w' : World} {p : Nat} {t : Tre} {F : Nat → Prop} (h : RefH w p t F) (hk : ∀ b, F b → w'.heap[b]? = w.heap[b]?) : RefH w' p t F := by
  obtain ⟨gL, cL, vR, hd, h⟩ := h
  exact ⟨gL, cL, vR, hd, h.keep hk⟩
theorem RefH.lt {w : World} {p : Nat} {t : Tre} {F : Nat → Prop} (h : RefH w p t F) (b : Nat) (hb : F b) : b < w.heap.size := by
  obtain ⟨gL, cL, vR, hd, h⟩ := h
  exact h.lt b hb
theorem RefH.below {w w' : World} {p : Nat} {t : Tre} {F : Nat → Prop} (h : RefH w p t F) (hb : Below w.heap.size w w') : RefH w' p t F := h.keep fun b hF => hb.block b (h.lt b hF)
theorem there_q (w : World) (n : Nat) (p : Nat) (t : Tre) (F : Nat → Prop) (s : Int) (h : RefH w p t F) (hs : I64 s) (b : Bool) (hb : t.there s = b) :
    Calls Tryz.prog 40 #[.pointer (some ⟨p, 0, none⟩), .int .i64 s] (w.drewN n) fun e w' => e = .returned (.bool b) ∧ ∃ m, w' = w.drewN m :=
  (ref_there (w.drewN n) p t F s (h.keep fun _ _ => rfl) hs b hb).mono fun _ _ ⟨he, hw⟩ => ⟨he, n, hw.symm⟩
theorem strings_q (w : World) (n : Nat) (P Q : Nat → Prop) (A D : Option Addr) (zs ys : List ByteArray) (c d : Nat) (h : SlS w P A zs) (h' : SlS w Q D ys) (hm : zs.length ≤ 8796093022208) (hm' : ys.length ≤ 8796093022208) (b : Bool) (e : decide (zs = ys) = b) :
    Calls Tryz.prog 22 #[.slice A zs.length c, .slice D ys.length d] (w.drewN n) fun e w' => e = .returned (.bool b) ∧ ∃ m, w' = w.drewN m :=
  (strings_any P Q A D zs ys c d (w.drewN n) h h' hm hm').mono fun _ _ ⟨he, m, hw⟩ => ⟨by rw [he, e], n + m, by rw [hw, World.drewN_drewN]⟩
/-- How a call ends that turns the reference's tree. -/
def RefTo (w : World) (p : Nat) (F : Nat → Prop) (t' : Tre) (v : Value) (e : Ending) (w' : World) : Prop := ∃ F', e = .returned v ∧ RefH w' p t' F' ∧ Chg F w w' ∧ Sub F F' w
theorem RefTo.same {w : World} {p : Nat} {t : Tre} {F : Nat → Prop} {v : Value} (h : RefH w p t F) (n : Nat) : RefTo w p F t v (.returned v) (w.drewN n) :=
  ⟨F, rfl, h.keep fun _ _ => rfl, ⟨rfl, rfl, rfl, Nat.le_refl _, fun _ _ _ => rfl⟩, fun _ hb => .inl hb⟩
theorem own_ne {w : World} {base base' : Nat} {e e' : TypeId} {size size' n n' : Nat} {v v' : Value} {xs xs' : List Value} (h : w.ownsRow base e size v n xs) (h' : w.ownsRow base' e' size' v' n' xs') (hne : e ≠ e') (b : Nat) (hb : v.ownBlock = some b) : v'.ownBlock ≠ some b := by
  rcases h.2 with ⟨rfl, _⟩ | ⟨g, cap, cur, rfl, _, hg, _⟩
  · simp [Value.ownBlock] at hb
  · rcases h'.2 with ⟨rfl, _⟩ | ⟨g', cap', cur', rfl, _, hg', _⟩
    · simp [Value.ownBlock]
    · simp only [Value.ownBlock, Option.some.injEq] at hb
      intro e2
      simp only [Value.ownBlock, Option.some.injEq] at e2
      subst hb; subst e2
      rw [hg] at hg'
      injection hg' with hg'
      injection hg' with _ ht
      exact hne ht
theorem bk_ne {w : World} {base : Nat} {e T : TypeId} {size n b : Nat} {v : Value} {xs : List Value} {cs : Array Value} (h : w.ownsRow base e size v n xs) (h' : Bk w b cs T) (hne : e ≠ T) : v.ownBlock ≠ some b := by
  rcases h.2 with ⟨rfl, _⟩ | ⟨g, cap, cur, rfl, _, hg, _⟩
  · simp [Value.ownBlock]
  · intro e2
    simp only [Value.ownBlock, Option.some.injEq] at e2
    subst e2
    unfold Bk at h'
    rw [hg] at h'
    injection h' with h'
    injection h' with _ ht
    exact hne ht
theorem str_ne {w : World} {base : Nat} {e : TypeId} {size n b : Nat} {v : Value} {xs : List Value} (h : w.ownsRow base e size v n xs) (h' : isStr w b) (hne : e ≠ 9) : v.ownBlock ≠ some b := by
  obtain ⟨cs, h'⟩ := h'
  exact bk_ne h h' hne
/-- One cell of the row of shapes is set: aliases alone. -/
theorem tie_at {w : World} {p : Nat} {t : Tre} {F : Nat → Prop} {gL cL : Nat} {vR : Value} {hd : Nat → Hd} (h : RefAt w p t F gL cL vR hd) {x y : Nat} (hy : y < t.L.length) :
    RefAt (w.setCell ⟨gL, y * 4 + 1, none⟩ (.int .i64 (x : Int))) p (t.tie x y) F gL cL vR hd := by
  have far : ∀ b, b ≠ gL → (w.setCell ⟨gL, y * 4 + 1, none⟩ (.int .i64 (x : Int))).heap[b]? = w.heap[b]? := fun b hb => Below.heap_setCell w _ _ b (fun e => hb e)
  have hL : (t.tie x y).L.length = t.L.length := by simp [Tre.tie]
  obtain ⟨xs, o, hx⟩ := h.rows
  have S := tie_sh t x hy
  have SN : ∀ s, ((t.tie x y).sh s).names = (t.sh s).names ∧ ((t.tie x y).sh s).links = (t.sh s).links ∧ ((t.tie x y).sh s).cls = (t.sh s).cls := fun s => by
    rw [S]; by_cases e : s = y
    · subst e; rw [if_pos rfl]; exact ⟨rfl, rfl, rfl⟩
    · rw [if_neg e]; exact ⟨rfl, rfl, rfl⟩
  have pg : p ≠ gL := fun e => bk_ne o h.hp (by decide) (by rw [e]; rfl)
  refine ⟨fun b hb => by have := h.lt b hb; simpa [World.setCell] using this, ?_, h.fp, ⟨xs.set (y * 4 + 1) (.int .i64 (x : Int)), ?_, fun s hs i u hu => ?_⟩, h.fL, ?_, h.fR, fun s hs => ?_, fun s hs => ?_, fun s hs => h.fK s (by omega), fun s r hs hr => h.apart s r (by omega) (by omega)⟩
  · unfold Bk; rw [far p pg, hL]; exact h.hp
  · rw [hL]; exact (World.ownsRow.stored o _ _).1
  · rw [hL] at hs
    have hi : i < 4 := by have := (List.getElem?_eq_some_iff.1 hu).1; exact this
    have hlen : xs.length = t.L.length * 4 := o.1
    by_cases e : s * 4 + i = y * 4 + 1
    · have es : s = y := by omega
      have ei : i = 1 := by omega
      subst es; subst ei
      rw [List.getElem?_set_self (by omega)]
      rw [S, if_pos rfl] at hu
      injection hu with hu
      rw [← hu]; rfl
    · rw [List.getElem?_set_ne (fun e' => e e'.symm)]
      refine hx s hs i u ?_
      rw [S] at hu
      by_cases es : s = y
      · subst es
        rw [if_pos rfl] at hu
        have : i ≠ 1 := fun e' => e (by omega)
        rcases i with _ | _ | i
        · exact hu
        · exact absurd rfl this
        · exact hu
      · rw [if_neg es] at hu; exact hu
  · refine own_keep h.roots fun b hb => far b fun e => ?_
    subst e
    exact own_ne o h.roots (by decide) _ rfl hb
  · rw [hL] at hs
    rw [(SN s).1]
    exact (h.names s hs).keep fun b hb => by
      have hb2 : b ≠ gL := fun e => by subst e; exact str_ne o hb.2 (by decide) rfl
      refine ⟨⟨hb.1, ?_⟩, far b hb2⟩
      obtain ⟨cs, hc⟩ := hb.2
      exact ⟨cs, by rw [far b hb2]; exact hc⟩
  · rw [hL] at hs
    rw [(SN s).2.1]
    obtain ⟨ys, o2, h2⟩ := h.links s hs
    refine ⟨ys, own_keep o2 fun b hb => far b fun e => ?_, h2⟩
    subst e
    exact own_ne o o2 (by decide) _ rfl hb
end Go.Proofs.YtjodmjadpooipaaGreatDoor.Sh
