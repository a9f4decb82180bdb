/-
  The walk of ShapeCanons.
-/
import Derived.Test.YtnapfhnmccpffaaDoorSv
import Derived.Deep.RegionLaw
import Derived.Deep.RegionHeld3
namespace Go.Proofs.YtnapfhnmccpffaaDoor.Sh
open Go Go.RowKit

/-- The loop over the classes. -/
def clsAt (fl : List (List ByteArray)) (k : Nat) : List ByteArray := fl.getD k []
theorem add_flat (g a b : Nat) (h : a = b) : (⟨g, 0, none⟩ : Addr).add a = ⟨g, b, none⟩ := by
  unfold Addr.add; subst h; simp; exact fun e => e.symm
theorem root_nat {t : Tre} {k : Nat} (h : k < t.roots.length) : t.rootI k = t.root k := by unfold Tre.rootI; rw [if_pos ⟨by omega, by omega⟩]; rfl
theorem root_names {fl : List (List ByteArray)} {t : Tre} (h : Inv fl t) {k : Nat} (hk : k < fl.length) : (t.sh (t.root k)).names = fl.getD k [] := (canon_names h.ok.wf _).trans (h.rn k hk)
set_option maxRecDepth 100000 in
set_option maxHeartbeats 8000000 in
theorem canons_walk (K : Kit) (n : Int) (hn : I64 n) (acts : List Act) (A : Option Addr) (c B : Nat) (w : World) (ha : ActS w B A acts) (hB : B ≤ w.heap.size) (hl : acts.length ≤ 4398046511104) (hok : ∀ x ∈ acts, x.OK) (hv : K.V w) :
    Calls Tryd.prog 5 #[.int .i64 n, .slice A acts.length c] w fun e w' => e = .returned (.bool true) ∧ Below w.heap.size w w' := by
  have HA := Lib.hid ha
  have HOK := Lib.hid hok
  have HN := Lib.hid hn
  have HV := Lib.hid hv
  clear hv ha hok hn
  go_enter Tryd.func5, Tryd.ntmps5
  go_wp2_with fail
  refine (sanity_any K _ HV.out).mono ?_
  rintro e w1 ⟨rfl, hb⟩
  have B1 := Lib.hid hb
  clear hb
  go_wp2_with fail
  refine (played_any K n HN.out acts A c B _ (HA.out.below B1.out hB) (by have := B1.out.size; omega) hl HOK.out (K.vkeep HV.out B1.out)).mono ?_
  rintro e w2 ⟨p, F, rfl, hs⟩
  have IN := Lib.hid (playT_inv (acts.take 60) (cls_inv n))
  have HS := Lib.hid hs
  clear hs
  generalize playT (newT (clsOf n)) (acts.take 60) = t at *
  obtain ⟨N, hN⟩ : ∃ N, t.L.length = N := ⟨_, rfl⟩
  have N2 : N ≤ 200 := by rw [← hN]; exact IN.out.ok.wf.few
  have LN := Lib.hid hN
  clear hN
  go_wp2_with fail
  go_loopw [7] (fun i wr => ∃ k : Nat, k ≤ N ∧ i = .int .i64 k ∧ Hid (Tr K w1 wr p t F)) (fun i _ => N - (intOf i).toNat)
  case atStart => exact ⟨0, by omega, rfl, HS⟩
  case round =>
    obtain ⟨k, hk, rfl, hs⟩ := hrel
    by_cases hlt : k < N
    · have kl : k < t.L.length := by rw [LN.out]; exact hlt
      have W := Lib.hid IN.out.ok.wf
      have KI := Lib.hid (nat64 hlt N2)
      obtain ⟨cc, hcc⟩ : ∃ cc, t.canon k = cc := ⟨_, rfl⟩
      have cl : cc < t.L.length := by rw [← hcc]; exact canon_lt W.out kl
      have C1 := Lib.hid (show t.canonI (k : Int) = (cc : Int) by rw [canonI_nat kl, hcc])
      have C2 := Lib.hid (show t.canonI (cc : Int) = (cc : Int) by rw [canonI_nat cl, ← hcc, canon_canon W.out])
      obtain ⟨kc, hkc⟩ : ∃ kc, (t.sh k).cls = kc := ⟨_, rfl⟩
      obtain ⟨ns, hns⟩ : ∃ ns, (t.sh k).names = ns := ⟨_, rfl⟩
      have D1 := Lib.hid (show t.clsI (k : Int) = (kc : Int) by rw [clsI_nat kl, hkc])
      have D2 := Lib.hid (show t.clsI (cc : Int) = (kc : Int) by rw [clsI_nat cl, ← hcc, canon_cls W.out, hkc])
      have E1 := Lib.hid (show t.namesI (k : Int) = ns by rw [namesI_nat kl, hns])
      have E2 := Lib.hid (show t.namesI (cc : Int) = ns by rw [namesI_nat cl, ← hcc, canon_names W.out, hns])
      have nl : ns.length ≤ 6 := by rw [← hns]; exact names_len IN.out k
      have NS := Lib.hid (show ∀ x ∈ ns, x.size ≤ maxLen by rw [← hns]; exact names_short IN.out k)
      obtain ⟨f, hf, hfc, hfl, hfa⟩ := find_some (k := (kc : Int)) (ns := ns) cl (by rw [← hcc]; exact canon_root W.out k) (by rw [← hcc, canon_cls W.out, hkc]) (by rw [← hcc, canon_names W.out, hns])
      have G1 := Lib.hid (show t.findI (kc : Int) ns = ((f : Int), true) by unfold Tre.findI; rw [hf])
      have G2 := Lib.hid (show t.canonI (f : Int) = (f : Int) by rw [canonI_nat hfl, canon_fix hfa])
      have kc3 : kc < 200 := by rw [← hkc]; have := W.out.cl k kl; have := clsOf_len n; omega
      have cN : cc < N := by rw [← LN.out]; exact cl
      have fN : f < N := by rw [← LN.out]; exact hfl
      have CI := Lib.hid (nat64 cN N2)
      have FI := Lib.hid (nat64 fN N2)
      have KCI := Lib.hid (nat64 kc3 (Nat.le_refl _))
      clear hcc hkc hns hf hfa hfl cl kl
      go_wp2_with fail
      refine (count_at hs.out W.out LN.out).mono ?_
      rintro e w3 ⟨rfl, h, hb⟩
      replace hs := Lib.hid h
      clear h hb
      go_wp2_with fail
      refine (canon_at hs.out W.out KI.out C1.out).mono ?_
      rintro e w4 ⟨rfl, h, hb⟩
      replace hs := Lib.hid h
      clear h hb
      go_wp2_with fail
      refine (canon_at hs.out W.out CI.out C2.out).mono ?_
      rintro e w5 ⟨rfl, h, hb⟩
      replace hs := Lib.hid h
      clear h hb
      go_wp2_with fail
      refine (cls_at hs.out W.out CI.out D2.out).mono ?_
      rintro e w6 ⟨rfl, h, hb⟩
      replace hs := Lib.hid h
      clear h hb
      go_wp2_with fail
      refine (cls_at hs.out W.out KI.out D1.out).mono ?_
      rintro e w7 ⟨rfl, h, hb⟩
      replace hs := Lib.hid h
      clear h hb
      go_wp2_with fail
      refine (names_at hs.out W.out CI.out E2.out).mono ?_
      rintro e w8 ⟨A1, c1, rfl, _, hsl, h, hb⟩
      have S1 := Lib.hid hsl
      replace hs := Lib.hid h
      clear h hb hsl
      go_wp2_with fail
      refine (names_at hs.out W.out KI.out E1.out).mono ?_
      rintro e w9 ⟨A2, c2, rfl, _, hsl, h, hb⟩
      have S2 := Lib.hid (S1.out.low hb)
      have S3 := Lib.hid hsl
      replace hs := Lib.hid h
      clear h hb hsl S1
      go_wp2_with fail
      refine (strings_any _ _ A1 A2 ns ns c1 c2 _ S2.out S3.out (by omega) (by omega)).mono ?_
      rintro e w10 ⟨rfl, nq, rfl⟩
      replace hs := Lib.hid (hs.out.drewN nq)
      clear S2 S3
      have dt : decide (ns = ns) = true := by simp
      go_wp2_with fail
      clear dt
      refine (cls_at hs.out W.out KI.out D1.out).mono ?_
      rintro e w11 ⟨rfl, h, hb⟩
      replace hs := Lib.hid h
      clear h hb
      go_wp2_with fail
      refine (names_at hs.out W.out KI.out E1.out).mono ?_
      rintro e w12 ⟨A3, c3, rfl, _, hsl, h, hb⟩
      have S1 := Lib.hid hsl
      replace hs := Lib.hid h
      clear h hb hsl
      go_wp2_with fail
      refine (find_at hs.out W.out KCI.out (S1.out.imp fun b hb => hb.1) (by omega) NS.out G1.out).mono ?_
      rintro e w13 ⟨rfl, h, hb⟩
      replace hs := Lib.hid h
      clear h hb S1
      go_wp2_with fail
      refine (canon_at hs.out W.out FI.out G2.out).mono ?_
      rintro e w14 ⟨rfl, h, hb⟩
      replace hs := Lib.hid h
      clear h hb
      go_wp2_with fail
      go_roundw
      case rel => exact ⟨k + 1, by omega, by go_num, hs⟩
      case measure => simp [intOf]; omega
    · obtain rfl : k = N := by omega
      go_wp2_with fail
      refine (count_at hs.out IN.out.ok.wf LN.out).mono ?_
      rintro e w3 ⟨rfl, h, hb⟩
      replace hs := Lib.hid h
      clear h hb
      go_wp2_with fail
      refine (classes_any n HN.out _).mono ?_
      rintro e w4 ⟨g, rfl, hg, hc, hb⟩
      have hs4 := Lib.hid (hs.out.below hb)
      have FL := clsOf_len n
      have IN2 := IN
      have HC := Lib.hid hc
      clear hc hg hb hs IN
      generalize clsOf n = fl at *
      have IV := Lib.hid IN2.out
      clear IN2
      go_wp2_with fail
      go_loopw [85] (fun i wr => ∃ k : Nat, k ≤ fl.length ∧ i = .int .i64 k ∧ Hid (Tr K w1 wr p t F) ∧ Hid (Below w4.heap.size w4 wr)) (fun i _ => fl.length - (intOf i).toNat)
      case atStart => exact ⟨0, by omega, rfl, hs4, Lib.hid (Below.refl _ _)⟩
      case round =>
        obtain ⟨j, hj, rfl, hs, hw⟩ := hrel
        by_cases hlt : j < fl.length
        · obtain ⟨ad, cn, D, d, M, mn, mc, e, hb, x0, x1, x2, hsl, _, _⟩ := HC.out j _ (List.getElem?_eq_getElem hlt)
          injection e with e
          subst e
          have y0 : wr.cell? ⟨g, j * 3, none⟩ = some (.string cn) := (hw.out.cell (p := ⟨g, j * 3, none⟩) hb).trans (by rw [← add_flat g (3 * j) (j * 3) (by omega)]; exact x0)
          have y1 : wr.cell? ⟨g, j * 3 + 1, none⟩ = some (.slice D fl[j].length d) := (hw.out.cell (p := ⟨g, j * 3 + 1, none⟩) hb).trans (by rw [← add_flat g (3 * j + 1) (j * 3 + 1) (by omega)]; exact x1)
          have y2 : wr.cell? ⟨g, j * 3 + 2, none⟩ = some (.slice M mn mc) := (hw.out.cell (p := ⟨g, j * 3 + 2, none⟩) hb).trans (by rw [← add_flat g (3 * j + 2) (j * 3 + 2) (by omega)]; exact x2)
          have SLD := Lib.hid (hsl.keep (Q := fun b => b < w4.heap.size) fun b hb => ⟨hb, hw.out.block b hb⟩)
          obtain ⟨ns, hns⟩ : ∃ ns, fl[j] = ns := ⟨_, rfl⟩
          rw [hns] at y1 SLD
          have GD := Lib.hid (show fl.getD j [] = ns by rw [List.getD_eq_getElem?_getD, List.getElem?_eq_getElem hlt, ← hns]; rfl)
          clear x0 x1 x2 hsl hb hns
          have W := Lib.hid IV.out.ok.wf
          have rl : j < t.roots.length := by rw [W.out.rl]; exact hlt
          obtain ⟨r, hr⟩ : ∃ r, t.root j = r := ⟨_, rfl⟩
          have rN : r < t.L.length := by rw [← hr]; exact root_lt W.out hlt
          have Q0 := Lib.hid (show t.rootI (j : Int) = (r : Int) by rw [root_nat rl, hr])
          have Q1 := Lib.hid (show t.canonI (r : Int) = (r : Int) by rw [canonI_nat rN, ← hr, canon_fix (root_root W.out j)])
          have Q2 := Lib.hid (show t.clsI (r : Int) = (j : Int) by rw [clsI_nat rN, ← hr, root_cls W.out hlt])
          have Q3 := Lib.hid (show t.namesI (r : Int) = ns by rw [namesI_nat rN, ← hr, root_names IV.out hlt, GD.out])
          have JI := Lib.hid (show I64 (j : Int) from ⟨by omega, by omega⟩)
          have RI := Lib.hid (nat64 rN (by rw [LN.out]; exact N2))
          have nl : ns.length ≤ 6 := by rw [← Q3.out, namesI_nat rN]; exact names_len IV.out r
          clear rl hr rN
          go_wp2_with fail
          refine (root_at (hs.out.alloc _) W.out JI.out Q0.out).mono ?_
          rintro e w6 ⟨rfl, h, hb⟩
          have BX := Bk.low hb (Bk.new wr #[.string cn, .slice D ns.length d, .slice M mn mc] 53)
          have c1 := BX.cell 1 (.slice D ns.length d) rfl
          have LT := Lib.hid BX.lt
          have HW := Lib.hid (hw.out.trans (((Below.refl w4.heap.size wr).alloc hw.out.size (.cells #[.string cn, .slice D ns.length d, .slice M mn mc] 53)).trans (hb.mono (by simp; have := hw.out.size; omega))))
          have S4 := Lib.hid (show SlS w4 (· < w4.heap.size) D ns from SLD.out.keep fun b hb => ⟨hb, (hw.out.block b hb).symm⟩)
          replace hs := Lib.hid h
          clear h hb BX hw y0 y1 y2 SLD
          go_wp2_with fail
          go_region_held3 (fun w' => w'.cell? ⟨wr.heap.size, 1, none⟩ = some (.slice D ns.length d)) (first | exact c1) ((first
            | (go_at_call 26
               (refine (canon_at (by first | exact hs.out | exact hs.out.drew | exact hs.out.drew.drew) W.out RI.out Q1.out).mono ?_)
               rintro e w' ⟨rfl, h, hb⟩
               (first | replace HW := Lib.hid (HW.out.trans (hb.mono HW.out.size)) | replace HW := Lib.hid (HW.out.drew.trans (hb.mono HW.out.size)) | replace HW := Lib.hid (HW.out.drew.drew.trans (hb.mono HW.out.size)))
               replace hs := Lib.hid h
               replace c1 := (hb.cell (p := ⟨wr.heap.size, 1, none⟩) LT.out).trans c1
               replace LT := Lib.hid (Nat.lt_of_lt_of_le LT.out hb.size)
               clear h hb)
            | (go_at_call 25
               (refine (cls_at (by first | exact hs.out | exact hs.out.drew | exact hs.out.drew.drew) W.out RI.out Q2.out).mono ?_)
               rintro e w' ⟨rfl, h, hb⟩
               (first | replace HW := Lib.hid (HW.out.trans (hb.mono HW.out.size)) | replace HW := Lib.hid (HW.out.drew.trans (hb.mono HW.out.size)) | replace HW := Lib.hid (HW.out.drew.drew.trans (hb.mono HW.out.size)))
               replace hs := Lib.hid h
               replace c1 := (hb.cell (p := ⟨wr.heap.size, 1, none⟩) LT.out).trans c1
               replace LT := Lib.hid (Nat.lt_of_lt_of_le LT.out hb.size)
               clear h hb)
            | (go_at_call 21
               (refine (names_at (by first | exact hs.out | exact hs.out.drew | exact hs.out.drew.drew) W.out RI.out Q3.out).mono ?_)
               rintro e w' ⟨A1, k1, rfl, _, hsl, h, hb⟩
               (first | replace HW := Lib.hid (HW.out.trans (hb.mono HW.out.size)) | replace HW := Lib.hid (HW.out.drew.trans (hb.mono HW.out.size)) | replace HW := Lib.hid (HW.out.drew.drew.trans (hb.mono HW.out.size)))
               replace hs := Lib.hid h
               replace c1 := (hb.cell (p := ⟨wr.heap.size, 1, none⟩) LT.out).trans c1
               replace LT := Lib.hid (Nat.lt_of_lt_of_le LT.out hb.size)
               have NEW := Lib.hid (show SlS w' (fun _ => True) A1 ns from hsl.imp fun _ _ => trivial)
               clear h hb hsl)
            | (go_at_call 24
               (refine (strings_eq (fun _ => True) (fun b => b < w4.heap.size) A1 D ns ns k1 d _ NEW.out (S4.out.keep fun b hb => ⟨hb, HW.out.block b hb⟩) (by omega) (by omega) rfl).mono ?_)
               rintro e w' ⟨rfl, nq, hw⟩
               (first | replace hs := Lib.hid (show Tr K w1 w' p t F by rw [hw]; exact hs.out.drewN nq) | replace hs := Lib.hid (show Tr K w1 w' p t F by rw [hw]; exact hs.out.drew.drewN nq) | replace hs := Lib.hid (show Tr K w1 w' p t F by rw [hw]; exact hs.out.drew.drew.drewN nq))
               replace HW := Lib.hid (show Below w4.heap.size w4 w' by rw [hw]; exact HW.out.trans ⟨rfl, rfl, rfl, Nat.le_refl _, fun _ _ => rfl⟩)
               replace c1 : w'.cell? ⟨wr.heap.size, 1, none⟩ = some (.slice D ns.length d) := by rw [hw]; exact c1
               clear hw)))
          go_wp2_with fail
          go_roundw
          case rel => exact ⟨j + 1, by omega, by go_num, hs, HW⟩
          case measure => simp [intOf]; omega
        · obtain rfl : j = fl.length := by omega
          go_wp2_with fail
          go_ret
          exact ⟨rfl, B1.out.trans (hs.out.b.mono B1.out.size)⟩
end Go.Proofs.YtnapfhnmccpffaaDoor.Sh
