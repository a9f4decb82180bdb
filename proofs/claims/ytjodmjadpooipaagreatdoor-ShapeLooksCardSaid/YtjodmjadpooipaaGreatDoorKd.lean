/-
  is, Find and distinct of package shape.
-/
import Derived.Test.YtjodmjadpooipaaGreatDoorKc
import Derived.Test.YtjodmjadpooipaaGreatDoorTe
namespace Go.Proofs.YtjodmjadpooipaaGreatDoor.Sh
open Go Go.RowKit

theorem SlS.al {w : World} {P : Nat → Prop} {A : Option Addr} {ns : List ByteArray} (h : SlS w P A ns) (hP : ∀ b, P b → b < w.heap.size) (o : Obj) : SlS (w.alloc o) P A ns :=
  h.keep fun b hb => ⟨hb, Below.heap_alloc _ _ _ (hP b hb)⟩
theorem SlS.low' {w w' : World} {P : Nat → Prop} {A : Option Addr} {ns : List ByteArray} (h : SlS w P A ns) {B : Nat} (hP : ∀ b, P b → b < B) (hb : Below B w w') : SlS w' P A ns :=
  h.keep fun b hb' => ⟨hb', hb.block b (hP b hb')⟩
set_option maxRecDepth 100000 in
set_option maxHeartbeats 1000000 in
theorem is_any (P Q : Nat → Prop) (k0 a k : Int) (A C : Option Addr) (xs ys : List ByteArray) (c d : Nat) (w : World) (h : SlS w P A xs) (h' : SlS w Q C ys) (hP : ∀ b, P b → b < w.heap.size) (hQ : ∀ b, Q b → b < w.heap.size) (hx : xs.length ≤ 8796093022208) (hy : ys.length ≤ 8796093022208) (b : Bool) (hb : decide (k0 = k ∧ xs = ys) = b) :
    Calls Tryz.prog 39 #[.agg #[.int .i64 k0, .slice A xs.length c, .int .i64 a], .int .i64 k, .slice C ys.length d] w fun e w' => e = .returned (.bool b) ∧ Below w.heap.size w w' := by
  have H1 := Lib.hid (h.al hP (.cells #[.int .i64 k0, .slice A xs.length c, .int .i64 a] 65))
  have H2 := Lib.hid (h'.al hQ (.cells #[.int .i64 k0, .slice A xs.length c, .int .i64 a] 65))
  clear h h' hP hQ
  by_cases hk : k0 = k
  · have HB := Lib.hid (show decide (xs = ys) = b by rw [← hb]; simp [hk])
    have hkb : (k0 == k) = true := by simp [hk]
    clear hk hb
    go_enter Tryz.func39, Tryz.ntmps39
    go_wp2_with fail
    refine (equal_any _ _ _ _ xs ys _ _ _ H1.out H2.out hx hy b HB.out).mono ?_
    rintro e w' ⟨rfl, q, rfl⟩
    go_wp2_with fail
    go_ret
    exact ⟨rfl, ((Below.refl _ w).alloc (Nat.le_refl _) _).trans ⟨rfl, rfl, rfl, by simp, fun _ _ => rfl⟩⟩
  · have HB := Lib.hid (show false = b by rw [← hb]; simp [hk])
    have hkb : (k0 == k) = false := by simp [hk]
    clear hk hb
    go_enter Tryz.func39, Tryz.ntmps39
    go_wp2_with fail
    go_ret
    exact ⟨by rw [← HB.out]; rfl, (Below.refl _ w).alloc (Nat.le_refl _) _⟩
set_option maxRecDepth 100000 in
set_option maxHeartbeats 2000000 in
theorem code_find (w : World) (p : Nat) (t : Tre) (F : Nat → Prop) (m : Nat) (k : Int) (A : Option Addr) (ns : List ByteArray) (c : Nat) (h : CodeH w p t F) (hw : t.WF m) (h64 : ∀ s, (t.sh s).names.length ≤ 200) (hk : I64 k) (hs : SlS w (· < w.heap.size) A ns) (hl : ns.length ≤ 8796093022208) :
    Calls Tryz.prog 13 #[.pointer (some ⟨p, 0, none⟩), .int .i64 k, .slice A ns.length c] w fun e w' => e = .returned (.tuple #[.int .i64 (t.findI k ns).1, .bool (t.findI k ns).2]) ∧ Below w.heap.size w w' := by
  have H := Lib.hid h
  have HS := Lib.hid hs
  have H64 := Lib.hid h64
  have few := hw.few
  obtain ⟨k1, k2⟩ := hk
  obtain ⟨_, vL, vR, mb, D, hd, h⟩ := h
  have HA := Lib.hid h
  clear h hs h64 hw
  go_enter Tryz.func13, Tryz.ntmps13
  go_wp2_with fail
  refine (code_count _ p t F H.out).mono ?_
  rintro e w' ⟨rfl, rfl⟩
  go_wp2_with fail
  go_loopw [12] (fun i wr => ∃ j : Nat, j ≤ t.L.length ∧ i = .int .i64 j ∧ Hid (∀ i, i < j → fits k ns (t.sh i) = false) ∧ Hid (Below w.heap.size w wr)) (fun i _ => t.L.length - (intOf i).toNat)
  case atStart => exact ⟨0, by omega, rfl, Lib.hid (fun i hi => by omega), Lib.hid (Below.refl _ _)⟩
  case round =>
    obtain ⟨j, hj, rfl, hb, hw⟩ := hrel
    by_cases hlt : j < t.L.length
    · have h1 : CodeAt wr p t F vL vR mb D hd := HA.out.keep fun b hF => hw.out.block b (HA.out.lt b hF)
      have c0 := h1.c0
      obtain ⟨g, cL, rfl, hcap, _, gl, _, hr⟩ := h1.row hlt
      obtain ⟨r0, r1, r2⟩ := hr j hlt
      have S1 := Lib.hid (show SlS wr F (hd j).at (t.sh j).names from (h1.names j hlt).imp fun b hb => hb.1)
      have S2 := Lib.hid (show SlS wr (· < w.heap.size) A ns from HS.out.low' (fun _ h => h) hw.out)
      have LF := Lib.hid h1.lt
      have hjl : (j : Int) < t.L.length := by omega
      have n64 := H64.out j
      have hz := hw.out.size
      clear h1 hr
      cases ha : (t.sh j).ali with
      | some a =>
        rw [ali_some ha] at r2
        have HF := Lib.hid (show fits k ns (t.sh j) = false by rw [Bool.eq_false_iff]; exact fun e => by have := (fits_iff.1 e).1; rw [ha] at this; cases this)
        have HW := Lib.hid (hw.out.alloc hz (.cells #[.int .i64 (t.sh j).cls, .slice (hd j).at (t.sh j).names.length (hd j).nc, .int .i64 (a : Int)] 65))
        clear ha
        go_wp2_with fail
        go_roundw
        case rel => exact ⟨j + 1, by omega, by go_num, Lib.hid (all_snoc hb.out HF.out), HW⟩
        case measure => simp [intOf]; omega
      | none =>
        rw [ali_none ha] at r2
        have HW := Lib.hid (hw.out.alloc hz (.cells #[.int .i64 (t.sh j).cls, .slice (hd j).at (t.sh j).names.length (hd j).nc, .int .i64 (-1)] 65))
        have T1 := Lib.hid (S1.out.al LF.out (.cells #[.int .i64 (t.sh j).cls, .slice (hd j).at (t.sh j).names.length (hd j).nc, .int .i64 (-1)] 65))
        have T2 := Lib.hid (S2.out.al (fun b (h : b < w.heap.size) => by omega) (.cells #[.int .i64 (t.sh j).cls, .slice (hd j).at (t.sh j).names.length (hd j).nc, .int .i64 (-1)] 65))
        obtain ⟨f, hf⟩ : ∃ f, fits k ns (t.sh j) = f := ⟨_, rfl⟩
        have FD := Lib.hid (show decide (((t.sh j).cls : Int) = k ∧ (t.sh j).names = ns) = f by rw [← hf]; unfold fits; simp [ha])
        have HF := Lib.hid hf
        clear ha hf
        go_wp2_with fail
        refine (is_any _ _ _ _ k _ _ _ ns _ _ _ T1.out T2.out (fun b h => by have := LF.out b h; simp; omega) (fun b (h : b < w.heap.size) => by simp; omega) (by omega) hl f FD.out).mono ?_
        rintro e w2 ⟨rfl, hb2⟩
        have HW2 := Lib.hid (HW.out.trans (hb2.mono (by simp; omega)))
        clear hb2
        cases f with
        | true =>
          have PF := Lib.hid (find_at_k j hlt hb.out HF.out)
          go_wp2_with fail
          go_ret2
          exact ⟨by unfold Tre.findI; rw [PF.out]; rfl, HW2.out⟩
        | false =>
          go_wp2_with fail
          go_roundw
          case rel => exact ⟨j + 1, by omega, by go_num, Lib.hid (all_snoc hb.out HF.out), HW2⟩
          case measure => simp [intOf]; omega
    · obtain rfl : j = t.L.length := by omega
      have PF := Lib.hid (find_no hb.out)
      go_wp2_with fail
      go_ret2
      exact ⟨by unfold Tre.findI; rw [PF.out]; rfl, hw.out⟩
set_option maxRecDepth 100000 in
set_option maxHeartbeats 2000000 in
theorem distinct_any (P : Nat → Prop) (A : Option Addr) (ns : List ByteArray) (c : Nat) (w : World) (h : SlS w P A ns) (hl : ns.length ≤ 64) (hc : ns.length ≤ c) (b : Bool) (hb : okNames ns = b) :
    Calls Tryz.prog 53 #[.slice A ns.length c] w fun e w' => e = .returned (.bool b) ∧ w = w' := by
  have H := Lib.hid h
  have HB := Lib.hid hb
  clear h hb
  go_enter Tryz.func53, Tryz.ntmps53
  go_wp2_with fail
  go_loop [7] (fun i => ∃ j : Nat, j ≤ ns.length ∧ i = .int .i64 j ∧ Hid (∀ x, x < j → ∀ y, ns[x]? = some y → y.size ≠ 0 ∧ ∀ i, i < x → ns[i]? ≠ some y)) (fun i => ns.length - (intOf i).toNat)
  case atStart => exact ⟨0, by omega, rfl, Lib.hid (fun i hi => by omega)⟩
  case round =>
    obtain ⟨j, hj, rfl, hg⟩ := hrel
    by_cases hlt : j < ns.length
    · have hji : (j : Int) < ns.length := by omega
      obtain ⟨ad, rfl, _, cj⟩ := H.out.get j hlt
      have HT := Lib.hid (show SlS w P (some ad) (ns.take j) from fun i z hz => H.out i z (by rw [List.getElem?_take] at hz; split at hz; exact hz; cases hz))
      have lt := Lib.hid (show (ns.take j).length = j by rw [List.length_take]; omega)
      obtain ⟨x, hx⟩ : ∃ x, ns[j] = x := ⟨_, rfl⟩
      rw [hx] at cj
      have HX := Lib.hid hx
      have hq : ns[j]? = some x := by rw [List.getElem?_eq_getElem hlt, hx]
      have HQ := Lib.hid hq
      clear hx hq
      by_cases hz : x.size = 0
      · have hxl : x.toList = [] := by rw [ByteArray.toList_eq]; exact List.eq_nil_of_length_eq_zero (by simpa using hz)
        have R := Lib.hid (show false = b by rw [← HB.out]; exact (not_ok_empty hlt (by rw [HX.out]; exact hz)).symm)
        clear hz
        go_wp2_with fail
        go_ret
        exact ⟨by rw [← R.out]; rfl, rfl⟩
      · have hte : x.toList.isEmpty = false := by
          rw [ByteArray.toList_eq]; cases h : x.data.toList with
          | nil => exact absurd (show x.size = 0 by show x.data.size = 0; rw [← Array.length_toList, h]; rfl) hz
          | cons => rfl
        obtain ⟨f, hf⟩ : ∃ f, decide (x ∈ ns.take j) = f := ⟨_, rfl⟩
        have HF := Lib.hid hf
        have NZ := Lib.hid hz
        clear hf hz
        have CT := Lib.hid (contains_any P (some ad) (ns.take j) c x w HT.out (by have := lt.out; omega) f HF.out)
        rw [lt.out] at CT
        go_wp2_with fail
        refine CT.out.mono ?_
        rintro e w' ⟨rfl, rfl⟩
        cases f with
        | true =>
          have R := Lib.hid (show false = b by
            rw [← HB.out]
            obtain ⟨i, hi, e⟩ := List.getElem_of_mem (of_decide_eq_true HF.out)
            have hij : i < j := by have := lt.out; omega
            rw [List.getElem_take] at e
            exact (not_ok_dup hij hlt (by rw [HX.out]; exact e)).symm)
          go_wp2_with fail
          go_ret
          exact ⟨by rw [← R.out]; rfl, rfl⟩
        | false =>
          have G := Lib.hid (all_snoc (P := fun x => ∀ y, ns[x]? = some y → y.size ≠ 0 ∧ ∀ i, i < x → ns[i]? ≠ some y) hg.out (fun y hy => by
            rw [HQ.out] at hy
            injection hy with hy
            subst hy
            exact ⟨NZ.out, fun i hi e => of_decide_eq_false HF.out (List.mem_of_getElem? (i := i) (by rw [List.getElem?_take, if_pos hi]; exact e))⟩))
          go_wp2_with fail
          go_round
          case rel => exact ⟨j + 1, by omega, by go_num, G⟩
          case measure => simp [intOf]; omega
    · obtain rfl : j = ns.length := by omega
      have R := Lib.hid (show true = b by rw [← HB.out]; exact (ok_all hl hg.out).symm)
      go_wp2_with fail
      go_ret
      exact ⟨by rw [← R.out]; rfl, rfl⟩
end Go.Proofs.YtjodmjadpooipaaGreatDoor.Sh
