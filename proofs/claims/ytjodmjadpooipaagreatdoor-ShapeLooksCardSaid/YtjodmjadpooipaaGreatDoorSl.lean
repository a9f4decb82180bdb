/-
  Contracts of what the laws of layer 8 share: names by numbers, lists of names, equality of lists.
-/
import Derived.Test.YtjodmjadpooipaaGreatDoorSk
namespace Go.Proofs.YtjodmjadpooipaaGreatDoor.Sh
open Go Go.RowKit

def nameL : List ByteArray := [⟨#[120]⟩, ⟨#[121]⟩, ⟨#[122]⟩, ⟨#[119]⟩, ⟨#[118]⟩, ⟨#[]⟩]
def nameOf (n : Int) : ByteArray := nameL.getD (n % 6).toNat ⟨#[]⟩
theorem name_mem (n : Int) : nameOf n ∈ nameL := by
  unfold nameOf
  rw [List.getD_eq_getElem?_getD, List.getElem?_eq_getElem (show (n % 6).toNat < nameL.length by show _ < 6; omega)]
  exact List.getElem_mem _
theorem nameL_size : ∀ x ∈ nameL, x.size ≤ 1 := by
  intro x hx
  simp only [nameL, List.mem_cons, List.not_mem_nil, or_false] at hx
  rcases hx with rfl | rfl | rfl | rfl | rfl | rfl <;> decide
theorem tm (n k : Int) (hk : 0 < k) : ∃ t, n.tmod k = t ∧ -k < t ∧ t < k ∧ (t + k) % k = n % k := by
  refine ⟨_, rfl, ?_⟩
  have h1 := Int.emod_nonneg n (show k ≠ 0 by omega)
  have h2 := Int.emod_lt_of_pos n hk
  rcases Int.le_total 0 n with h | h
  · rw [Int.tmod_eq_emod_of_nonneg h]
    refine ⟨by omega, h2, ?_⟩
    rw [Int.add_emod_right]; exact Int.emod_emod_of_dvd _ (Int.dvd_refl _)
  · have e : n.tmod k = -((-n) % k) := by
      have := Int.neg_tmod (-n) k
      rw [Int.neg_neg] at this
      rw [this, Int.tmod_eq_emod_of_nonneg (by omega)]
    have g1 := Int.emod_nonneg (-n) (show k ≠ 0 by omega)
    have g2 := Int.emod_lt_of_pos (-n) hk
    rw [e]
    refine ⟨by omega, by omega, ?_⟩
    rw [Int.add_emod_right]
    have : n = -((-n) % k) + k * (-((-n) / k)) := by
      have := Int.emod_add_mul_ediv (-n) k
      rw [Int.mul_neg]; omega
    conv => rhs; rw [this]
    rw [Int.add_mul_emod_self_left]
theorem name_any (n : Int) (hn : I64 n) (w : World) :
    Calls Tryz.prog 11 #[.int .i64 n] w fun e w' => e = .returned (.string (nameOf n)) ∧ Below w.heap.size w w' := by
  obtain ⟨hn1, hn2⟩ := hn
  obtain ⟨t, ht, h1, h2, e⟩ := tm n 6 (by omega)
  have E := Lib.hid e
  clear e
  rcases (show t = -5 ∨ t = -4 ∨ t = -3 ∨ t = -2 ∨ t = -1 ∨ t = 0 ∨ t = 1 ∨ t = 2 ∨ t = 3 ∨ t = 4 ∨ t = 5 by omega) with rfl | rfl | rfl | rfl | rfl | rfl | rfl | rfl | rfl | rfl | rfl
  all_goals
    clear h1 h2
    go_enter Tryz.func11, Tryz.ntmps11
    go_wp2
    go_ret
    exact ⟨by unfold nameOf; rw [← E.out]; rfl, (Below.refl _ _).alloc (Nat.le_refl _) _⟩
def someL (m : Nat) : List ByteArray := if m = 0 then [] else nameOf m :: someL (m / 6)
termination_by m
decreasing_by omega
theorem someL_zero : someL 0 = [] := by unfold someL; rfl
theorem someL_pos {m : Nat} (h : 0 < m) : someL m = nameOf m :: someL (m / 6) := by conv => lhs; unfold someL; rw [if_neg (by omega)]
def someOf (n : Int) : List ByteArray := someL (n % 216).toNat
theorem some_mem (m : Nat) : ∀ x ∈ someL m, x ∈ nameL := by
  induction m using Nat.strongRecOn with
  | _ m ih =>
    rcases Nat.eq_zero_or_pos m with h | h
    · subst h; rw [someL_zero]; intro x hx; cases hx
    · rw [someL_pos h]; intro x hx
      rcases List.mem_cons.1 hx with rfl | hx
      · exact name_mem _
      · exact ih (m / 6) (by omega) x hx
theorem some_len3 {m : Nat} (h : m < 216) : (someL m).length ≤ 3 := by
  have z : ∀ m, m < 1 → (someL m).length ≤ 0 := fun m h => by obtain rfl : m = 0 := by omega
                                                              rw [someL_zero]; exact Nat.le_refl _
  have s : ∀ k c, (∀ m, m < k → (someL m).length ≤ c) → ∀ m, m < 6 * k → (someL m).length ≤ c + 1 := fun k c hk m h => by
    rcases Nat.eq_zero_or_pos m with h0 | h0
    · subst h0; rw [someL_zero]; exact Nat.zero_le _
    · rw [someL_pos h0, List.length_cons]; have := hk (m / 6) (by omega); omega
  exact s 36 2 (s 6 1 (s 1 0 z)) m h
theorem infoS : (Tryz.prog.info? 9).map (fun i => (i.zero, i.size, i.bytes)) = some (some (.string ⟨#[]⟩), 1, 16) := by kernel_rfl
theorem onesS (ns : List ByteArray) : ∀ u ∈ ns.map Value.string, u.oneCell' = true := by
  intro u hu; obtain ⟨z, _, rfl⟩ := List.mem_map.1 hu; rfl
theorem oneNewS (w : World) (y : ByteArray) : ∀ j u, [Value.string y][j]? = some u → (w.alloc (.cells #[.string y] 9)).cell? ((⟨w.heap.size, 0, none⟩ : Addr).add j) = some u := by
  intro j u h
  rcases j with _ | j
  · injection h with h; subst h
    show (w.alloc _).cell? ⟨w.heap.size, 0, none⟩ = _
    rw [World.cell?_alloc_new]; rfl
  · simp at h
theorem OwnS.below {w w' : World} {base C : Nat} {v : Value} {ns : List ByteArray} (h : OwnS w base v ns) (hb : Below C w w') (hC : w.heap.size ≤ C) : OwnS w' base v ns :=
  h.kept (row := none) ⟨hb.os, hb.tape, hb.output, hb.size, fun i hi _ => hb.block i (by omega)⟩ (by cases hv : v.ownBlock <;> simp)
theorem OwnS.ge {w : World} {base : Nat} {v : Value} {ns : List ByteArray} (h : OwnS w base v ns) : ∀ k, v.ownBlock = some k → base ≤ k := fun k hk => (h.lt k hk).1
theorem ownS_snoc {w : World} {base : Nat} {v : Value} {ns : List ByteArray} {y : ByteArray} (h : w.ownsRow base 9 1 v (ns.length + 1) (ns.map Value.string ++ [.string y])) : OwnS w base v (ns ++ [y]) := by
  unfold OwnS
  rw [List.map_append, List.length_append]; exact h
theorem OwnS.nil (w : World) (base : Nat) : OwnS w base (.slice none 0 0) [] := World.ownsRow_nil _ _ _ _
/-- A world that a call has left: all that was there reads as before. -/
def Lft (w w' : World) (B : Nat) : Prop := Below B w w'
set_option maxHeartbeats 1000000 in
theorem some_any (n : Int) (hn : I64 n) (w : World) :
    Calls Tryz.prog 35 #[.int .i64 n] w fun e w' => ∃ v, e = .returned v ∧ OwnS w' w.heap.size v (someOf n) ∧ Below w.heap.size w w' := by
  obtain ⟨hn1, hn2⟩ := hn
  obtain ⟨t, ht, h1, h2, e⟩ := tm n 216 (by omega)
  obtain ⟨i0, hi0, hz0, hz1, hz2⟩ := info_parts infoS
  obtain ⟨m0, hm0⟩ : ∃ m0 : Nat, (t + 216) % 216 = m0 := Int.eq_ofNat_of_zero_le (by omega)
  have SO := Lib.hid (show someOf n = someL m0 by unfold someOf; rw [← e, hm0]; rfl)
  have M0 := Lib.hid hm0
  have M1 : m0 < 216 := by omega
  clear e hm0
  go_enter Tryz.func35, Tryz.ntmps35
  go_wp2
  rw [M0.out]
  clear ht h1 h2
  go_loopw [0, 3] (fun i v wr => ∃ (m : Nat) (acc : List ByteArray), m < 216 ∧ i = .int .i64 m ∧ Hid (acc ++ someL m = someL m0) ∧ Hid (OwnS wr w.heap.size v acc) ∧ Hid (Below w.heap.size w wr)) (fun i _ _ => (intOf i).toNat)
  case atStart => exact ⟨m0, [], M1, rfl, Lib.hid (by simp), Lib.hid (OwnS.nil _ _), Lib.hid (Below.refl _ _)⟩
  case round =>
    obtain ⟨m, acc, hm, rfl, ha, ho, hw⟩ := hrel
    by_cases hlt : 0 < m
    · have AL := Lib.hid (show acc.length ≤ 3 by
        have h1 := congrArg List.length ha.out
        have h2 := some_len3 M1
        rw [List.length_append] at h1; omega)
      have HA := Lib.hid (show (acc ++ [nameOf m]) ++ someL (m / 6) = someL m0 by rw [← ha.out, someL_pos hlt, List.append_assoc]; rfl)
      clear ha
      go_wp2_with fail
      refine (name_any m ⟨by omega, by omega⟩ _).mono ?_
      rintro e w1 ⟨rfl, hb⟩
      have HO := Lib.hid ((ho.out.below hb (Nat.le_refl _)).alloc (.cells #[.string (nameOf m)] 9))
      have HB := Lib.hid (hw.out.trans (hb.mono hw.out.size))
      clear hb ho hw
      go_wp2_with (at_builtin; refine wpList_append_own _ rfl _ _ 41 rfl w.heap.size 9 i0 (.string ⟨#[]⟩) 1 16 Tryz.underlying41 hi0 hz0 hz1 hz2 rfl (by decide) _ _ _ rfl HO.out ⟨_, 0, none⟩ 1 1 [.string (nameOf m)] rfl ?qc1 ?qc2 ?qc3 ?qc4 ?qc5 ?qc6 ?_)
      case qc1 => rfl
      case qc2 => exact oneNewS _ _
      case qc3 => exact onesS [nameOf m]
      case qc4 => have := AL.out; unfold maxLen; omega
      case qc5 => have := AL.out; omega
      case qc6 => rw [World.size_alloc]; have := HB.out.size; omega
      intro v' w2 hown hgrow _
      have hn := OwnS.ge HO.out
      have HW := Lib.hid (((HB.out.alloc HB.out.size (.cells #[.string (nameOf m)] 9)).grown hgrow (by rw [World.size_alloc]; have := HB.out.size; omega) hn))
      have HO' := Lib.hid (ownS_snoc hown)
      clear hown hgrow hn
      go_wp2
      go_roundw
      case rel => exact ⟨m / 6, acc ++ [nameOf m], by omega, by go_num, HA, HO', HW⟩
      case measure => simp [intOf]; omega
    · obtain rfl : m = 0 := by omega
      have := ha.out
      rw [someL_zero, List.append_nil] at this
      subst this
      go_wp2
      go_ret
      exact ⟨_, rfl, by rw [SO.out]; exact ho.out, hw.out⟩
theorem take_next (l : List ByteArray) (k : Nat) (h : k < l.length) : l.take (k + 1) = l.take k ++ [l[k]] := by rw [List.take_succ_eq_append_getElem h]
set_option maxHeartbeats 1000000 in
theorem strings_any (P Q : Nat → Prop) (A D : Option Addr) (zs ys : List ByteArray) (c d : Nat) (w : World) (h : SlS w P A zs) (h' : SlS w Q D ys) (hm : zs.length ≤ 8796093022208) (hm' : ys.length ≤ 8796093022208) :
    Calls Tryz.prog 22 #[.slice A zs.length c, .slice D ys.length d] w fun e w' => e = .returned (.bool (decide (zs = ys))) ∧ ∃ n, w' = w.drewN n := by
  by_cases hl : zs.length = ys.length
  · have H := Lib.hid h
    have H' := Lib.hid h'
    have HL := Lib.hid hl
    have hl1 : zs.length ≤ ys.length := by omega
    have hl2 : ys.length ≤ zs.length := by omega
    have hb : ((zs.length : Int) != (ys.length : Int)) = false := by simp [hl]
    clear h h' hl
    go_enter Tryz.func22, Tryz.ntmps22
    go_wp2
    clear hb
    go_loopw [5] (fun i wr => ∃ k : Nat, k ≤ zs.length ∧ i = .int .i64 k ∧ Hid (zs.take k = ys.take k) ∧ Hid (∃ n, wr = w.drewN n)) (fun i _ => zs.length - (intOf i).toNat)
    case atStart => exact ⟨0, by omega, rfl, Lib.hid (by simp), Lib.hid ⟨0, rfl⟩⟩
    case round =>
      obtain ⟨k, hk, rfl, ht, hw⟩ := hrel
      obtain ⟨n, rfl⟩ := hw.out
      by_cases hlt : k < zs.length
      · obtain ⟨ad, rfl, _, hc⟩ := H.out.get k hlt
        obtain ⟨ad', rfl, _, hc'⟩ := H'.out.get k (by omega)
        have h3 : (k : Int) < zs.length := by omega
        have h4 : (k : Int) < ys.length := by omega
        generalize hz : zs[k] = z at hc
        generalize hy : ys[k] = y at hc'
        have HZ := Lib.hid hz
        have HY := Lib.hid hy
        clear hz hy
        by_cases hzy : z = y
        · have HZY := Lib.hid hzy
          have hb : (z.toList == y.toList) = true := by simp [hzy]
          clear hzy
          go_wp2
          go_quiet (fail)
          clear hb
          go_wp2
          go_roundw
          case rel => exact ⟨k + 1, by omega, by go_num, Lib.hid (by rw [take_next _ _ hlt, take_next _ _ (show k < ys.length by omega), ht.out, HZ.out, HY.out, HZY.out]), Lib.hid ⟨_, rfl⟩⟩
          case measure => simp [intOf]; omega
        · have HZY := Lib.hid hzy
          have hb : (z.toList == y.toList) = false := by
            rw [beq_eq_false_iff_ne]
            exact fun e => HZY.out (WideShapes.bytes_inj (by rwa [ByteArray.toList_eq, ByteArray.toList_eq] at e))
          clear hzy
          go_wp2
          go_quiet (fail)
          clear hb
          go_wp2
          go_ret
          refine ⟨ret_bool ?_, _, World.drewN_drewN _ _ _⟩
          symm; rw [decide_eq_false_iff_not]
          intro e
          refine HZY.out ?_
          rw [← HZ.out, ← HY.out]; simp only [e]
      · go_wp2
        go_ret
        refine ⟨ret_bool ?_, _, rfl⟩
        symm; rw [decide_eq_true_eq]
        have := ht.out
        rwa [List.take_of_length_le (by omega), List.take_of_length_le (by omega)] at this
  · have hb : ((zs.length : Int) != (ys.length : Int)) = true := by simp; omega
    go_enter Tryz.func22, Tryz.ntmps22
    go_wp2
    go_ret
    refine ⟨ret_bool ?_, 0, rfl⟩
    symm; rw [decide_eq_false_iff_not]
    rintro rfl
    exact hl rfl
theorem strings_eq (P Q : Nat → Prop) (A D : Option Addr) (zs ys : List ByteArray) (c d : Nat) (w : World) (h : SlS w P A zs) (h' : SlS w Q D ys) (hm : zs.length ≤ 8796093022208) (hm' : ys.length ≤ 8796093022208) (e : zs = ys) :
    Calls Tryz.prog 22 #[.slice A zs.length c, .slice D ys.length d] w fun e w' => e = .returned (.bool true) ∧ ∃ n, w' = w.drewN n :=
  (strings_any P Q A D zs ys c d w h h' hm hm').mono fun _ _ ⟨he, hw⟩ => ⟨by rw [he, decide_eq_true e], hw⟩
theorem strings_ne (P Q : Nat → Prop) (A D : Option Addr) (zs ys : List ByteArray) (c d : Nat) (w : World) (h : SlS w P A zs) (h' : SlS w Q D ys) (hm : zs.length ≤ 8796093022208) (hm' : ys.length ≤ 8796093022208) (e : zs ≠ ys) :
    Calls Tryz.prog 22 #[.slice A zs.length c, .slice D ys.length d] w fun e w' => e = .returned (.bool false) ∧ ∃ n, w' = w.drewN n :=
  (strings_any P Q A D zs ys c d w h h' hm hm').mono fun _ _ ⟨he, hw⟩ => ⟨by rw [he, decide_eq_false e], hw⟩
end Go.Proofs.YtjodmjadpooipaaGreatDoor.Sh
