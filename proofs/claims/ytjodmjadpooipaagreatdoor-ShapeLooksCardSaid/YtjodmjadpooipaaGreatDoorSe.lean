/-
  What do does with a tree.
-/
import Derived.Test.YtjodmjadpooipaaGreatDoorSd
import Derived.Deep.RegionLaw
import Derived.Deep.RegionHeld3
namespace Go.Proofs.YtjodmjadpooipaaGreatDoor.Sh
open Go Go.RowKit

/-- The tree is there; what was there before is as it was. -/
structure St (K : Kit) (w0 w : World) (p : Nat) (t : Tre) (F : Nat → Prop) : Prop where
  h : K.H w p t F
  b : Below w0.heap.size w0 w
theorem St.below {K : Kit} {w0 w w' : World} {p : Nat} {t : Tre} {F : Nat → Prop} (h : St K w0 w p t F) (hb : Below w.heap.size w w') : St K w0 w' p t F := ⟨K.below h.h hb, h.b.trans (hb.mono h.b.size)⟩
theorem St.drew {K : Kit} {w0 w : World} {p : Nat} {t : Tre} {F : Nat → Prop} (h : St K w0 w p t F) : St K w0 w.drew p t F := ⟨K.drewN h.h 1, h.b.drew⟩
theorem St.drewN {K : Kit} {w0 w : World} {p : Nat} {t : Tre} {F : Nat → Prop} (h : St K w0 w p t F) (n : Nat) : St K w0 (w.drewN n) p t F := ⟨K.drewN h.h n, h.b.trans ⟨rfl, rfl, rfl, Nat.le_refl _, fun _ _ => rfl⟩⟩
theorem St.alloc {K : Kit} {w0 w : World} {p : Nat} {t : Tre} {F : Nat → Prop} (h : St K w0 w p t F) (o : Obj) : St K w0 (w.alloc o) p t F := ⟨K.alloc h.h o, h.b.alloc h.b.size o⟩
theorem xOf_bd (a b m : Int) (h : 0 < m) : -1 ≤ xOf a b m ∧ xOf a b m ≤ m - 1 := by
  unfold xOf
  have h1 := Int.emod_nonneg a (show m ≠ 0 by omega)
  have h2 := Int.emod_lt_of_pos a h
  omega
theorem rem_facts (a m : Int) (h : 0 < m) (hm : m ≤ 1000) : ∃ t, a.tmod m = t ∧ -m < t ∧ t < m ∧ IntKind.i64.wrap (t + m) = t + m ∧ (t + m).tmod m = a % m ∧ (t + m) % m = a % m := by
  obtain ⟨t, h1, h2, h3, h4⟩ := tm a m h
  refine ⟨t, h1, h2, h3, IntWalk.i64_in _ ⟨by omega, by omega⟩, ?_, h4⟩
  rw [Int.tmod_eq_emod_of_nonneg (by omega), h4]
theorem SlS.free {K : Kit} {w w3 : World} {A : Option Addr} {ns : List ByteArray} {p : Nat} {t : Tre} {F : Nat → Prop} (h : SlS w3 (fun b => w.heap.size ≤ b ∧ b < w3.heap.size) A ns) (hK : K.H w p t F) : SlS w3 (fun b => b < w3.heap.size ∧ ¬ F b) A ns :=
  h.keep fun b hb => ⟨⟨hb.2, fun e => by have := K.lt hK b e; omega⟩, rfl⟩
theorem someOf_len (n : Int) : (someOf n).length ≤ 3 := some_len3 (by have := Int.emod_lt_of_pos n (show 0 < (216 : Int) by decide); omega)
set_option maxHeartbeats 2000000 in
theorem do_any (K : Kit) (w : World) (p : Nat) (t : Tre) (F : Nat → Prop) (mm : Nat) (x : Act) (n : Nat) (h : K.H w p t F) (hw : t.WF mm) (hx : x.OK) (hn : n ≤ 200) :
    Calls Tryz.prog 30 #[.pointer (some ⟨p, 0, none⟩), .agg #[.int .i64 x.what, .int .i64 x.a, .int .i64 x.b, .int .i64 x.nm], .int .i64 n] w (DoTo K w p F (doT t x ((n : Int) + 1))) := by
  obtain ⟨q, a, b, nm⟩ := x
  obtain ⟨⟨q1, q2⟩, ⟨a1, a2⟩, ⟨b1, b2⟩, hnm⟩ := hx
  simp only at q1 q2 a1 a2 b1 b2 hnm
  obtain ⟨N1, N2⟩ := hnm
  have HW := Lib.hid hw
  have bx1 := xOf_bd a b ((n : Int) + 1) (by omega)
  have bx2 := xOf_bd b a ((n : Int) + 1) (by omega)
  obtain ⟨u1, u2⟩ := bx1
  obtain ⟨u3, u4⟩ := bx2
  obtain ⟨t1, e1, l1, g1, s1, r1, _⟩ := rem_facts a ((n : Int) + 1) (by omega) (by omega)
  obtain ⟨t2, e2, l2, g2, s2, r2, _⟩ := rem_facts b ((n : Int) + 1) (by omega) (by omega)
  have c1 : bits .and .i64 a 1 = a % 2 := and_one a
  have c2 : bits .and .i64 b 1 = b % 2 := and_one b
  have ka1 := Int.emod_nonneg a (show (n : Int) + 1 ≠ 0 by omega)
  have ka2 := Int.emod_lt_of_pos a (show 0 < (n : Int) + 1 by omega)
  have kb1 := Int.emod_nonneg b (show (n : Int) + 1 ≠ 0 by omega)
  have kb2 := Int.emod_lt_of_pos b (show 0 < (n : Int) + 1 by omega)
  have s3 : IntKind.i64.wrap (a % ((n : Int) + 1) - 1) = a % ((n : Int) + 1) - 1 := IntWalk.i64_in _ ⟨by omega, by omega⟩
  have s4 : IntKind.i64.wrap (b % ((n : Int) + 1) - 1) = b % ((n : Int) + 1) - 1 := IntWalk.i64_in _ ⟨by omega, by omega⟩
  have s5 : IntKind.i64.wrap (a % ((n : Int) + 1) - 1 + b % 2) = xOf a b ((n : Int) + 1) := IntWalk.i64_in _ ⟨by omega, by omega⟩
  have s6 : IntKind.i64.wrap (b % ((n : Int) + 1) - 1 + a % 2) = xOf b a ((n : Int) + 1) := IntWalk.i64_in _ ⟨by omega, by omega⟩
  have n0 : ¬ ((n : Int) + 1 = 0) := by omega
  obtain ⟨t7, e7, l7, g7, v7⟩ := tm q 7 (by omega)
  have V7 := Lib.hid v7
  obtain ⟨r7, hr7⟩ : ∃ r, q % 7 = r := ⟨_, rfl⟩
  have v7' : (t7 + 7) % 7 = r7 := by rw [← hr7]; exact v7
  have R7 := Lib.hid hr7
  have NF := Lib.hid (show ¬ F w.heap.size from fun e => Nat.lt_irrefl _ (K.lt h _ e))
  have hs := Lib.hid ((St.mk h (Below.refl _ _)).alloc (.cells #[.int .i64 q, .int .i64 a, .int .i64 b, .int .i64 nm] 35))
  have d0 : (w.alloc (.cells #[.int .i64 q, .int .i64 a, .int .i64 b, .int .i64 nm] 35)).cell? ⟨w.heap.size, 0, none⟩ = some (.int .i64 q) := (Bk.new w _ _).cell 0 _ rfl
  have d1 : (w.alloc (.cells #[.int .i64 q, .int .i64 a, .int .i64 b, .int .i64 nm] 35)).cell? ⟨w.heap.size, 1, none⟩ = some (.int .i64 a) := (Bk.new w _ _).cell 1 _ rfl
  have d2 : (w.alloc (.cells #[.int .i64 q, .int .i64 a, .int .i64 b, .int .i64 nm] 35)).cell? ⟨w.heap.size, 2, none⟩ = some (.int .i64 b) := (Bk.new w _ _).cell 2 _ rfl
  have d3 : (w.alloc (.cells #[.int .i64 q, .int .i64 a, .int .i64 b, .int .i64 nm] 35)).cell? ⟨w.heap.size, 3, none⟩ = some (.int .i64 nm) := (Bk.new w _ _).cell 3 _ rfl
  have lt0 : w.heap.size < (w.alloc (.cells #[.int .i64 q, .int .i64 a, .int .i64 b, .int .i64 nm] 35)).heap.size := by simp
  clear h hw v7 hr7
  go_enter Tryz.func30, Tryz.ntmps30
  go_wp2_with fail
  generalize w.alloc (.cells #[.int .i64 q, .int .i64 a, .int .i64 b, .int .i64 nm] 35) = w0 at *
  go_quiet (fail)
  have hs1 := Lib.hid (hs.out.drewN nq)
  have d0' : (w0.drewN nq).cell? ⟨w.heap.size, 0, none⟩ = some (.int .i64 q) := d0
  have d1' : (w0.drewN nq).cell? ⟨w.heap.size, 1, none⟩ = some (.int .i64 a) := d1
  have d2' : (w0.drewN nq).cell? ⟨w.heap.size, 2, none⟩ = some (.int .i64 b) := d2
  have d3' : (w0.drewN nq).cell? ⟨w.heap.size, 3, none⟩ = some (.int .i64 nm) := d3
  clear d0 d1 d2 d3 hs
  have d0 := d0'
  have d1 := d1'
  have d2 := d2'
  have d3 := d3'
  have hs := hs1
  clear d0' d1' d2' d3' hs1
  have lt0 : w.heap.size < (w0.drewN nq).heap.size := lt0
  generalize w0.drewN nq = w1 at *
  go_wp2_with fail
  go_quiet (fail)
  have hs1 := Lib.hid (hs.out.drewN nq)
  have d0' : (w1.drewN nq).cell? ⟨w.heap.size, 0, none⟩ = some (.int .i64 q) := d0
  have d1' : (w1.drewN nq).cell? ⟨w.heap.size, 1, none⟩ = some (.int .i64 a) := d1
  have d2' : (w1.drewN nq).cell? ⟨w.heap.size, 2, none⟩ = some (.int .i64 b) := d2
  have d3' : (w1.drewN nq).cell? ⟨w.heap.size, 3, none⟩ = some (.int .i64 nm) := d3
  clear d0 d1 d2 d3 hs
  have d0 := d0'
  have d1 := d1'
  have d2 := d2'
  have d3 := d3'
  have hs := hs1
  clear d0' d1' d2' d3' hs1
  have lt0 : w.heap.size < (w1.drewN nq).heap.size := lt0
  generalize w1.drewN nq = w2 at *
  clear e1 e2 s1 s2 r1 r2 c1 c2 s3 s4 s5 s6 n0 ka1 ka2 kb1 kb2
  generalize hX : xOf a b ((n : Int) + 1) = X at *
  generalize hY : xOf b a ((n : Int) + 1) = Y at *
  have HX := Lib.hid hX
  have HY := Lib.hid hY
  clear hX hY
  by_cases h4 : r7 = 4
  · subst h4
    have E := Lib.hid (show doT t ⟨q, a, b, nm⟩ ((n : Int) + 1) = ((0, (t.merge X Y).1), (t.merge X Y).2) by
      unfold doT; rw [if_pos R7.out, HX.out, HY.out])
    clear d1 d2 d3
    go_wp2_with fail
    refine (K.merge _ p t F mm X Y hs.out.h HW.out ⟨by omega, by omega⟩ ⟨by omega, by omega⟩).mono ?_
    rintro e w' ⟨F', rfl, h1, h2, h3⟩
    have G := Lib.hid (DoTo.of (r := ((0, (t.merge X Y).1), (t.merge X Y).2)) hs.out.b h1 h2 h3)
    clear h1 h2 h3
    go_wp2_with fail
    go_ret2
    rw [E.out]; exact G.out
  · by_cases h5 : r7 = 5
    · subst h5
      have E := Lib.hid (show doT t ⟨q, a, b, nm⟩ ((n : Int) + 1) = t.split X by
        unfold doT; rw [if_neg (by rw [R7.out]; decide), if_pos R7.out, HX.out])
      clear d1 d2 d3
      go_wp2_with fail
      refine (K.split _ p t F mm X hs.out.h HW.out ⟨by omega, by omega⟩).mono ?_
      rintro e w' ⟨F', rfl, h1, h2, h3⟩
      have G := Lib.hid (DoTo.of (r := t.split X) hs.out.b h1 h2 h3)
      clear h1 h2 h3
      go_wp2_with fail
      go_ret2
      rw [E.out]; exact G.out
    · by_cases h6 : r7 = 6
      · subst h6
        have E := Lib.hid (show doT t ⟨q, a, b, nm⟩ ((n : Int) + 1) = t.make (b.tmod 3) (someOf a) by
          unfold doT; rw [if_neg (by rw [R7.out]; decide), if_neg (by rw [R7.out]; decide), if_pos R7.out])
        obtain ⟨t3, h3, l3, g3, _⟩ := tm b 3 (by omega)
        have H3 := Lib.hid h3
        have IA := Lib.hid (show I64 a from ⟨a1, a2⟩)
        have IT := Lib.hid (show I64 t3 from ⟨by omega, by omega⟩)
        have LS := Lib.hid (show (someOf a).length ≤ 8796093022208 by have := someOf_len a; omega)
        have SS := Lib.hid (show ∀ x ∈ someOf a, x.size ≤ maxLen from fun x hx => by have := nameL_size x (some_mem _ x hx); unfold maxLen; omega)
        go_wp2_with fail
        go_region_held3 (fun w' => w'.cell? ⟨w.heap.size, 1, none⟩ = some (.int .i64 a) ∧ w'.cell? ⟨w.heap.size, 2, none⟩ = some (.int .i64 b)) (first | exact ⟨d1, d2⟩) ((first
          | (go_at_call 35
             (with_reducible refine (some_any a IA.out _).mono ?_)
             rintro e w3 ⟨v, rfl, ho, hb⟩
             obtain ⟨A, c, rfl, hz0, hsl⟩ := ho.form
             have hcp := ho.cap
             have HZ := Lib.hid hz0
             clear hz0
             (first | have SL := Lib.hid (hsl.free hs.out.h) | have SL := Lib.hid (hsl.free hs.out.drew.h) | have SL := Lib.hid (hsl.free hs.out.drew.drew.h))
             (first | replace hs := Lib.hid (hs.out.below hb) | replace hs := Lib.hid (hs.out.drew.below hb) | replace hs := Lib.hid (hs.out.drew.drew.below hb))
             replace d1 := (hb.cell (p := ⟨w.heap.size, 1, none⟩) lt0).trans d1
             replace d2 := (hb.cell (p := ⟨w.heap.size, 2, none⟩) lt0).trans d2
             have lt3 : w.heap.size < w3.heap.size := Nat.lt_of_lt_of_le lt0 hb.size
             clear ho hb hsl)
          | (go_at_call 29
             (refine (K.make _ p t F mm t3 _ (someOf a) _ (by first | exact hs.out.h | exact hs.out.drew.h | exact hs.out.drew.drew.h) HW.out IT.out SL.out LS.out SS.out hcp HZ.out).mono ?_)
             rintro e w' ⟨F', rfl, h1, h2, h3⟩
             have G := Lib.hid (DoTo.of (r := t.make t3 (someOf a)) (by first | exact hs.out.b | exact hs.out.drew.b | exact hs.out.drew.drew.b) h1 h2 h3)
             replace d1 := (h2.cell (p := ⟨w.heap.size, 1, none⟩) lt3 NF.out).trans d1
             replace d2 := (h2.cell (p := ⟨w.heap.size, 2, none⟩) lt3 NF.out).trans d2
             clear h1 h2 h3)))
        go_wp2_with fail
        go_ret2
        rw [E.out, H3.out]; exact G.out
      · have E := Lib.hid (show doT t ⟨q, a, b, nm⟩ ((n : Int) + 1) = t.add X (nameOf nm) by
          unfold doT; rw [if_neg (by rw [R7.out]; exact h4), if_neg (by rw [R7.out]; exact h5), if_neg (by rw [R7.out]; exact h6), HX.out])
        have f4 : (r7 == 4) = false := by simpa using h4
        have f5 : (r7 == 5) = false := by simpa using h5
        have f6 : (r7 == 6) = false := by simpa using h6
        clear h4 h5 h6 d1 d2
        go_wp2_with fail
        refine (name_any nm ⟨by omega, by omega⟩ _).mono ?_
        rintro e w3 ⟨rfl, hb⟩
        have hs3 := Lib.hid (hs.out.below hb)
        clear hb hs d0 d3
        go_wp2_with fail
        refine (K.add _ p t F mm X (nameOf nm) hs3.out.h HW.out ⟨by omega, by omega⟩ (by have := nameL_size _ (name_mem nm); unfold maxLen; omega)).mono ?_
        rintro e w' ⟨F', rfl, h1, h2, h3⟩
        have G := Lib.hid (DoTo.of (r := t.add X (nameOf nm)) hs3.out.b h1 h2 h3)
        clear h1 h2 h3
        go_wp2_with fail
        go_ret2
        rw [E.out]; exact G.out
end Go.Proofs.YtjodmjadpooipaaGreatDoor.Sh
