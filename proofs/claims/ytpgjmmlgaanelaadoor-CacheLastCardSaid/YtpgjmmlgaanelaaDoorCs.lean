/-
  Two sites, apart; the examples of the chapter: the laws' sanity.
-/
import Derived.Test.YtpgjmmlgaanelaaDoorCk
namespace Go.Proofs.YtpgjmmlgaanelaaDoor.Ch
open Go Go.RowKit

/-- Two sites, apart. -/
structure Two (K : Kit) (w0 w : World) (p : Nat) (t : Ste) (F : Nat → Prop) (n : Nat) (q : Nat) (u : Ste) (G : Nat → Prop) (m : Nat) : Prop where
  a : Tr K w0 w p t F n
  b : Tr K w0 w q u G m
  d : ∀ x, G x → ¬ F x
section
variable {K : Kit} {w0 w w' : World} {p q n m n' m' : Nat} {t t' u u' : Ste} {F F' G G' : Nat → Prop}
theorem Two.below (h : Two K w0 w p t F n q u G m) (hb : Below w.heap.size w w') : Two K w0 w' p t F n q u G m := ⟨h.a.below hb, h.b.below hb, h.d⟩
theorem Two.drewN (h : Two K w0 w p t F n q u G m) (k : Nat) : Two K w0 (w.drewN k) p t F n q u G m := ⟨h.a.drewN k, h.b.drewN k, h.d⟩
theorem Two.drew (h : Two K w0 w p t F n q u G m) : Two K w0 w.drew p t F n q u G m := h.drewN 1
theorem Two.alloc (h : Two K w0 w p t F n q u G m) (o : Obj) : Two K w0 (w.alloc o) p t F n q u G m := ⟨h.a.alloc o, h.b.alloc o, h.d⟩
theorem Two.fst (h : Two K w0 w p t F n q u G m) (h' : Tr K w0 w' p t' F' n') (c : Chg F w w') (s : Sub F F' w) : Two K w0 w' p t' F' n' q u G m :=
  ⟨h', ⟨K.keep h.b.h fun b hb => c.block b (K.lt h.b.h b hb) (h.d b hb), h'.b, h.b.f, h.b.v, h.b.k, h.b.s⟩, fun b hb e => (s b e).elim (h.d b hb) (by have := K.lt h.b.h b hb; omega)⟩
theorem Two.snd (h : Two K w0 w p t F n q u G m) (h' : Tr K w0 w' q u' G' m') (c : Chg G w w') (s : Sub G G' w) : Two K w0 w' p t F n q u' G' m' :=
  ⟨⟨K.keep h.a.h fun b hb => c.block b (K.lt h.a.h b hb) (fun e => h.d b e hb), h'.b, h.a.f, h.a.v, h.a.k, h.a.s⟩, h', fun b hb e => (s b hb).elim (fun g => h.d b g e) (by have := K.lt h.a.h b e; omega)⟩
theorem Two.mk' (h : Tr K w0 w p t F n) (h' : Tr K w0 w' q u G m) (hb : Below w.heap.size w w') (hG : ∀ b, G b → w.heap.size ≤ b) : Two K w0 w' p t F n q u G m :=
  ⟨h.below hb, h', fun b hb e => by have := hG b hb; have := K.lt h.h b e; omega⟩
end
theorem i64 {n : Int} (h : -9223372036854775808 ≤ n) (h' : n ≤ 9223372036854775807) : I64 n := ⟨h, h'⟩
def sA : Ste := (st0.find 7).2
def sB : Ste := (sA.learn 7 2).2
def sC : Ste := (sB.find 7).2
def tL (k : Nat) : Ste := ⟨[((1 : Int), (5 : Int)), (2, 6), (3, 7), (4, 8)].take k, false, 0, 0⟩
def tF : Ste := ((tL 4).learn 5 9).2
def uA : Ste := (st0.learn 3 0).2
def uB : Ste := (uA.learn 3 1).2
def uC : Ste := (uB.learn 4 1).2
theorem q0 : st0.find 7 = ((0, false), sA) := by kernel_rfl
theorem q1 : sA.learn 7 2 = (0, sB) := by kernel_rfl
theorem q2 : sB.find 7 = ((2, true), sC) := by kernel_rfl
theorem q3 : sC.hits = 1 := by kernel_rfl
theorem q4 : sC.miss = 1 := by kernel_rfl
theorem q5 {k : Nat} (h : k < 4) : (tL k).learn ((k : Int) + 1) ((k : Int) + 5) = (0, tL (k + 1)) := by
  rcases (show k = 0 ∨ k = 1 ∨ k = 2 ∨ k = 3 by omega) with rfl | rfl | rfl | rfl <;> kernel_rfl
theorem q6 : (tL 4).state = 2 := by kernel_rfl
theorem q7 : (tL 4).learn 5 9 = (2, tF) := by kernel_rfl
theorem q8 : tF.state = 3 := by kernel_rfl
def bFull : ByteArray := ⟨#[102, 117, 108, 108]⟩
theorem q9 : tF.text = bFull.data.toList := by kernel_rfl
theorem q10 : tF.shapes = [] := by kernel_rfl
theorem q11 : st0.learn 3 0 = (0, uA) := by kernel_rfl
theorem q12 : uA.learn 3 1 = (0, uB) := by kernel_rfl
theorem q13 : uB.learn 4 1 = (0, uC) := by kernel_rfl
def bU : ByteArray := ⟨#[51, 58, 49, 32, 52, 58, 49]⟩
theorem q14 : uC.text = bU.data.toList := by kernel_rfl
set_option maxRecDepth 100000 in
set_option maxHeartbeats 4000000 in
theorem sanity_any (K : Kit) (w : World) (hv : K.V w) : Calls Tryd.prog 10 #[] w fun e w' => e = .returned (.bool true) ∧ Below w.heap.size w w' := by
  have HV := Lib.hid hv
  clear hv
  go_enter Tryd.func10, Tryd.ntmps10
  go_wp2_with fail
  refine (new_at (w0 := w) HV.out (Below.refl _ _)).mono ?_
  rintro e w1 ⟨p, F, rfl, h, _⟩
  have hs := Lib.hid h
  clear h
  go_wp2_with fail
  refine (find_at hs.out (by omega) (i64 (by omega) (by omega)) q0).mono ?_
  rintro e w2 ⟨F1, rfl, h, _⟩
  replace hs := Lib.hid h
  clear h
  go_wp2_with fail
  refine (learn_at hs.out (i64 (by omega) (by omega)) (i64 (by omega) (by omega)) q1).mono ?_
  rintro e w3 ⟨F2, rfl, h, _⟩
  replace hs := Lib.hid h
  clear h
  go_wp2_with fail
  refine (find_at hs.out (by omega) (i64 (by omega) (by omega)) q2).mono ?_
  rintro e w4 ⟨F3, rfl, h, _⟩
  replace hs := Lib.hid h
  clear h
  go_wp2_with fail
  refine (counts_at hs.out q3 q4).mono ?_
  rintro e w5 ⟨rfl, h, _⟩
  have HB := Lib.hid h.b
  clear h hs
  go_wp2_with fail
  refine (new_at (w0 := w) HV.out HB.out).mono ?_
  rintro e w6 ⟨p1, G, rfl, h1, _, _⟩
  have T1 := Lib.hid h1
  clear h1
  go_wp2_with fail
  refine (new_at (w0 := w) HV.out T1.out.b).mono ?_
  rintro e w7 ⟨p2, G2, rfl, h2, hb2, hG2⟩
  have TW := Lib.hid (Two.mk' T1.out h2 hb2 hG2)
  clear h2 hb2 hG2 T1 HB
  go_wp2_with fail
  go_loopw [56] (fun i wr => ∃ (k : Nat) (G : Nat → Prop), k ≤ 4 ∧ i = .int .i64 k ∧ Hid (Two K w wr p1 (tL k) G 0 p2 st0 G2 0)) (fun i _ => 4 - (intOf i).toNat)
  case atStart => exact ⟨0, G, by omega, rfl, TW⟩
  case round =>
    clear TW
    obtain ⟨k, G, hk, rfl, TW⟩ := hrel
    by_cases hlt : k < 4
    · go_wp2_with fail
      refine (learn_at TW.out.a (i64 (by omega) (by omega)) (i64 (by omega) (by omega)) (q5 hlt)).mono ?_
      rintro e w8 ⟨G', rfl, h, c, s⟩
      replace TW := Lib.hid (TW.out.fst h c s)
      clear h c s
      go_wp2_with fail
      go_roundw
      case rel => exact ⟨k + 1, G', by omega, by go_num, TW⟩
      case measure => simp [intOf]; omega
    · obtain rfl : k = 4 := by omega
      go_wp2_with fail
      refine (state_at TW.out.a q6).mono ?_
      rintro e w9 ⟨rfl, _, hb⟩
      replace TW := Lib.hid (TW.out.below hb)
      clear hb
      go_wp2_with fail
      refine (learn_at TW.out.a (i64 (by omega) (by omega)) (i64 (by omega) (by omega)) q7).mono ?_
      rintro e w10 ⟨G', rfl, h, c, s⟩
      replace TW := Lib.hid (TW.out.fst h c s)
      clear h c s
      go_wp2_with fail
      refine (state_at TW.out.a q8).mono ?_
      rintro e w11 ⟨rfl, _, hb⟩
      replace TW := Lib.hid (TW.out.below hb)
      clear hb
      go_wp2_with fail
      refine (text_at TW.out.a q9).mono ?_
      rintro e w12 ⟨rfl, _, hb⟩
      replace TW := Lib.hid (TW.out.below hb)
      clear hb
      have HF : bFull = ⟨#[102, 117, 108, 108]⟩ := rfl
      go_wp2_with fail
      refine (shapes_at TW.out.a q10).mono ?_
      rintro e w13 ⟨v, rfl, ho, _, hb⟩
      obtain ⟨A1, c1, rfl, _⟩ := ho.form
      replace TW := Lib.hid (TW.out.below hb)
      clear hb ho
      go_wp2_with fail
      refine (learn_at TW.out.b (i64 (by omega) (by omega)) (i64 (by omega) (by omega)) q11).mono ?_
      rintro e w14 ⟨G3, rfl, h, c, s⟩
      replace TW := Lib.hid (TW.out.snd h c s)
      clear h c s
      go_wp2_with fail
      refine (learn_at TW.out.b (i64 (by omega) (by omega)) (i64 (by omega) (by omega)) q12).mono ?_
      rintro e w15 ⟨G4, rfl, h, c, s⟩
      replace TW := Lib.hid (TW.out.snd h c s)
      clear h c s
      go_wp2_with fail
      refine (learn_at TW.out.b (i64 (by omega) (by omega)) (i64 (by omega) (by omega)) q13).mono ?_
      rintro e w16 ⟨G5, rfl, h, c, s⟩
      replace TW := Lib.hid (TW.out.snd h c s)
      clear h c s
      go_wp2_with fail
      refine (text_at TW.out.b q14).mono ?_
      rintro e w17 ⟨rfl, _, hb⟩
      replace TW := Lib.hid (TW.out.below hb)
      clear hb
      have HT : bU = ⟨#[51, 58, 49, 32, 52, 58, 49]⟩ := rfl
      go_wp2_with fail
      go_ret
      exact ⟨rfl, TW.out.a.b⟩
end Go.Proofs.YtpgjmmlgaanelaaDoor.Ch
