/-
  Calls played: the tree that they make.
-/
import Derived.Test.YtjodmjadpooipaaGreatDoorSt
import Derived.Deep.RegionLaw
import Derived.Deep.RegionHeld3
namespace Go.Proofs.YtjodmjadpooipaaGreatDoor.Sh
open Go Go.RowKit

/-- A slice of acts that is read. -/
def ActS (w : World) (B : Nat) (A : Option Addr) (l : List Act) : Prop :=
  ∀ j x, l[j]? = some x → ∃ b o, A = some ⟨b, o, none⟩ ∧ b < B ∧ w.cell? ⟨b, o + j * 4, none⟩ = some (.int .i64 x.what) ∧ w.cell? ⟨b, o + j * 4 + 1, none⟩ = some (.int .i64 x.a) ∧
    w.cell? ⟨b, o + j * 4 + 2, none⟩ = some (.int .i64 x.b) ∧ w.cell? ⟨b, o + j * 4 + 3, none⟩ = some (.int .i64 x.nm)
theorem ActS.below {w w' : World} {B C : Nat} {A : Option Addr} {l : List Act} (h : ActS w B A l) (hb : Below C w w') (hB : B ≤ C) : ActS w' B A l := fun j x hx => by
  obtain ⟨b, o, rfl, hlt, h0, h1, h2, h3⟩ := h j x hx
  refine ⟨b, o, rfl, hlt, ?_, ?_, ?_, ?_⟩
  · rw [hb.cell (by show b < C; omega)]; exact h0
  · rw [hb.cell (by show b < C; omega)]; exact h1
  · rw [hb.cell (by show b < C; omega)]; exact h2
  · rw [hb.cell (by show b < C; omega)]; exact h3
theorem play_take (t : Tre) (l : List Act) (k : Nat) (h : k < l.length) : playT t (l.take (k + 1)) = (doT (playT t (l.take k)) l[k] (((playT t (l.take k)).L.length : Int) + 1)).2 := by
  rw [List.take_succ_eq_append_getElem h, playT_snoc]
set_option maxHeartbeats 4000000 in
theorem played_any (K : Kit) (n : Int) (hn : I64 n) (acts : List Act) (A : Option Addr) (c B : Nat) (w : World) (ha : ActS w B A acts) (hB : B ≤ w.heap.size) (hl : acts.length ≤ 4398046511104) (hok : ∀ x ∈ acts, x.OK) (hv : K.V w) :
    Calls Tryz.prog 5 #[.int .i64 n, .slice A acts.length c] w fun e w' => ∃ p F, e = .returned (.pointer (some ⟨p, 0, none⟩)) ∧ Tr K w w' p (playT (newT (clsOf n)) (acts.take 60)) F := by
  have HA := Lib.hid ha
  have HOK := Lib.hid hok
  have HV := Lib.hid hv
  clear ha hok hv
  go_enter Tryz.func5, Tryz.ntmps5
  go_wp2_with fail
  refine (classes_any n hn _).mono ?_
  rintro e w1 ⟨g, rfl, hg, hc, hb⟩
  go_wp2_with fail
  refine (new_at (K := K) (w0 := w) HV.out hb hc (by have := clsOf_len n; omega) ?_).mono ?_
  · intro ns h; rcases clsOf_mem n ns h with rfl | rfl <;> decide
  rintro e w2 ⟨p, F, rfl, hs⟩
  have HS := Lib.hid hs
  have HI := Lib.hid (cls_inv n)
  clear hb hc hg hs
  obtain ⟨t0, ht0⟩ : ∃ t0, newT (clsOf n) = t0 := ⟨_, rfl⟩
  rw [ht0] at HS HI
  have T0 := Lib.hid ht0
  clear ht0
  go_wp2_with fail
  go_loopw [6] (fun i wr => ∃ (k : Nat) (F : Nat → Prop), k ≤ 60 ∧ k ≤ acts.length ∧ i = .int .i64 k ∧ Hid (Tr K w wr p (playT t0 (acts.take k)) F)) (fun i _ => 60 - (intOf i).toNat)
  case atStart => exact ⟨0, F, by omega, by omega, rfl, HS⟩
  case round =>
    obtain ⟨k, F, h60, hk, rfl, hs⟩ := hrel
    by_cases h1 : k < acts.length
    · by_cases h2 : k < 60
      · obtain ⟨b, o, rfl, hb, c0, c1, c2, c3⟩ := HA.out.below hs.out.b hB k _ (List.getElem?_eq_getElem h1)
        have HX := Lib.hid (HOK.out _ (List.getElem_mem h1))
        have PT := Lib.hid (play_take t0 acts k h1)
        have IN := Lib.hid (playT_inv (acts.take k) HI.out)
        generalize acts[k] = x at *
        generalize playT t0 (acts.take k) = t at *
        obtain ⟨N, hN⟩ : ∃ N, t.L.length = N := ⟨_, rfl⟩
        have HN := Lib.hid hN
        have N2 : N ≤ 200 := by rw [← hN]; exact IN.out.ok.wf.few
        clear hN
        have h3 : (k : Int) < acts.length := by omega
        have h4 : (k : Int) < 60 := by omega
        go_wp2_with fail
        have WF := Lib.hid IN.out.ok.wf
        have HB := Lib.hid (Nat.lt_of_lt_of_le hb (Nat.le_trans hB hs.out.b.size))
        have FB := Lib.hid (show ¬ F b from fun e => by have := hs.out.f b e; omega)
        clear hb
        go_region_held3 (fun w' => w'.cell? ⟨b, o + k * 4, none⟩ = some (.int .i64 x.what) ∧ w'.cell? ⟨b, o + k * 4 + 1, none⟩ = some (.int .i64 x.a) ∧ w'.cell? ⟨b, o + k * 4 + 2, none⟩ = some (.int .i64 x.b) ∧ w'.cell? ⟨b, o + k * 4 + 3, none⟩ = some (.int .i64 x.nm)) (first | exact ⟨c0, c1, c2, c3⟩) ((first
          | (go_at_call 31
             (refine (count_at (by first | exact hs.out | exact hs.out.drew | exact hs.out.drew.drew) WF.out HN.out).mono ?_)
             rintro e w3 ⟨rfl, h, hb⟩
             replace hs := Lib.hid h
             replace c0 := (hb.cell (p := ⟨b, o + k * 4, none⟩) HB.out).trans c0
             replace c1 := (hb.cell (p := ⟨b, o + k * 4 + 1, none⟩) HB.out).trans c1
             replace c2 := (hb.cell (p := ⟨b, o + k * 4 + 2, none⟩) HB.out).trans c2
             replace c3 := (hb.cell (p := ⟨b, o + k * 4 + 3, none⟩) HB.out).trans c3
             have LT := Lib.hid (Nat.lt_of_lt_of_le HB.out hb.size)
             clear h hb)
          | (go_at_call 30
             (refine (do_any K _ p t F _ x N (by first | exact hs.out.h | exact hs.out.drew.h | exact hs.out.drew.drew.h) WF.out HX.out N2).mono ?_)
             rintro e w' ⟨F', rfl, h1, h2, h3⟩
             have G := Lib.hid (Tr.step (show Tr K w _ p t F by first | exact hs.out | exact hs.out.drew | exact hs.out.drew.drew) h1 h2 h3)
             replace c0 := (h2.cell (p := ⟨b, o + k * 4, none⟩) LT.out FB.out).trans c0
             replace c1 := (h2.cell (p := ⟨b, o + k * 4 + 1, none⟩) LT.out FB.out).trans c1
             replace c2 := (h2.cell (p := ⟨b, o + k * 4 + 2, none⟩) LT.out FB.out).trans c2
             replace c3 := (h2.cell (p := ⟨b, o + k * 4 + 3, none⟩) LT.out FB.out).trans c3
             clear h1 h2 h3)))
        rw [← HN.out, ← PT.out] at G
        go_wp2_with fail
        go_roundw
        case rel => exact ⟨k + 1, F', by omega, by omega, by go_num, G⟩
        case measure => simp [intOf]; omega
      · obtain rfl : k = 60 := by omega
        go_wp2_with fail
        go_ret
        exact ⟨p, F, rfl, by rw [T0.out]; exact hs.out⟩
    · obtain rfl : k = acts.length := by omega
      go_wp2_with fail
      go_ret
      exact ⟨p, F, rfl, by rw [T0.out, List.take_of_length_le h60]; exact List.take_length (l := acts) ▸ hs.out⟩
end Go.Proofs.YtjodmjadpooipaaGreatDoor.Sh
