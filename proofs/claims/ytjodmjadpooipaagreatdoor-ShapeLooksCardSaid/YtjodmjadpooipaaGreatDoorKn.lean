/-
  maps.DeleteFunc over the map of transitions.
-/
import Derived.Test.YtjodmjadpooipaaGreatDoorKj
import Derived.Maps.RangeWalk
import Derived.Laws.IdiomRangeMap
namespace Go.Proofs.YtjodmjadpooipaaGreatDoor.Sh
open Go Go.RowKit

theorem del_closure (f : Int) (x : ByteArray) (a c : Int) (B : Nat) (W : World) (h : W.cell? ⟨B, 0, none⟩ = some (.int .i64 c)) (hB : B < W.heap.size) (b : Bool) (hb : decide (f = c) = b) :
    Calls Tryz.prog 46 #[.agg #[.int .i64 f, .string x], .int .i64 a, .pointer (some ⟨B, 0, none⟩)] W fun e w' => e = .returned (.bool b) ∧ W.grownBy w' none := by
  have HB := Lib.hid (show (f == c) = b by rw [← hb]; rfl)
  clear hb
  go_enter Tryz.func46, Tryz.ntmps46
  go_wp2
  go_ret
  exact ⟨by rw [← HB.out]; rfl, World.grownBy_alloc _ _ _⟩
/-- What is left of a map while entries from c are struck. -/
def Part (D D1 : DataW Unit) (left : Lit → Bool) (c : Int) : Prop := ∀ f x, I64 f → x.size ≤ maxLen →
  (f ≠ c → Maps.has D1 (keyL f x) = Maps.has D (keyL f x) ∧ ∀ zd, D1.atKey (keyL f x) zd = D.atKey (keyL f x) zd) ∧ (f = c → Maps.has D1 (keyL f x) = true → left (keyL f x) = true)
theorem key_ne {f g : Int} {x y : ByteArray} (hf : I64 f) (hx : x.size ≤ maxLen) (hg : I64 g) (hy : y.size ≤ maxLen) (h : ¬ (f = g ∧ x = y)) : keyL f x ≠ keyL g y := fun e => h (keyL_inj hf hx hg hy e)
theorem Part.stay {D D1 : DataW Unit} {left : Lit → Bool} {c g : Int} {y : ByteArray} (h : Part D D1 left c) (hg : I64 g) (hy : y.size ≤ maxLen) (hc : g ≠ c) : Part D D1 (fun z => left z && !z.sameKey (keyL g y)) c := fun f x hf hx =>
  ⟨(h f x hf hx).1, fun e hh => by
    show (left (keyL f x) && !(keyL f x).sameKey (keyL g y)) = true
    rw [(h f x hf hx).2 e hh, Maps.sameKey_ne (key_ne hf hx hg hy (fun e2 => hc (by rw [← e2.1, e])))]; rfl⟩
theorem Part.gone {D D1 : DataW Unit} {left : Lit → Bool} {c : Int} {y : ByteArray} (h : Part D D1 left c) (hg : I64 c) (hy : y.size ≤ maxLen) :
    Part D (D1.del (keyL c y)) (fun z => (left z && !z.sameKey (keyL c y)) && !z.sameKey (keyL c y)) c := fun f x hf hx => by
  refine ⟨fun hne => ?_, fun e hh => ?_⟩
  · have hk := key_ne hf hx hg hy (fun e2 => hne e2.1)
    rw [Maps.has_del_other hk]
    exact ⟨((h f x hf hx).1 hne).1, fun zd => by rw [Maps.atKey_del_other hk]; exact ((h f x hf hx).1 hne).2 zd⟩
  · subst e
    by_cases hxy : x = y
    · subst hxy; rw [Maps.has_del_same] at hh; cases hh
    · have hk := key_ne hf hx hg hy (fun e2 => hxy e2.2)
      rw [Maps.has_del_other hk] at hh
      show ((left (keyL f x) && !(keyL f x).sameKey (keyL f y)) && !(keyL f x).sameKey (keyL f y)) = true
      rw [(h f x hf hx).2 rfl hh, Maps.sameKey_ne hk]; rfl
set_option maxRecDepth 100000 in
set_option maxHeartbeats 4000000 in
theorem delete_any (w : World) (mb n : Nat) (D : DataW Unit) (hown : w.ownsMap Tryz.prog 77 (plainElem Tryz.prog 3) mb n D) (B : Nat) (c : Int) (hc : I64 c) (hB : w.cell? ⟨B, 0, none⟩ = some (.int .i64 c)) (hBl : B < w.heap.size) (hne : B ≠ mb) :
    Calls Tryz.prog 45 #[.map (some mb), .func (.func 46) #[] #[.pointer (some ⟨B, 0, none⟩)]] w fun e w' =>
      e = .returned (.tuple #[]) ∧ (∃ D1, w'.ownsMap Tryz.prog 77 (plainElem Tryz.prog 3) mb n D1 ∧ Part D D1 (fun _ => false) c) ∧ w.grownBy w' (some mb) := by
  have HB := Lib.hid hB
  have HC := Lib.hid hc
  have HO := Lib.hid hown
  clear hB hc
  go_enter Tryz.func45, Tryz.ntmps45
  go_wp2_with (first
    | (at_range; refine wpList_range_own _ rfl _ 68 rfl 77 3 keyed Tryz.underlying68 (plainElem Tryz.prog 3) mb n _ rfl hown ?_; intro w0 hrg0 hg0 hs0)
    | go_in)
  go_frame
  go_loopw [8] (fun _ wr => ∃ (D1 : DataW Unit) (left : Lit → Bool) (cnt : Nat), wr.ranges Tryz.prog 77 (plainElem Tryz.prog 3) mb w.heap.size n D1 left cnt ∧ Hid (w.grownBy wr (some mb)) ∧ Hid (Part D D1 left c))
    (fun _ wr => wr.rangeLeft mb w.heap.size)
  case atStart => exact ⟨D, _, _, hrg0, Lib.hid (hg0.but _), Lib.hid (fun f x _ _ => ⟨fun _ => ⟨rfl, fun _ => rfl⟩, fun _ h => h⟩)⟩
  case round =>
    obtain ⟨D1, left, cnt, hrg, hgw, hpt⟩ := hrel
    go_wp2_with (first
      | (at_next; refine wpList_next_ranges _ rfl _ rfl 77 keyed (plainElem Tryz.prog 3) (fun q : Int × ByteArray => keyV q.1 q.2) (Value.int .i64) (fun key kl h => by obtain ⟨f, x, e, _⟩ := keyOf_inv h; exact ⟨(f, x), e⟩) (fun v y h => by obtain ⟨a, e, _⟩ := plainElem_int_inv Tryz.underlying3 h; exact ⟨a, e⟩) mb w.heap.size n _ _ _ rfl hrg ?_ ?_)
      | go_in)
    · intro _ hl0
      have G := Lib.hid (show Part D D1 (fun _ => false) c from by
        have e : left = fun _ => false := funext hl0
        rw [← e]; exact hpt.out)
      have HW := Lib.hid hrg.owns
      clear hl0
      go_wp2
      go_end0
      exact ⟨rfl, ⟨D1, HW.out, G.out⟩, hgw.out⟩
    · intro f x a kl yd yp w1 cnt1 hkey hlx hv hat hrg1 hlt hg1 hs1 hen
      obtain ⟨f', x', e, hf, hx, rfl⟩ := keyOf_inv hkey
      have e' : f = f' ∧ x = x' := by unfold keyV at e; simpa using e
      obtain ⟨rfl, rfl⟩ := e'
      have HF := Lib.hid hf
      have HX := Lib.hid hx
      have HK := Lib.hid hkey
      have hbl := hrg1.owns.lt
      have hrl := hrg1.lt
      have HGW1 := Lib.hid (hgw.out.andThen hg1 (fun j hj => by cases hj; exact Or.inl (Nat.le_refl _)))
      have B1 : w1.cell? ⟨B, 0, none⟩ = some (.int .i64 c) := by
        rw [World.cell?_of_block (show w1.heap[B]? = w.heap[B]? from HGW1.out.block B hBl (fun e => hne (by injection e)))]; exact HB.out
      have z1 := HGW1.out.size
      have hf := Lib.hid hkey
      unfold keyV at hen
      clear e hkey hlx hv hat hf
      have CL := Lib.hid (fun b hb => del_closure f x a c B (w1.alloc (.cells #[.int .i64 f, .string x] 77)) (by rw [World.cell?_alloc_lt _ _ _ (by show B < _; omega)]; exact B1) (by simp; omega) b hb)
      by_cases hfc : f = c
      · subst hfc
        have CT := Lib.hid (CL.out true (by simp))
        clear CL
        go_wp2_with fail
        refine CT.out.mono ?_
        rintro e w2 ⟨rfl, hg2⟩
        have hrg2 := (hrg1.alloc (.cells #[.int .i64 f, .string x] 77)).kept hg2 (by simp) (by simp)
        have X2 : Bk w2 wr.heap.size #[.int .i64 f, .string x] 77 := by
          have h := Bk.new w1 #[.int .i64 f, .string x] 77
          rw [hs1] at h
          unfold Bk at h ⊢
          rw [hg2.block _ (by rw [World.size_alloc]; omega) (fun e => by cases e)]; exact h
        have k0 := X2.cell 0 (.int .i64 f) rfl
        have k1 := X2.cell 1 (.string x) rfl
        go_wp2_with (first
          | (at_delete; refine wpList_delete_ranges _ rfl _ _ 68 77 rfl 3 keyed Tryz.underlying68 (plainElem Tryz.prog 3) mb w.heap.size n _ _ _ rfl hrg2 _ _ rfl HK.out ?_; intro w3 cnt3 hrg3 hle hturn; go_frame)
          | go_in)
        have HP := Lib.hid (hpt.out.gone HF.out HX.out)
        have HG := Lib.hid (show w.grownBy w3 (some mb) from (((HGW1.out.andThen (World.grownBy_alloc w1 (.cells #[.int .i64 f, .string x] 77) none) (fun j hj => by cases hj)).andThen hg2 (fun j hj => by cases hj)).andThen hturn.grown (fun j hj => by cases hj; exact Or.inr rfl)))
        clear hturn hg2
        go_roundw
        case rel => exact ⟨_, _, cnt3, hrg3, HG, HP⟩
        case measure => rw [hrg3.left_eq, hrg.left_eq]; omega
      · have CF := Lib.hid (CL.out false (by simp [hfc]))
        have HP := Lib.hid (hpt.out.stay HF.out HX.out hfc)
        clear CL
        go_wp2_with fail
        refine CF.out.mono ?_
        rintro e w2 ⟨rfl, hg2⟩
        have hrg2 := (hrg1.alloc (.cells #[.int .i64 f, .string x] 77)).kept hg2 (by simp) (by simp)
        have X2 : Bk w2 wr.heap.size #[.int .i64 f, .string x] 77 := by
          have h := Bk.new w1 #[.int .i64 f, .string x] 77
          rw [hs1] at h
          unfold Bk at h ⊢
          rw [hg2.block _ (by rw [World.size_alloc]; omega) (fun e => by cases e)]; exact h
        have k0 := X2.cell 0 (.int .i64 f) rfl
        have k1 := X2.cell 1 (.string x) rfl
        have HG := Lib.hid (show w.grownBy w2 (some mb) from ((HGW1.out.andThen (World.grownBy_alloc w1 (.cells #[.int .i64 f, .string x] 77) none) (fun j hj => by cases hj)).andThen hg2 (fun j hj => by cases hj)))
        clear hg2 X2
        go_wp2_with fail
        go_roundw
        case rel => exact ⟨_, _, cnt1, hrg2, HG, HP⟩
        case measure => rw [hrg2.left_eq, hrg.left_eq]; exact hlt
end Go.Proofs.YtjodmjadpooipaaGreatDoor.Sh
