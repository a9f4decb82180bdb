/-
  What a walk over the reference's numbers carries; the reference's Value.
-/
import Derived.Test.YtkdpcnikgdbmaaaGreatDoorNu
namespace Go.Proofs.YtkdpcnikgdbmaaaGreatDoor.Ac
open Go Go.RowKit

structure Sn (W : World) (b : Nat) (A : Option Addr) (n c : Nat) (L : List (Nat × Array Value × TypeId)) (w : World) : Prop where
  nm : Nm w b A n c
  gr : W.grownBy w (some b)
  own : ∀ p, p ∈ L → Bk w p.1 p.2.1 p.2.2 ∧ p.1 ≠ b ∧ W.heap.size ≤ p.1
theorem Nm.lt {w : World} {b n c : Nat} {A : Option Addr} (h : Nm w b A n c) : b < w.heap.size := by
  obtain ⟨_, _, h⟩ := h; exact h.lt
theorem Sn.init {w : World} {b n c : Nat} {A : Option Addr} (h : Nm w b A n c) : Sn w b A n c [] w := ⟨h, World.grownBy.refl w _, fun _ h => by cases h⟩
theorem grown_alloc {W w : World} {row : Option Nat} (h : W.grownBy w row) (o : Obj) : W.grownBy (w.alloc o) row :=
  ⟨h.os, h.tape, h.output, Nat.le_trans h.size (by simp), fun i hi hne => (Below.heap_alloc w o i (Nat.lt_of_lt_of_le hi h.size)).trans (h.block i hi hne)⟩
theorem grown_trans {a b c : World} {row : Option Nat} (h : a.grownBy b row) (k : b.grownBy c row) : a.grownBy c row :=
  ⟨k.os.trans h.os, k.tape.trans h.tape, k.output.trans h.output, Nat.le_trans h.size k.size, fun i hi hne => (k.block i (Nat.lt_of_lt_of_le hi h.size) hne).trans (h.block i hi hne)⟩
theorem Sn.alloc {W w : World} {b n c : Nat} {A : Option Addr} {L : List (Nat × Array Value × TypeId)} (h : Sn W b A n c L w) (cs : Array Value) (T : TypeId) :
    Sn W b A n c ((w.heap.size, cs, T) :: L) (w.alloc (.cells cs T)) := by
  have hb : Below w.heap.size w (w.alloc (.cells cs T)) := (Below.refl _ _).alloc (Nat.le_refl _) _
  obtain ⟨K, hK, hn⟩ := h.nm
  refine ⟨⟨K, hK, hn.below hb hn.lt⟩, grown_alloc h.gr _, fun p hp => ?_⟩
  rcases List.mem_cons.1 hp with rfl | hp
  · exact ⟨Bk.new _ _ _, by have := hn.lt; show w.heap.size ≠ b; omega, h.gr.size⟩
  · obtain ⟨h1, h2, h3⟩ := h.own p hp
    exact ⟨h1.below hb h1.lt, h2, h3⟩
theorem Sn.next {W w w' : World} {b n c : Nat} {A : Option Addr} {L : List (Nat × Array Value × TypeId)} (h : Sn W b A n c L w) (hn : Nm w' b A n c ∧ w.grownBy w' (some b)) : Sn W b A n c L w' := by
  refine ⟨hn.1, grown_trans h.gr hn.2, fun p hp => ?_⟩
  obtain ⟨h1, h2, h3⟩ := h.own p hp
  refine ⟨?_, h2, h3⟩
  have hlt := h1.lt
  unfold Bk at *
  rw [hn.2.block p.1 hlt (by simpa using h2)]; exact h1
theorem Sn.drewN {W w : World} {b n c : Nat} {A : Option Addr} {L : List (Nat × Array Value × TypeId)} (h : Sn W b A n c L w) (k : Nat) : Sn W b A n c L (w.drewN k) := ⟨h.nm, only_drewN h.gr k, h.own⟩
theorem Sn.drew {W w : World} {b n c : Nat} {A : Option Addr} {L : List (Nat × Array Value × TypeId)} (h : Sn W b A n c L w) : Sn W b A n c L w.drew := h.drewN 1
theorem Sn.drop {W w : World} {b n c : Nat} {A : Option Addr} {L L' : List (Nat × Array Value × TypeId)} (h : Sn W b A n c L w) (hs : ∀ p, p ∈ L' → p ∈ L) : Sn W b A n c L' w := ⟨h.nm, h.gr, fun p hp => h.own p (hs p hp)⟩
theorem Sn.set {W w : World} {b n c : Nat} {A : Option Addr} {L L' : List (Nat × Array Value × TypeId)} (h : Sn W b A n c L w) (g : Nat) (cs : Array Value) (T : TypeId) (hm : (g, cs, T) ∈ L) (i : Nat) (v : Value)
    (hL : ∀ p, p ∈ L' → p = (g, cs.setIfInBounds i v, T) ∨ p ∈ L ∧ p.1 ≠ g) : Sn W b A n c L' (w.setCell ⟨g, i, none⟩ v) := by
  obtain ⟨h1, h2, h3⟩ := h.own _ hm
  obtain ⟨K, hK, hn⟩ := h.nm
  refine ⟨⟨K, hK, hn.far (fun e => h2 e.symm) v⟩, ⟨h.gr.os, h.gr.tape, h.gr.output, by simpa [World.setCell] using h.gr.size, fun i' hi hne => (Below.heap_setCell w _ v i' (by show i' ≠ g; omega)).trans (h.gr.block i' hi hne)⟩, fun p hp => ?_⟩
  rcases hL p hp with rfl | ⟨k1, k2⟩
  · exact ⟨h1.set i v, h2, h3⟩
  · obtain ⟨m1, m2, m3⟩ := h.own p k1
    exact ⟨m1.far k2 v, m2, m3⟩
theorem Sn.cell {W w : World} {b n c : Nat} {A : Option Addr} {L : List (Nat × Array Value × TypeId)} (h : Sn W b A n c L w) (g : Nat) (cs : Array Value) (T : TypeId) (hm : (g, cs, T) ∈ L) (i : Nat) (v : Value) (hv : cs[i]? = some v) : w.cell? ⟨g, i, none⟩ = some v := (h.own _ hm).1.cell i v hv
theorem Sn.frozen {W w : World} {b n c : Nat} {A : Option Addr} {L : List (Nat × Array Value × TypeId)} (h : Sn W b A n c L w) (g : Nat) (cs : Array Value) (T : TypeId) (hm : (g, cs, T) ∈ L) (i : Nat) : w.frozen? ⟨g, i, none⟩ = false := (h.own _ hm).1.frozen i
theorem Sl.grown {w w' : World} {B b : Nat} {A : Option Addr} {zs : List Int} (h : Sl w B A zs) (hg : w.grownBy w' (some b)) (hB : B ≤ b) (hb : b ≤ w.heap.size) : Sl w' B A zs :=
  h.keep fun p hp => World.cell?_of_block (hg.block p.block (by omega) (by intro e; injection e with e; omega))

theorem next_st {W w : World} {b c B : Nat} {A : Option Addr} {zs : List Int} {L : List (Nat × Array Value × TypeId)} (st : Sn W b A zs.length c L w) (hA : Sl W B A zs) (hB : B ≤ b) (hbW : b ≤ W.heap.size) (hz : ∀ z ∈ zs, I64 z) (hl : zs.length ≤ 17592186044404) (m : Int) (hm : 1 ≤ m) (hm' : m ≤ 9223372036854775807) :
    Calls Tryz.prog 55 #[.pointer (some ⟨b, 0, none⟩), .int .i64 m] w fun e w' => ∃ r : Int, e = .returned (.int .i64 r) ∧ Hid (0 ≤ r ∧ r < m) ∧ Hid (Sn W b A zs.length c L w') := by
  refine (next_any m b A zs c B w (hA.grown st.gr hB hbW) hB hz hl st.nm hm hm').mono ?_
  rintro e w' ⟨r, rfl, h1, h2⟩
  exact ⟨r, rfl, h1, st.next h2.out⟩
theorem Sn.set3 {W w : World} {b n c : Nat} {A : Option Addr} {L : List (Nat × Array Value × TypeId)} (h : Sn W b A n c L w) (g : Nat) (c0 c1 c2 : Value) (T : TypeId) (hm : (g, #[c0, c1, c2], T) ∈ L) (x y z : Value) :
    Sn W b A n c [(g, #[x, y, z], T)] (((w.setCell ⟨g, 0, none⟩ x).setCell ⟨g, 1, none⟩ y).setCell ⟨g, 2, none⟩ z) := by
  have h1 := h.set g _ T hm 0 x (L' := [(g, #[x, c1, c2], T)]) (fun p hp => .inl (by simpa using hp))
  have h2 := h1.set g _ T (.head _) 1 y (L' := [(g, #[x, y, c2], T)]) (fun p hp => .inl (by simpa using hp))
  exact h2.set g _ T (.head _) 2 z (fun p hp => .inl (by simpa using hp))
def Lo (m x : Int) : Prop := 0 ≤ x ∧ x < m
/-- The values that numbers determine; refs have numbers of P. -/
def Gv (P : Int → Prop) (k x : Int) (s : ByteArray) : Prop :=
  (k = 1 ∧ x = 0 ∧ s = ⟨#[]⟩) ∨ (k = 2 ∧ (0 ≤ x ∧ x < 2) ∧ s = ⟨#[]⟩) ∨ (k = 3 ∧ (-2 ≤ x ∧ x ≤ 6) ∧ s = ⟨#[]⟩) ∨
  (k = 4 ∧ x = 0 ∧ (s = ⟨#[]⟩ ∨ s = ⟨#[97]⟩ ∨ s = ⟨#[98, 32, 99]⟩ ∨ s = ⟨#[116, 121, 112, 101]⟩)) ∨ (k = 5 ∧ P x ∧ s = ⟨#[]⟩)
/-- How a call of Value ends. -/
def ValTo (most : Int) (b : Nat) (A : Option Addr) (n c : Nat) (w : World) (e : Ending) (w' : World) : Prop :=
  ∃ (k x : Int) (s : ByteArray), e = .returned (.agg #[.int .i64 k, .int .i64 x, .string s]) ∧ Hid (Gv (Lo most) k x s) ∧ Hid (Nm w' b A n c ∧ w.grownBy w' (some b))
set_option maxRecDepth 5000 in
set_option maxHeartbeats 4000000 in
theorem value_any (m : Int) (b : Nat) (A : Option Addr) (zs : List Int) (c B : Nat) (w : World) (hA : Sl w B A zs) (hB : B ≤ b) (hz : ∀ z ∈ zs, I64 z) (hl : zs.length ≤ 17592186044404) (h : Nm w b A zs.length c) (hm : 1 ≤ m) (hm' : m ≤ 9223372036854775807) :
    Calls Tryz.prog 64 #[.pointer (some ⟨b, 0, none⟩), .int .i64 m] w (ValTo m b A zs.length c w) := by
  have hbw := h.lt
  have HA := Lib.hid hA
  have HZ := Lib.hid hz
  have S0 := Lib.hid ((Sn.init h).alloc #[.int .i64 0, .int .i64 0, .string ⟨#[]⟩] 64)
  clear hA hz h
  go_enter Tryz.func64, Tryz.ntmps64
  go_wp2_with fail
  refine (next_st S0.out HA.out hB (by omega) HZ.out hl 9 (by omega) (by omega)).mono ?_
  rintro e w1 ⟨r, rfl, hr, S1⟩
  obtain ⟨hr0, hr9⟩ := hr.out
  have R0 := Lib.hid (show w.heap.size = w.heap.size from rfl)
  rcases (show r = 0 ∨ r = 1 ∨ r = 2 ∨ r = 3 ∨ r = 4 ∨ r = 5 ∨ r = 6 ∨ r = 7 ∨ r = 8 by omega) with rfl | rfl | rfl | rfl | rfl | rfl | rfl | rfl | rfl
  · clear hr hr0 hr9
    have k0 := S1.out.cell _ _ _ (.head _) 0 _ rfl
    have k1 := S1.out.cell _ _ _ (.head _) 1 _ rfl
    have k2 := S1.out.cell _ _ _ (.head _) 2 _ rfl
    have f0 := S1.out.frozen _ _ _ (.head _) 0
    have f1 := S1.out.frozen _ _ _ (.head _) 1
    have f2 := S1.out.frozen _ _ _ (.head _) 2
    go_wp2_with fail
    have E := Lib.hid (S1.out.set3 w.heap.size _ _ _ _ (.head _) (.int .i64 1) (.int .i64 0) (.string ⟨#[]⟩))
    generalize (((w1.setCell ⟨w.heap.size, 0, none⟩ (.int .i64 1)).setCell ⟨w.heap.size, 1, none⟩ (.int .i64 0)).setCell ⟨w.heap.size, 2, none⟩ (.string ⟨#[]⟩)) = wz at *
    have e0 := E.out.cell _ _ _ (.head _) 0 _ rfl
    have e1 := E.out.cell _ _ _ (.head _) 1 _ rfl
    have e2 := E.out.cell _ _ _ (.head _) 2 _ rfl
    exact bodyPost_ret (v := .agg #[.int .i64 1, .int .i64 0, .string ⟨#[]⟩]) (by simp [results, Tryz.results64, go_sem, e0, e1, e2]) rfl ⟨1, 0, ⟨#[]⟩, rfl, Lib.hid (by unfold Gv Lo; simp; try omega), E.out.nm, E.out.gr⟩
  · clear hr hr0 hr9
    go_wp2_with fail
    refine (next_st S1.out HA.out hB (by omega) HZ.out hl 2 (by omega) (by omega)).mono ?_
    rintro e w2 ⟨q, rfl, hq, S2⟩
    obtain ⟨q0, q1⟩ := hq.out
    have k0 := S2.out.cell _ _ _ (.head _) 0 _ rfl
    have k1 := S2.out.cell _ _ _ (.head _) 1 _ rfl
    have k2 := S2.out.cell _ _ _ (.head _) 2 _ rfl
    have f0 := S2.out.frozen _ _ _ (.head _) 0
    have f1 := S2.out.frozen _ _ _ (.head _) 1
    have f2 := S2.out.frozen _ _ _ (.head _) 2
    go_wp2_with fail
    have E := Lib.hid (S2.out.set3 w.heap.size _ _ _ _ (.head _) (.int .i64 2) (.int .i64 q) (.string ⟨#[]⟩))
    generalize (((w2.setCell ⟨w.heap.size, 0, none⟩ (.int .i64 2)).setCell ⟨w.heap.size, 1, none⟩ (.int .i64 q)).setCell ⟨w.heap.size, 2, none⟩ (.string ⟨#[]⟩)) = wz at *
    have e0 := E.out.cell _ _ _ (.head _) 0 _ rfl
    have e1 := E.out.cell _ _ _ (.head _) 1 _ rfl
    have e2 := E.out.cell _ _ _ (.head _) 2 _ rfl
    exact bodyPost_ret (v := .agg #[.int .i64 2, .int .i64 q, .string ⟨#[]⟩]) (by simp [results, Tryz.results64, go_sem, e0, e1, e2]) rfl ⟨2, q, ⟨#[]⟩, rfl, Lib.hid (by unfold Gv Lo; simp; try omega), E.out.nm, E.out.gr⟩
  · clear hr hr0 hr9
    go_wp2_with fail
    refine (next_st S1.out HA.out hB (by omega) HZ.out hl 9 (by omega) (by omega)).mono ?_
    rintro e w2 ⟨q, rfl, hq, S2⟩
    obtain ⟨q0, q1⟩ := hq.out
    have k0 := S2.out.cell _ _ _ (.head _) 0 _ rfl
    have k1 := S2.out.cell _ _ _ (.head _) 1 _ rfl
    have k2 := S2.out.cell _ _ _ (.head _) 2 _ rfl
    have f0 := S2.out.frozen _ _ _ (.head _) 0
    have f1 := S2.out.frozen _ _ _ (.head _) 1
    have f2 := S2.out.frozen _ _ _ (.head _) 2
    go_wp2_with fail
    have E := Lib.hid (S2.out.set3 w.heap.size _ _ _ _ (.head _) (.int .i64 3) (.int .i64 (q - 2)) (.string ⟨#[]⟩))
    generalize (((w2.setCell ⟨w.heap.size, 0, none⟩ (.int .i64 3)).setCell ⟨w.heap.size, 1, none⟩ (.int .i64 (q - 2))).setCell ⟨w.heap.size, 2, none⟩ (.string ⟨#[]⟩)) = wz at *
    have e0 := E.out.cell _ _ _ (.head _) 0 _ rfl
    have e1 := E.out.cell _ _ _ (.head _) 1 _ rfl
    have e2 := E.out.cell _ _ _ (.head _) 2 _ rfl
    exact bodyPost_ret (v := .agg #[.int .i64 3, .int .i64 (q - 2), .string ⟨#[]⟩]) (by simp [results, Tryz.results64, go_sem, e0, e1, e2]) rfl ⟨3, (q - 2), ⟨#[]⟩, rfl, Lib.hid (by unfold Gv Lo; simp; try omega), E.out.nm, E.out.gr⟩
  · clear hr hr0 hr9
    go_wp2_with fail
    refine (next_st S1.out HA.out hB (by omega) HZ.out hl 9 (by omega) (by omega)).mono ?_
    rintro e w2 ⟨q, rfl, hq, S2⟩
    obtain ⟨q0, q1⟩ := hq.out
    have k0 := S2.out.cell _ _ _ (.head _) 0 _ rfl
    have k1 := S2.out.cell _ _ _ (.head _) 1 _ rfl
    have k2 := S2.out.cell _ _ _ (.head _) 2 _ rfl
    have f0 := S2.out.frozen _ _ _ (.head _) 0
    have f1 := S2.out.frozen _ _ _ (.head _) 1
    have f2 := S2.out.frozen _ _ _ (.head _) 2
    go_wp2_with fail
    have E := Lib.hid (S2.out.set3 w.heap.size _ _ _ _ (.head _) (.int .i64 3) (.int .i64 (q - 2)) (.string ⟨#[]⟩))
    generalize (((w2.setCell ⟨w.heap.size, 0, none⟩ (.int .i64 3)).setCell ⟨w.heap.size, 1, none⟩ (.int .i64 (q - 2))).setCell ⟨w.heap.size, 2, none⟩ (.string ⟨#[]⟩)) = wz at *
    have e0 := E.out.cell _ _ _ (.head _) 0 _ rfl
    have e1 := E.out.cell _ _ _ (.head _) 1 _ rfl
    have e2 := E.out.cell _ _ _ (.head _) 2 _ rfl
    exact bodyPost_ret (v := .agg #[.int .i64 3, .int .i64 (q - 2), .string ⟨#[]⟩]) (by simp [results, Tryz.results64, go_sem, e0, e1, e2]) rfl ⟨3, (q - 2), ⟨#[]⟩, rfl, Lib.hid (by unfold Gv Lo; simp; try omega), E.out.nm, E.out.gr⟩
  · clear hr hr0 hr9
    have S1b := Lib.hid (S1.out.alloc #[.string ⟨#[]⟩, .string ⟨#[97]⟩, .string ⟨#[98, 32, 99]⟩, .string ⟨#[116, 121, 112, 101]⟩] 9)
    go_wp2_with fail
    refine (next_st S1b.out HA.out hB (by omega) HZ.out hl 4 (by omega) (by omega)).mono ?_
    rintro e w2 ⟨q, rfl, hq, S2⟩
    obtain ⟨q0, q1⟩ := hq.out
    rcases (show q = 0 ∨ q = 1 ∨ q = 2 ∨ q = 3 by omega) with rfl | rfl | rfl | rfl
    · have d := S2.out.cell _ _ _ (.head _) 0 _ rfl
      have k0 := S2.out.cell _ _ _ (.tail _ (.head _)) 0 _ rfl
      have k1 := S2.out.cell _ _ _ (.tail _ (.head _)) 1 _ rfl
      have k2 := S2.out.cell _ _ _ (.tail _ (.head _)) 2 _ rfl
      have f0 := S2.out.frozen _ _ _ (.tail _ (.head _)) 0
      have f1 := S2.out.frozen _ _ _ (.tail _ (.head _)) 1
      have f2 := S2.out.frozen _ _ _ (.tail _ (.head _)) 2
      go_wp2_with fail
      have E := Lib.hid (S2.out.set3 w.heap.size _ _ _ _ (.tail _ (.head _)) (.int .i64 4) (.int .i64 0) (.string ⟨#[]⟩))
      generalize (((w2.setCell ⟨w.heap.size, 0, none⟩ (.int .i64 4)).setCell ⟨w.heap.size, 1, none⟩ (.int .i64 0)).setCell ⟨w.heap.size, 2, none⟩ (.string ⟨#[]⟩)) = wz at *
      have e0 := E.out.cell _ _ _ (.head _) 0 _ rfl
      have e1 := E.out.cell _ _ _ (.head _) 1 _ rfl
      have e2 := E.out.cell _ _ _ (.head _) 2 _ rfl
      exact bodyPost_ret (v := .agg #[.int .i64 4, .int .i64 0, .string ⟨#[]⟩]) (by simp [results, Tryz.results64, go_sem, e0, e1, e2]) rfl ⟨4, 0, ⟨#[]⟩, rfl, Lib.hid (by unfold Gv Lo; simp; try omega), E.out.nm, E.out.gr⟩
    · have d := S2.out.cell _ _ _ (.head _) 1 _ rfl
      have k0 := S2.out.cell _ _ _ (.tail _ (.head _)) 0 _ rfl
      have k1 := S2.out.cell _ _ _ (.tail _ (.head _)) 1 _ rfl
      have k2 := S2.out.cell _ _ _ (.tail _ (.head _)) 2 _ rfl
      have f0 := S2.out.frozen _ _ _ (.tail _ (.head _)) 0
      have f1 := S2.out.frozen _ _ _ (.tail _ (.head _)) 1
      have f2 := S2.out.frozen _ _ _ (.tail _ (.head _)) 2
      go_wp2_with fail
      have E := Lib.hid (S2.out.set3 w.heap.size _ _ _ _ (.tail _ (.head _)) (.int .i64 4) (.int .i64 0) (.string ⟨#[97]⟩))
      generalize (((w2.setCell ⟨w.heap.size, 0, none⟩ (.int .i64 4)).setCell ⟨w.heap.size, 1, none⟩ (.int .i64 0)).setCell ⟨w.heap.size, 2, none⟩ (.string ⟨#[97]⟩)) = wz at *
      have e0 := E.out.cell _ _ _ (.head _) 0 _ rfl
      have e1 := E.out.cell _ _ _ (.head _) 1 _ rfl
      have e2 := E.out.cell _ _ _ (.head _) 2 _ rfl
      exact bodyPost_ret (v := .agg #[.int .i64 4, .int .i64 0, .string ⟨#[97]⟩]) (by simp [results, Tryz.results64, go_sem, e0, e1, e2]) rfl ⟨4, 0, ⟨#[97]⟩, rfl, Lib.hid (by unfold Gv Lo; simp; try omega), E.out.nm, E.out.gr⟩
    · have d := S2.out.cell _ _ _ (.head _) 2 _ rfl
      have k0 := S2.out.cell _ _ _ (.tail _ (.head _)) 0 _ rfl
      have k1 := S2.out.cell _ _ _ (.tail _ (.head _)) 1 _ rfl
      have k2 := S2.out.cell _ _ _ (.tail _ (.head _)) 2 _ rfl
      have f0 := S2.out.frozen _ _ _ (.tail _ (.head _)) 0
      have f1 := S2.out.frozen _ _ _ (.tail _ (.head _)) 1
      have f2 := S2.out.frozen _ _ _ (.tail _ (.head _)) 2
      go_wp2_with fail
      have E := Lib.hid (S2.out.set3 w.heap.size _ _ _ _ (.tail _ (.head _)) (.int .i64 4) (.int .i64 0) (.string ⟨#[98, 32, 99]⟩))
      generalize (((w2.setCell ⟨w.heap.size, 0, none⟩ (.int .i64 4)).setCell ⟨w.heap.size, 1, none⟩ (.int .i64 0)).setCell ⟨w.heap.size, 2, none⟩ (.string ⟨#[98, 32, 99]⟩)) = wz at *
      have e0 := E.out.cell _ _ _ (.head _) 0 _ rfl
      have e1 := E.out.cell _ _ _ (.head _) 1 _ rfl
      have e2 := E.out.cell _ _ _ (.head _) 2 _ rfl
      exact bodyPost_ret (v := .agg #[.int .i64 4, .int .i64 0, .string ⟨#[98, 32, 99]⟩]) (by simp [results, Tryz.results64, go_sem, e0, e1, e2]) rfl ⟨4, 0, ⟨#[98, 32, 99]⟩, rfl, Lib.hid (by unfold Gv Lo; simp; try omega), E.out.nm, E.out.gr⟩
    · have d := S2.out.cell _ _ _ (.head _) 3 _ rfl
      have k0 := S2.out.cell _ _ _ (.tail _ (.head _)) 0 _ rfl
      have k1 := S2.out.cell _ _ _ (.tail _ (.head _)) 1 _ rfl
      have k2 := S2.out.cell _ _ _ (.tail _ (.head _)) 2 _ rfl
      have f0 := S2.out.frozen _ _ _ (.tail _ (.head _)) 0
      have f1 := S2.out.frozen _ _ _ (.tail _ (.head _)) 1
      have f2 := S2.out.frozen _ _ _ (.tail _ (.head _)) 2
      go_wp2_with fail
      have E := Lib.hid (S2.out.set3 w.heap.size _ _ _ _ (.tail _ (.head _)) (.int .i64 4) (.int .i64 0) (.string ⟨#[116, 121, 112, 101]⟩))
      generalize (((w2.setCell ⟨w.heap.size, 0, none⟩ (.int .i64 4)).setCell ⟨w.heap.size, 1, none⟩ (.int .i64 0)).setCell ⟨w.heap.size, 2, none⟩ (.string ⟨#[116, 121, 112, 101]⟩)) = wz at *
      have e0 := E.out.cell _ _ _ (.head _) 0 _ rfl
      have e1 := E.out.cell _ _ _ (.head _) 1 _ rfl
      have e2 := E.out.cell _ _ _ (.head _) 2 _ rfl
      exact bodyPost_ret (v := .agg #[.int .i64 4, .int .i64 0, .string ⟨#[116, 121, 112, 101]⟩]) (by simp [results, Tryz.results64, go_sem, e0, e1, e2]) rfl ⟨4, 0, ⟨#[116, 121, 112, 101]⟩, rfl, Lib.hid (by unfold Gv Lo; simp; try omega), E.out.nm, E.out.gr⟩
  · clear hr hr0 hr9
    go_wp2_with fail
    refine (next_st S1.out HA.out hB (by omega) HZ.out hl m hm hm').mono ?_
    rintro e w2 ⟨q, rfl, hq, S2⟩
    obtain ⟨q0, q1⟩ := hq.out
    have k0 := S2.out.cell _ _ _ (.head _) 0 _ rfl
    have k1 := S2.out.cell _ _ _ (.head _) 1 _ rfl
    have k2 := S2.out.cell _ _ _ (.head _) 2 _ rfl
    have f0 := S2.out.frozen _ _ _ (.head _) 0
    have f1 := S2.out.frozen _ _ _ (.head _) 1
    have f2 := S2.out.frozen _ _ _ (.head _) 2
    go_wp2_with fail
    have E := Lib.hid (S2.out.set3 w.heap.size _ _ _ _ (.head _) (.int .i64 5) (.int .i64 q) (.string ⟨#[]⟩))
    generalize (((w2.setCell ⟨w.heap.size, 0, none⟩ (.int .i64 5)).setCell ⟨w.heap.size, 1, none⟩ (.int .i64 q)).setCell ⟨w.heap.size, 2, none⟩ (.string ⟨#[]⟩)) = wz at *
    have e0 := E.out.cell _ _ _ (.head _) 0 _ rfl
    have e1 := E.out.cell _ _ _ (.head _) 1 _ rfl
    have e2 := E.out.cell _ _ _ (.head _) 2 _ rfl
    exact bodyPost_ret (v := .agg #[.int .i64 5, .int .i64 q, .string ⟨#[]⟩]) (by simp [results, Tryz.results64, go_sem, e0, e1, e2]) rfl ⟨5, q, ⟨#[]⟩, rfl, Lib.hid (by unfold Gv Lo; simp; try omega), E.out.nm, E.out.gr⟩
  · clear hr hr0 hr9
    go_wp2_with fail
    refine (next_st S1.out HA.out hB (by omega) HZ.out hl m hm hm').mono ?_
    rintro e w2 ⟨q, rfl, hq, S2⟩
    obtain ⟨q0, q1⟩ := hq.out
    have k0 := S2.out.cell _ _ _ (.head _) 0 _ rfl
    have k1 := S2.out.cell _ _ _ (.head _) 1 _ rfl
    have k2 := S2.out.cell _ _ _ (.head _) 2 _ rfl
    have f0 := S2.out.frozen _ _ _ (.head _) 0
    have f1 := S2.out.frozen _ _ _ (.head _) 1
    have f2 := S2.out.frozen _ _ _ (.head _) 2
    go_wp2_with fail
    have E := Lib.hid (S2.out.set3 w.heap.size _ _ _ _ (.head _) (.int .i64 5) (.int .i64 q) (.string ⟨#[]⟩))
    generalize (((w2.setCell ⟨w.heap.size, 0, none⟩ (.int .i64 5)).setCell ⟨w.heap.size, 1, none⟩ (.int .i64 q)).setCell ⟨w.heap.size, 2, none⟩ (.string ⟨#[]⟩)) = wz at *
    have e0 := E.out.cell _ _ _ (.head _) 0 _ rfl
    have e1 := E.out.cell _ _ _ (.head _) 1 _ rfl
    have e2 := E.out.cell _ _ _ (.head _) 2 _ rfl
    exact bodyPost_ret (v := .agg #[.int .i64 5, .int .i64 q, .string ⟨#[]⟩]) (by simp [results, Tryz.results64, go_sem, e0, e1, e2]) rfl ⟨5, q, ⟨#[]⟩, rfl, Lib.hid (by unfold Gv Lo; simp; try omega), E.out.nm, E.out.gr⟩
  · clear hr hr0 hr9
    go_wp2_with fail
    refine (next_st S1.out HA.out hB (by omega) HZ.out hl m hm hm').mono ?_
    rintro e w2 ⟨q, rfl, hq, S2⟩
    obtain ⟨q0, q1⟩ := hq.out
    have k0 := S2.out.cell _ _ _ (.head _) 0 _ rfl
    have k1 := S2.out.cell _ _ _ (.head _) 1 _ rfl
    have k2 := S2.out.cell _ _ _ (.head _) 2 _ rfl
    have f0 := S2.out.frozen _ _ _ (.head _) 0
    have f1 := S2.out.frozen _ _ _ (.head _) 1
    have f2 := S2.out.frozen _ _ _ (.head _) 2
    go_wp2_with fail
    have E := Lib.hid (S2.out.set3 w.heap.size _ _ _ _ (.head _) (.int .i64 5) (.int .i64 q) (.string ⟨#[]⟩))
    generalize (((w2.setCell ⟨w.heap.size, 0, none⟩ (.int .i64 5)).setCell ⟨w.heap.size, 1, none⟩ (.int .i64 q)).setCell ⟨w.heap.size, 2, none⟩ (.string ⟨#[]⟩)) = wz at *
    have e0 := E.out.cell _ _ _ (.head _) 0 _ rfl
    have e1 := E.out.cell _ _ _ (.head _) 1 _ rfl
    have e2 := E.out.cell _ _ _ (.head _) 2 _ rfl
    exact bodyPost_ret (v := .agg #[.int .i64 5, .int .i64 q, .string ⟨#[]⟩]) (by simp [results, Tryz.results64, go_sem, e0, e1, e2]) rfl ⟨5, q, ⟨#[]⟩, rfl, Lib.hid (by unfold Gv Lo; simp; try omega), E.out.nm, E.out.gr⟩
  · clear hr hr0 hr9
    go_wp2_with fail
    refine (next_st S1.out HA.out hB (by omega) HZ.out hl m hm hm').mono ?_
    rintro e w2 ⟨q, rfl, hq, S2⟩
    obtain ⟨q0, q1⟩ := hq.out
    have k0 := S2.out.cell _ _ _ (.head _) 0 _ rfl
    have k1 := S2.out.cell _ _ _ (.head _) 1 _ rfl
    have k2 := S2.out.cell _ _ _ (.head _) 2 _ rfl
    have f0 := S2.out.frozen _ _ _ (.head _) 0
    have f1 := S2.out.frozen _ _ _ (.head _) 1
    have f2 := S2.out.frozen _ _ _ (.head _) 2
    go_wp2_with fail
    have E := Lib.hid (S2.out.set3 w.heap.size _ _ _ _ (.head _) (.int .i64 5) (.int .i64 q) (.string ⟨#[]⟩))
    generalize (((w2.setCell ⟨w.heap.size, 0, none⟩ (.int .i64 5)).setCell ⟨w.heap.size, 1, none⟩ (.int .i64 q)).setCell ⟨w.heap.size, 2, none⟩ (.string ⟨#[]⟩)) = wz at *
    have e0 := E.out.cell _ _ _ (.head _) 0 _ rfl
    have e1 := E.out.cell _ _ _ (.head _) 1 _ rfl
    have e2 := E.out.cell _ _ _ (.head _) 2 _ rfl
    exact bodyPost_ret (v := .agg #[.int .i64 5, .int .i64 q, .string ⟨#[]⟩]) (by simp [results, Tryz.results64, go_sem, e0, e1, e2]) rfl ⟨5, q, ⟨#[]⟩, rfl, Lib.hid (by unfold Gv Lo; simp; try omega), E.out.nm, E.out.gr⟩
end Go.Proofs.YtkdpcnikgdbmaaaGreatDoor.Ac
