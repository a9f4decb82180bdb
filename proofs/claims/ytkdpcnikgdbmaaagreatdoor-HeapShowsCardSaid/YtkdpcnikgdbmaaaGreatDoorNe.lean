/-
  The walk of the reference's Made.
-/
import Derived.Test.YtkdpcnikgdbmaaaGreatDoorNm
import Derived.BigRegion
namespace Go.Proofs.YtkdpcnikgdbmaaaGreatDoor.Ac
open Go Go.RowKit

theorem next_md {R : Nat → Nat → Int → Prop} {W w : World} {b c B : Nat} {A : Option Addr} {zs : List Int} {v : Value} {es : List En} (st : Md R W b A zs.length c v es w) (hA : Sl W B A zs) (hB : B ≤ b) (hbW : b ≤ W.heap.size) (hz : ∀ z ∈ zs, I64 z) (hl : zs.length ≤ 17592186044404) (m : Int) (hm : 1 ≤ m) (hm' : m ≤ 9223372036854775807) :
    Calls Tryz.prog 55 #[.pointer (some ⟨b, 0, none⟩), .int .i64 m] w fun r w' => ∃ q : Int, r = .returned (.int .i64 q) ∧ Hid (0 ≤ q ∧ q < m) ∧ Hid (Md R W b A zs.length c v es w') := by
  refine (next_any m b A zs c B w (hA.grown st.st.gr hB hbW) hB hz hl st.st.nm hm hm').mono ?_
  rintro r w' ⟨q, rfl, h1, h2⟩
  exact ⟨q, rfl, h1, st.next h2.out⟩
theorem cell_md {R : Nat → Nat → Int → Prop} {W w : World} {b c B : Nat} {A : Option Addr} {zs : List Int} {v : Value} {es : List En} (st : Md R W b A zs.length c v es w) (hA : Sl W B A zs) (hB : B ≤ b) (hbW : b ≤ W.heap.size) (hz : ∀ z ∈ zs, I64 z) (hl : zs.length ≤ 17592186044404) (m : Int) (hm : 1 ≤ m) (hm' : m ≤ 9223372036854775807) :
    Calls Tryz.prog 41 #[.pointer (some ⟨b, 0, none⟩), .int .i64 m] w fun r w' => ∃ (kd cl fn tn : Int) (nA : Option Addr) (nn nc : Nat) (iA : Option Addr) (k ic : Nat), r = .returned (.agg #[.int .i64 kd, .int .i64 cl, .int .i64 fn, .int .i64 tn, .slice nA nn nc, .slice iA k ic]) ∧
      Hid (∀ id, Items (fun _ => Lo m) w' w.heap.size ⟨id, kd, cl, fn, tn, nA, nn, nc, iA, k, ic⟩) ∧ Hid (Md R W b A zs.length c v es w') := by
  refine (cell_any m b A zs c B w (hA.grown st.st.gr hB hbW) hB hz hl st.st.nm hm hm').mono ?_
  rintro r w' ⟨kd, cl, fn, tn, nA, nn, nc, iA, k, ic, rfl, h1, h2⟩
  exact ⟨kd, cl, fn, tn, nA, nn, nc, iA, k, ic, rfl, fun id => h1.out, st.next h2.out⟩
theorem Md.init {R : Nat → Nat → Int → Prop} {W : World} {b n c : Nat} {A : Option Addr} (h : Sn W b A n c [] W) : Md R W b A n c (.slice none 0 0) [] W :=
  ⟨h, World.ownsRow_nil _ _ _ _, fun i e he => by simp at he, fun i k e f _ he => by simp at he⟩
theorem news_all (w : World) (cs : Array Value) (T : TypeId) : ∀ j u, cs.toList[j]? = some u → (w.alloc (.cells cs T)).cell? ((⟨w.heap.size, 0, none⟩ : Addr).add j) = some u := by
  intro j u h
  have e : (⟨w.heap.size, 0, none⟩ : Addr).add j = ⟨w.heap.size, j, none⟩ := by unfold Addr.add; split <;> simp_all
  rw [e, World.cell?_alloc_new, ← h]; simp
theorem own_slice {w : World} {base : Nat} {e : TypeId} {size n : Nat} {v : Value} {xs : List Value} (h : w.ownsRow base e size v n xs) : ∃ A c, v = .slice A n c := by
  rcases h.2 with ⟨rfl, h0⟩ | ⟨g, cap, cur, rfl, _⟩
  · exact ⟨none, 0, by rw [h0]⟩
  · exact ⟨_, _, rfl⟩
theorem Md.alloc {R : Nat → Nat → Int → Prop} {W w : World} {b n c : Nat} {A : Option Addr} {v : Value} {es : List En} (h : Md R W b A n c v es w) (cs : Array Value) (T : TypeId) : Md R W b A n c v es (w.alloc (.cells cs T)) :=
  ⟨(h.st.alloc cs T).drop (fun p hp => by cases hp), World.ownsRow.alloc h.own _, fun i e he => (h.items i e he).kept (World.grownBy_alloc w _ none) (fun g hg => by cases hg), h.apart⟩
theorem Md.drew {R : Nat → Nat → Int → Prop} {W w : World} {b n c : Nat} {A : Option Addr} {v : Value} {es : List En} (h : Md R W b A n c v es w) : Md R W b A n c v es w.drew :=
  ⟨h.st.drew, h.own, fun i e he => h.items i e he, h.apart⟩
/-- The entries' cells. -/
theorem Md.at_ {R : Nat → Nat → Int → Prop} {W w : World} {b n c k vc : Nat} {A vA : Option Addr} {es : List En} (h : Md R W b A n c (.slice vA k vc) es w) (hk : es.length = k) (hp : 0 < k) :
    ∃ g, vA = some ⟨g, 0, none⟩ ∧ k ≤ vc ∧ g < w.heap.size ∧ ∀ q f, es[q]? = some f → ∀ i u, f.cells[i]? = some u → w.cell? ⟨g, q * 7 + i, none⟩ = some u := by
  have ho := h.own
  unfold OwnE at ho
  rw [hk] at ho
  obtain ⟨g, cap, e, hb, hg⟩ := World.ownsRow.form ho hp
  simp only [Value.slice.injEq] at e
  obtain ⟨rfl, _, rfl⟩ := e
  refine ⟨g, rfl, ?_, hg, fun q f hf i u hu => ?_⟩
  · rcases ho.2 with ⟨h', _⟩ | ⟨g', cap', cur, h', _, _, hnc, _⟩
    · simp at h'
    · simp only [Value.slice.injEq] at h'; omega
  · have hq : q < es.length := (List.getElem?_eq_some_iff.1 hf).1
    have hi : i < 7 := (List.getElem?_eq_some_iff.1 hu).1
    rw [World.ownsRow.cellAt ho _ (by omega)]
    exact flat_get es q i f u hf hu
theorem flat_set (vs : List Hp.Val) (j : Nat) (v : Hp.Val) (h : vs[j]? = some v) (z : Int) : (Hp.flatV vs).set (j * 3 + 1) (.int .i64 z) = Hp.flatV (vs.set j { v with n := z }) := by
  induction vs generalizing j with
  | nil => simp at h
  | cons a l ih =>
    rcases j with _ | j
    · obtain rfl : a = v := by simpa using h
      rfl
    · have := ih j (by simpa using h)
      have e : (j + 1) * 3 + 1 = (j * 3 + 1) + 3 := by omega
      rw [e]
      simpa [Hp.flatV] using this
theorem Gv.five {P : Int → Prop} {k x : Int} {s : ByteArray} (h : Gv P k x s) (h5 : k = 5) : P x := by
  rcases h with h | h | h | h | ⟨a, b, c⟩
  · omega
  · omega
  · omega
  · omega
  · exact b
theorem Gv.put {P Q : Int → Prop} {k x : Int} {s : ByteArray} (h : Gv P k x s) (h5 : k = 5) (z : Int) (hz : Q z) : Gv Q k z s := by
  rcases h with h | h | h | h | ⟨a, b, c⟩
  · omega
  · omega
  · omega
  · omega
  · exact .inr (.inr (.inr (.inr ⟨a, hz, c⟩)))
/-- The cells of an entry's items; one of them passed by, or its number written. -/
theorem Md.item {R : Nat → Nat → Int → Prop} {W w : World} {b n c : Nat} {A : Option Addr} {v : Value} {es : List En} (h : Md R W b A n c v es w) (i : Nat) (e : En) (he : es[i]? = some e) (j : Nat) (hj : j < e.m) :
    ∃ g kk x s, e.iA = some ⟨g, 0, none⟩ ∧ e.m ≤ e.ic ∧ g < w.heap.size ∧ w.cell? ⟨g, j * 3, none⟩ = some (.int .i64 kk) ∧ w.cell? ⟨g, j * 3 + 1, none⟩ = some (.int .i64 x) ∧ w.cell? ⟨g, j * 3 + 2, none⟩ = some (.string s) ∧
      w.frozen? ⟨g, j * 3 + 1, none⟩ = false ∧ Gv (R i j) kk x s ∧ e.m ≤ 3 ∧
      ∀ R' : Nat → Nat → Int → Prop, (∀ i' f, es[i']? = some f → ∀ t x, t < f.m → (i' = i → t ≠ j) → R i' t x → R' i' t x) →
        (kk ≠ 5 → Md R' W b A n c v es w) ∧ ∀ z : Int, kk = 5 → R' i j z → Md R' W b A n c v es (w.setCell ⟨g, j * 3 + 1, none⟩ (.int .i64 z)) := by
  obtain ⟨ns, vs, l1, l2, ⟨m1, m2, m3, m4⟩, hn, ho⟩ := h.items i e he
  simp only at m1 m2 m3 m4
  have hv := List.getElem?_eq_getElem (l := vs) (i := j) (by omega)
  generalize hve : vs[j]'(by omega) = v0 at hv
  clear hve
  obtain ⟨a0, a1, a2⟩ := flat_at vs j v0 hv
  have hGv := m3 j v0 hv
  have hfl : (Hp.flatV vs).length = e.m * 3 := ho.1
  obtain ⟨g, cap, e', hb, hg⟩ := World.ownsRow.form ho (by omega)
  simp only [Value.slice.injEq] at e'
  obtain ⟨e1, _, e2⟩ := e'
  have hcap : e.m ≤ e.ic := by
    rcases ho.2 with ⟨h', _⟩ | ⟨g', cap', cur, h', _, _, hnc, _⟩
    · simp only [Value.slice.injEq] at h'; omega
    · simp only [Value.slice.injEq] at h'; omega
  rw [e1] at ho
  refine ⟨g, v0.k, v0.n, v0.s, e1, hcap, hg, ?_, ?_, ?_, World.ownsRow.frozenAt ho _, hGv, by omega, fun R' hR => ⟨fun h5 => ?_, fun z h5 hz => ?_⟩⟩
  · rw [World.ownsRow.cellAt ho _ (by omega), Nat.mul_comm]; exact a0
  · rw [World.ownsRow.cellAt ho _ (by omega), Nat.mul_comm]; exact a1
  · rw [World.ownsRow.cellAt ho _ (by omega), Nat.mul_comm]; exact a2
  · refine ⟨h.st, h.own, fun i' f hf => ?_, h.apart⟩
    by_cases hi : i' = i
    · subst hi
      rw [he] at hf
      injection hf with hf
      subst hf
      refine ⟨ns, vs, l1, l2, ⟨m1, m2, fun t u hu => ?_, m4⟩, hn, by rw [e1]; exact ho⟩
      have ht := (List.getElem?_eq_some_iff.1 (show vs[t]? = some u from hu)).1
      refine (m3 t u hu).weaken fun hk hx => ?_
      by_cases hj' : t = j
      · subst hj'
        have : u = v0 := by
          have := hv.symm.trans hu
          injection this with this
          exact this.symm
        subst this
        exact absurd hk h5
      · exact hR _ e he t _ (by omega) (fun _ => hj') hx
    · exact (h.items i' f hf).weaken fun t x ht hx => hR i' f hf t x ht (fun e => absurd e hi) hx
  · obtain ⟨K, hK, hN⟩ := h.st.nm
    obtain ⟨cs, hB⟩ : ∃ (cs : Array Value), Bk w g cs 64 := by
      rcases ho.2 with ⟨h', _⟩ | ⟨g', cap', cur, h', _, hh, _⟩
      · simp at h'
      · simp only [Value.slice.injEq, Option.some.injEq, Addr.mk.injEq, and_true] at h'
        obtain ⟨rfl, _⟩ := h'
        exact ⟨cur, hh⟩
    have gr : w.grownBy (w.setCell ⟨g, j * 3 + 1, none⟩ (.int .i64 z)) (some g) := ⟨rfl, rfl, rfl, by simp [World.setCell], fun i _ hne => Below.heap_setCell w _ _ i (fun e => hne (by rw [e]))⟩
    refine ⟨h.st.grown gr (fun g' e => by injection e with e; omega) (fun p hp => by cases hp) (own_ne ho hN (show (64 : TypeId) ≠ 89 by decide)), own_store h.own hB (show (49 : TypeId) ≠ 64 by decide) _ _, fun i' f hf => ?_, h.apart⟩
    by_cases hi : i' = i
    · subst hi
      rw [he] at hf
      injection hf with hf
      subst hf
      have so := World.ownsRow.stored ho (j * 3 + 1) (.int .i64 z)
      rw [flat_set vs j v0 hv z] at so
      refine ⟨ns, vs.set j { v0 with n := z }, l1, by simpa using l2, ⟨m1, by simpa using m2, fun t u hu => ?_, ?_⟩, own_store hn hB (by decide) _ _, by rw [e1]; exact so.1⟩
      · have hu' : (vs.set j { v0 with n := z })[t]? = some u := hu
        have ht := (List.getElem?_eq_some_iff.1 hu').1
        rw [List.length_set] at ht
        by_cases hj' : t = j
        · subst hj'
          rw [List.getElem?_set_self (by omega)] at hu'
          injection hu' with hu'
          subst hu'
          exact hGv.put h5 z hz
        · rw [List.getElem?_set_ne (fun e => hj' e.symm)] at hu'
          exact (m3 t u hu').weaken fun _ hx => hR _ e he t _ (by omega) (fun _ => hj') hx
      · simp only [List.length_set]
        rcases m4 with m4 | m4 | m4 | ⟨q1, q2, q3, q4, u, q5, q6⟩
        · exact .inl m4
        · exact .inr (.inl m4)
        · exact .inr (.inr (.inl m4))
        · refine .inr (.inr (.inr ⟨q1, q2, q3, q4, { v0 with n := z }, ?_, .inr h5⟩))
          subst q5
          obtain rfl : j = 0 := by simp at l2; omega
          rfl
    · obtain ⟨ns', vs', k1, k2, k3, k4, k5⟩ := (h.items i' f hf).weaken fun t x ht hx => hR i' f hf t x ht (fun e => absurd e hi) hx
      refine ⟨ns', vs', k1, k2, k3, own_store k4 hB (by decide) _ _, k5.kept gr (.inr fun e' => ?_)⟩
      rcases h.apart i i' e f (fun e => hi e.symm) he hf with ha | ha
      · unfold En.row at ha; rw [e1] at ha; simp [Value.ownBlock] at ha
      · unfold En.row at ha; rw [e1, e'] at ha; simp [Value.ownBlock] at ha
theorem below_of {w W w' : World} (hb : Below w.heap.size w W) (hg : W.grownBy w' (some w.heap.size)) : Below w.heap.size w w' :=
  hb.trans ⟨hg.os, hg.tape, hg.output, hg.size, fun i hi => by
    rcases Nat.lt_or_ge i W.heap.size with h | h
    · exact hg.block i h (fun e => by injection e with e; omega)
    · have := hb.size; omega⟩
/-- Ids that go up, and lie below the next one. -/
def Up (es : List En) (nx : Int) : Prop := (es.map En.id).Pairwise (· < ·) ∧ ∀ e, e ∈ es → 0 ≤ e.id ∧ e.id < nx
theorem Up.add {es : List En} {id : Int} (h : Up es id) (e : En) (h0 : 0 ≤ id) (h1 : id ≤ e.id) : Up (es ++ [e]) (e.id + 1) := by
  refine ⟨?_, fun f hf => ?_⟩
  · rw [List.map_append, List.pairwise_append]
    refine ⟨h.1, List.pairwise_singleton _ _, fun a ha b hb => ?_⟩
    obtain ⟨f, hf, rfl⟩ := List.mem_map.1 ha
    obtain rfl : b = e.id := by simpa using hb
    have := (h.2 f hf).2
    omega
  · rcases List.mem_append.1 hf with hf | hf
    · have := h.2 f hf; omega
    · obtain rfl : f = e := by simpa using hf
      omega
theorem Up.more {es : List En} {id id' : Int} (h : Up es id) (hi : id ≤ id') : Up es id' := ⟨h.1, fun e he => by have := h.2 e he; omega⟩
/-- How a call of Made ends: entries by increasing ids, whose cells are such as numbers determine, their refs to ids that are there. -/
def MadeTo (w : World) (e : Ending) (w' : World) : Prop :=
  ∃ (v : Value) (es : List En) (nx : Int), e = .returned (.tuple #[v, .int .i64 nx]) ∧ OwnE w' w.heap.size v es ∧ es.length ≤ 8 ∧ (∀ (i : Nat) (e : En), es[i]? = some e → Items (fun _ x => x ∈ es.map En.id) w' w.heap.size e) ∧
    (∀ (i k : Nat) (e f : En), i ≠ k → es[i]? = some e → es[k]? = some f → e.row.ownBlock = none ∨ e.row.ownBlock ≠ f.row.ownBlock) ∧ Up es nx ∧ (0 ≤ nx ∧ nx ≤ 17) ∧ Below w.heap.size w w'
/-- Which refs are already ids. -/
def Rp (n : Int) (L : List Int) (p j i t : Nat) (x : Int) : Prop := if i < p ∨ (i = p ∧ t < j) then x ∈ L else Lo n x
theorem Rp.lo {n : Int} {L : List Int} {p j : Nat} {x : Int} (h : Rp n L p j p j x) : Lo n x := by
  unfold Rp at h; rw [if_neg (by omega)] at h; exact h
theorem Rp.new {n : Int} {L : List Int} {p j : Nat} {x : Int} (h : x ∈ L) : Rp n L p (j + 1) p j x := by
  unfold Rp; rw [if_pos (by omega)]; exact h
theorem Rp.step {n : Int} {L : List Int} {p j i t : Nat} {x : Int} (hne : i = p → t ≠ j) (h : Rp n L p j i t x) : Rp n L p (j + 1) i t x := by
  unfold Rp at *
  by_cases hi : i < p ∨ (i = p ∧ t < j)
  · rw [if_pos hi] at h; rw [if_pos (by omega)]; exact h
  · rw [if_neg hi] at h; rw [if_neg (by omega)]; exact h
theorem Rp.first {n : Int} {L : List Int} {i t : Nat} {x : Int} (h : Lo n x) : Rp n L 0 0 i t x := by
  unfold Rp; rw [if_neg (by omega)]; exact h
theorem Rp.row {n : Int} {L : List Int} {p m i t : Nat} {x : Int} (hm : i = p → t < m) (h : Rp n L p m i t x) : Rp n L (p + 1) 0 i t x := by
  unfold Rp at *
  by_cases hi : i < p ∨ (i = p ∧ t < m)
  · rw [if_pos hi] at h; rw [if_pos (by omega)]; exact h
  · rw [if_neg hi] at h; rw [if_neg (by omega)]; exact h
theorem Rp.last {n : Int} {L : List Int} {p i t : Nat} {x : Int} (hp : i < p) (h : Rp n L p 0 i t x) : x ∈ L := by
  unfold Rp at h; rw [if_pos (.inl hp)] at h; exact h
/-- What a round of Made's first loop carries. -/
def M1 (N : Int) (W : World) (b : Nat) (A : Option Addr) (n c : Nat) (v : Value) (k : Nat) (id : Int) (w : World) : Prop := 0 ≤ id ∧ id ≤ 2 * k ∧ ∃ es, es.length = k ∧ Up es id ∧ Md (fun _ _ => Lo N) W b A n c v es w
set_option maxRecDepth 10000 in
set_option maxHeartbeats 8000000 in
theorem made_any (A : Option Addr) (zs : List Int) (c : Nat) (w : World) (hA : Sl w w.heap.size A zs) (hz : ∀ z ∈ zs, I64 z) (hl : zs.length ≤ 17592186044404) :
    Calls Tryz.prog 15 #[.slice A zs.length c] w (MadeTo w) := by
  obtain ⟨i0, hi0, hz0, hz1, hz2⟩ := info_parts infoE
  have HZ := Lib.hid hz
  have hbw : Below w.heap.size w (w.alloc (.cells #[.slice A zs.length c, .int .i64 0] 89)) := (Below.refl _ _).alloc (Nat.le_refl _) _
  have HA := Lib.hid (hA.below hbw (Nat.le_refl _))
  have HB := Lib.hid hbw
  have M0 := Lib.hid (Md.init (R := fun _ _ => Lo 0) (Sn.init (w := w.alloc (.cells #[.slice A zs.length c, .int .i64 0] 89)) (b := w.heap.size) (A := A) (n := zs.length) (c := c) ⟨0, Nat.zero_le _, Bk.new _ _ _⟩))
  clear hA hz hbw
  go_enter Tryz.func15, Tryz.ntmps15
  go_wp2_with fail
  have hsz : (w.alloc (.cells #[.slice A zs.length c, .int .i64 0] 89)).heap.size = w.heap.size + 1 := World.size_alloc ..
  have hW : w.heap.size ≤ (w.alloc (.cells #[.slice A zs.length c, .int .i64 0] 89)).heap.size := by omega
  clear hsz
  generalize w.alloc (.cells #[.slice A zs.length c, .int .i64 0] 89) = W at *
  refine (next_md M0.out HA.out (Nat.le_refl _) hW HZ.out hl 9 (by omega) (by omega)).mono ?_
  rintro e w1 ⟨n, rfl, hn, M1'⟩
  obtain ⟨n0, n1⟩ := hn.out
  have L0 := Lib.hid (show M1 n W w.heap.size A zs.length c (.slice none 0 0) 0 0 w1 from ⟨by omega, by omega, [], rfl, ⟨List.Pairwise.nil, fun e he => by cases he⟩, M1'.out.weaken fun i e he => by simp at he⟩)
  clear M0 M1' hn
  go_wp2_with fail
  go_loopw [6, 7, 8] (fun v d i wr => ∃ (k : Nat) (id : Int) (vA : Option Addr) (vc : Nat), (k : Int) ≤ n ∧ i = .int .i64 k ∧ d = .int .i64 id ∧ v = .slice vA k vc ∧ Hid (M1 n W w.heap.size A zs.length c (.slice vA k vc) k id wr)) (fun _ _ i _ => 9 - (intOf i).toNat)
  case atStart => exact ⟨0, 0, none, 0, by omega, rfl, rfl, rfl, L0⟩
  case round =>
    clear L0
    obtain ⟨k, id, vA, vc, hk, rfl, rfl, rfl, hM⟩ := hrel
    by_cases hlt : (k : Int) < n
    · obtain ⟨d0, d1, es, hes, hup, hMd⟩ := hM.out
      have HU := Lib.hid hup
      clear hup
      have MD := Lib.hid hMd
      have HE := Lib.hid hes
      clear hMd hM hes
      go_wp2_with fail
      refine (next_md MD.out HA.out (Nat.le_refl _) hW HZ.out hl 2 (by omega) (by omega)).mono ?_
      rintro e w2 ⟨q, rfl, hq, MD2⟩
      obtain ⟨q0, q1⟩ := hq.out
      clear hq MD
      go_wp2_with fail
      refine (cell_md MD2.out HA.out (Nat.le_refl _) hW HZ.out hl n (by omega) (by omega)).mono ?_
      rintro e w3 ⟨kd, cl, fn, tn, nA, nn, nc, iA, m, ic, rfl, HI, MD3⟩
      have HLW := Lib.hid MD2.out.low
      have hC2 := MD2.out.st.gr.size
      clear MD2
      have hw3 := MD3.out.st.gr.size
      have OW := Lib.hid (show (w3.alloc (.cells #[.int .i64 (id + q), .int .i64 kd, .int .i64 cl, .int .i64 fn, .int .i64 tn, .slice nA nn nc, .slice iA m ic] 49)).ownsRow W.heap.size 49 7 (.slice vA k vc) k (es.flatMap En.cells) by
        have h := World.ownsRow.alloc MD3.out.own (.cells #[.int .i64 (id + q), .int .i64 kd, .int .i64 cl, .int .i64 fn, .int .i64 tn, .slice nA nn nc, .slice iA m ic] 49)
        rw [HE.out] at h; exact h)
      go_wp2_with (at_builtin; refine wpList_append_own _ rfl _ _ 33 rfl W.heap.size 49 i0 _ 7 88 Tryz.underlying33 hi0 hz0 hz1 hz2 rfl (by decide) (.slice vA k vc) k (es.flatMap En.cells) rfl OW.out ⟨w3.heap.size, 0, none⟩ 1 1 [.int .i64 (id + q), .int .i64 kd, .int .i64 cl, .int .i64 fn, .int .i64 tn, .slice nA nn nc, .slice iA m ic] rfl ?qc1 ?qc2 ?qc3 ?qc4 ?qc5 ?qc6 ?_)
      case qc1 => rfl
      case qc2 => exact news_all w3 #[.int .i64 (id + q), .int .i64 kd, .int .i64 cl, .int .i64 fn, .int .i64 tn, .slice nA nn nc, .slice iA m ic] 49
      case qc3 => intro u hu; simp at hu; rcases hu with rfl | rfl | rfl | rfl | rfl | rfl | rfl <;> rfl
      case qc4 => unfold maxLen; omega
      case qc5 => omega
      case qc6 => rw [World.size_alloc]; omega
      intro v' w4 hown hgrow _
      obtain ⟨vA', vc', rfl⟩ := own_slice hown
      have MD4 := Lib.hid (MD3.out.add (⟨id + q, kd, cl, fn, tn, nA, nn, nc, iA, m, ic⟩ : En) w2.heap.size (HI.out _) hC2 HLW.out (by rw [HE.out]; exact hown) hgrow)
      have HL4 := Lib.hid (show (es ++ [(⟨id + q, kd, cl, fn, tn, nA, nn, nc, iA, m, ic⟩ : En)]).length = k + 1 by simp [HE.out])
      have HU4 := Lib.hid (HU.out.add (⟨id + q, kd, cl, fn, tn, nA, nn, nc, iA, m, ic⟩ : En) d0 (by show id ≤ id + q; omega))
      clear hown hgrow OW MD3 HI HU HLW
      go_wp2_with fail
      go_roundw
      case rel => exact ⟨k + 1, id + q + 1, vA', vc', by omega, by go_num, rfl, rfl, Lib.hid ⟨by omega, by push_cast; omega, _, HL4.out, HU4.out, MD4.out⟩⟩
      case measure => simp [intOf]; omega
    · have hkn : (k : Int) = n := by omega
      have hge : n ≤ (k : Int) := by omega
      obtain ⟨d0, d1, es, hes, hup, hMd⟩ := hM.out
      have HU := Lib.hid hup
      clear hup
      have MD := Lib.hid hMd
      have HE := Lib.hid hes
      have HKN := Lib.hid hkn
      clear hMd hM hes hkn
      go_wp2_with fail
      go_loopw [9] (fun i wr => ∃ p : Nat, p ≤ k ∧ i = .int .i64 p ∧ Hid (Md (Rp n (es.map En.id) p 0) W w.heap.size A zs.length c (.slice vA k vc) es wr)) (fun i _ => k - (intOf i).toNat)
      case atStart => exact ⟨0, by omega, rfl, Lib.hid (MD.out.weaken fun i e he t x ht hx => Rp.first hx)⟩
      case round =>
        clear MD
        obtain ⟨p, hp, rfl, MD⟩ := hrel
        by_cases hpk : p < k
        · have hpk' : (p : Int) < k := by omega
          obtain ⟨f, hf⟩ : ∃ f, es[p]? = some f := ⟨es[p]'(by rw [HE.out]; exact hpk), List.getElem?_eq_getElem _⟩
          have HF := Lib.hid hf
          have HFM := Lib.hid (List.mem_of_getElem? hf)
          obtain ⟨g, rfl, hkc, _, _⟩ := MD.out.at_ HE.out (by omega)
          clear hf
          go_wp2_with fail
          go_loopw [10] (fun i wr => ∃ j : Nat, j ≤ f.m ∧ i = .int .i64 j ∧ Hid (Md (Rp n (es.map En.id) p j) W w.heap.size A zs.length c (.slice (some ⟨g, 0, none⟩) k vc) es wr)) (fun i _ => f.m - (intOf i).toNat)
          case atStart => exact ⟨0, by omega, rfl, MD⟩
          case round =>
            clear MD
            obtain ⟨j, hj, rfl, MD⟩ := hrel
            obtain ⟨g', eg, _, hgs, hcells⟩ := MD.out.at_ HE.out (by omega)
            injection eg with eg
            injection eg with eg
            subst eg
            have i6 := hcells p f HF.out 6 _ rfl
            have HC := Lib.hid hcells
            clear hcells
            by_cases hjm : j < f.m
            · have hjm' : (j : Int) < f.m := by omega
              obtain ⟨gi, kk, x, s, hiA, hmc, hgi, y0, y1, y2, z1, hk5, hm3, hset⟩ := MD.out.item p f HF.out j hjm
              rw [hiA] at i6
              have HS := Lib.hid hset
              have HIA := Lib.hid hiA
              have HK := Lib.hid hk5
              clear hset hiA hk5
              have MDb := Lib.hid (MD.out.alloc #[.int .i64 kk, .int .i64 x, .string s] 64)
              have XB := Lib.hid (Bk.new wr #[.int .i64 kk, .int .i64 x, .string s] 64)
              have hgx : g < wr.heap.size := by assumption
              by_cases hkk : kk = 5
              · have hx0 := (Rp.lo (HK.out.five hkk)).1
                have Y0b := Lib.hid (show (wr.alloc (.cells #[.int .i64 kk, .int .i64 x, .string s] 64)).cell? ⟨gi, j * 3, none⟩ = some (.int .i64 kk) from (World.cell?_of_block (a := ⟨gi, j * 3, none⟩) (Below.heap_alloc wr _ gi hgi)).trans y0)
                have hb : (kk == 5) = true := by simp [hkk]
                have HKK := Lib.hid hkk
                clear hkk
                go_wp2_with fail
                generalize wr.alloc (.cells #[.int .i64 kk, .int .i64 x, .string s] 64) = wb at *
                generalize wr.heap.size = X at *
                clear i6 y0 y1 y2 z1 HC HS MD
                obtain ⟨g2, eg2, _, _, hcells2⟩ := MDb.out.at_ HE.out (by omega)
                injection eg2 with eg2
                injection eg2 with eg2
                subst eg2
                have i6 := hcells2 p f HF.out 6 _ rfl
                rw [HIA.out] at i6
                obtain ⟨r, hr, hrk⟩ : ∃ r : Nat, x % (k : Int) = r ∧ r < k := ⟨(x % (k : Int)).toNat, by
                  have := Int.emod_nonneg x (show (k : Int) ≠ 0 by omega); omega, by
                  have := Int.emod_lt_of_pos x (show (0 : Int) < k by omega); have := Int.emod_nonneg x (show (k : Int) ≠ 0 by omega); omega⟩
                obtain ⟨er, her⟩ : ∃ er, es[r]? = some er := ⟨es[r]'(by rw [HE.out]; exact hrk), List.getElem?_eq_getElem _⟩
                have ir : wb.cell? ⟨g, r * 7, none⟩ = some (.int .i64 er.id) := hcells2 r er her 0 _ rfl
                obtain ⟨gi2, kk2, x2, s2, hiA2, hmc2, hgi2, y0c, y1, _, z1, _, _, hset⟩ := MDb.out.item p f HF.out j hjm
                rw [HIA.out] at hiA2
                injection hiA2 with hiA2
                injection hiA2 with hiA2
                subst hiA2
                have hkk2 : kk2 = 5 := by
                  have h1 := y0c.symm.trans Y0b.out
                  injection h1 with h1
                  injection h1 with _ h1
                  rw [h1]; exact HKK.out
                have MDn := Lib.hid ((hset (Rp n (es.map En.id) p (j + 1)) fun i' f' _ t x _ hne hx => Rp.step hne hx).2 er.id hkk2 (Rp.new (List.mem_map.2 ⟨er, List.mem_of_getElem? her, rfl⟩))).drew
                clear y0c
                have c1 := XB.out.cell 1 _ rfl
                have hmod : x.tmod (k : Int) = (r : Int) := by rw [Int.tmod_eq_emod_of_nonneg hx0]; exact hr
                have hrk' : (r : Int) < k := by omega
                have hr0 : (0 : Int) ≤ (r : Int) := by omega
                have hk0 : ¬ (k : Int) = 0 := by omega
                clear hset hcells2 hr her
                go_region
                all_goals
                  clear i6 ir c1 hmod y1 z1
                  go_wp2_with fail
                  go_roundw
                  case rel => exact ⟨j + 1, by omega, by go_num, MDn⟩
                  case measure => simp [intOf]; omega
              · have hb : (kk == 5) = false := by simp [hkk]
                have MDs := Lib.hid (((HS.out (Rp n (es.map En.id) p (j + 1)) fun i' f' _ t x _ hne hx => Rp.step hne hx).1 hkk).alloc #[.int .i64 kk, .int .i64 x, .string s] 64)
                clear hkk
                go_wp2_with fail
                go_roundw
                case rel => exact ⟨j + 1, by omega, by go_num, MDs⟩
                case measure => simp [intOf]; omega
            · have hjg : (f.m : Int) ≤ j := by omega
              go_wp2_with fail
              go_roundw
              case rel =>
                refine ⟨p + 1, by omega, by go_num, Lib.hid (MD.out.weaken fun i e he t x ht hx => Rp.row (fun hi => ?_) hx)⟩
                subst hi
                have h1 := he.symm.trans HF.out
                injection h1 with h1
                subst h1
                omega
              case measure => simp [intOf]; omega
        · have hpg : (k : Int) ≤ p := by omega
          go_wp2_with fail
          refine (next_md MD.out HA.out (Nat.le_refl _) hW HZ.out hl 2 (by omega) (by omega)).mono ?_
          rintro e w9 ⟨q, rfl, hq, MD9⟩
          obtain ⟨q0, q1⟩ := hq.out
          clear hq
          go_wp2_with fail
          go_ret2
          refine ⟨.slice vA k vc, es, id + q, rfl, own_mono MD9.out.own hW, by rw [HE.out]; omega, fun i e he => ?_, MD9.out.apart, HU.out.more (by omega), ⟨by omega, by omega⟩, below_of HB.out MD9.out.st.gr⟩
          have hik : i < k := by rw [← HE.out]; exact (List.getElem?_eq_some_iff.1 he).1
          exact ((MD9.out.items i e he).weaken fun t x ht hx => Rp.last (by omega) hx).mono hW
end Go.Proofs.YtkdpcnikgdbmaaaGreatDoor.Ac
