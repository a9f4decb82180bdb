/-
  The walk of the reference's Made.
-/
import Derived.Test.YtbpehdpcnnaidaaNm
import Derived.BigRegion
namespace Go.Proofs.Ytbpehdpcnnaidaa.Ac
open Go Go.RowKit

theorem next_md {W w : World} {b c B : Nat} {A : Option Addr} {zs : List Int} {v : Value} {es : List En} (st : Md W b A zs.length c v es w) (hA : Sl W B A zs) (hB : B ≤ b) (hbW : b ≤ W.heap.size) (hz : ∀ z ∈ zs, I64 z) (hl : zs.length ≤ 17592186044404) (m : Int) (hm : 1 ≤ m) (hm' : m ≤ 9223372036854775807) :
    Calls Try.prog 26 #[.pointer (some ⟨b, 0, none⟩), .int .i64 m] w fun r w' => ∃ q : Int, r = .returned (.int .i64 q) ∧ Hid (0 ≤ q ∧ q < m) ∧ Hid (Md W b A zs.length c v es w') := by
  refine (next_any m b A zs c B w (hA.grown st.st.gr hB hbW) hB hz hl st.st.nm hm hm').mono ?_
  rintro r w' ⟨q, rfl, h1, h2⟩
  exact ⟨q, rfl, h1, st.next h2.out⟩
theorem cell_md {W w : World} {b c B : Nat} {A : Option Addr} {zs : List Int} {v : Value} {es : List En} (st : Md W b A zs.length c v es w) (hA : Sl W B A zs) (hB : B ≤ b) (hbW : b ≤ W.heap.size) (hz : ∀ z ∈ zs, I64 z) (hl : zs.length ≤ 17592186044404) (m : Int) (hm : 1 ≤ m) (hm' : m ≤ 9223372036854775807) :
    Calls Try.prog 27 #[.pointer (some ⟨b, 0, none⟩), .int .i64 m] w fun r w' => ∃ (kd cl fn tn : Int) (nA : Option Addr) (nn nc : Nat) (iA : Option Addr) (k ic : Nat), r = .returned (.agg #[.int .i64 kd, .int .i64 cl, .int .i64 fn, .int .i64 tn, .slice nA nn nc, .slice iA k ic]) ∧
      Hid (∀ id, Items w' W.heap.size ⟨id, kd, cl, fn, tn, nA, nn, nc, iA, k, ic⟩) ∧ Hid (Md W b A zs.length c v es w') := by
  refine (cell_any m b A zs c B w (hA.grown st.st.gr hB hbW) hB hz hl st.st.nm hm hm').mono ?_
  rintro r w' ⟨kd, cl, fn, tn, nA, nn, nc, iA, k, ic, xs, rfl, h1, h2⟩
  exact ⟨kd, cl, fn, tn, nA, nn, nc, iA, k, ic, rfl, fun id => Items.mono (base := w.heap.size) ⟨h1.out.1, xs, h1.out.2.1, h1.out.2.2⟩ st.st.gr.size, st.next h2.out⟩
theorem Md.init {W : World} {b n c : Nat} {A : Option Addr} (h : Sn W b A n c [] W) : Md W b A n c (.slice none 0 0) [] W :=
  ⟨h, World.ownsRow_nil _ _ _ _, fun e he => by cases he⟩
theorem news_all (w : World) (cs : Array Value) (T : TypeId) : ∀ j u, cs.toList[j]? = some u → (w.alloc (.cells cs T)).cell? ((⟨w.heap.size, 0, none⟩ : Addr).add j) = some u := by
  intro j u h
  have e : (⟨w.heap.size, 0, none⟩ : Addr).add j = ⟨w.heap.size, j, none⟩ := by unfold Addr.add; split <;> simp_all
  rw [e, World.cell?_alloc_new, ← h]; simp
theorem own_slice {w : World} {base : Nat} {e : TypeId} {size n : Nat} {v : Value} {xs : List Value} (h : w.ownsRow base e size v n xs) : ∃ A c, v = .slice A n c := by
  rcases h.2 with ⟨rfl, h0⟩ | ⟨g, cap, cur, rfl, _⟩
  · exact ⟨none, 0, by rw [h0]⟩
  · exact ⟨_, _, rfl⟩
theorem Md.alloc {W w : World} {b n c : Nat} {A : Option Addr} {v : Value} {es : List En} (h : Md W b A n c v es w) (cs : Array Value) (T : TypeId) : Md W b A n c v es (w.alloc (.cells cs T)) :=
  ⟨(h.st.alloc cs T).drop (fun p hp => by cases hp), World.ownsRow.alloc h.own _, fun e he => ⟨(h.items e he).1.kept (World.grownBy_alloc w _ none) (fun g hg => by cases hg), (h.items e he).2⟩⟩
theorem Md.drew {W w : World} {b n c : Nat} {A : Option Addr} {v : Value} {es : List En} (h : Md W b A n c v es w) : Md W b A n c v es w.drew :=
  ⟨h.st.drew, h.own, fun e he => h.items e he⟩
/-- The entries' cells. -/
theorem Md.at_ {W w : World} {b n c k vc : Nat} {A vA : Option Addr} {es : List En} (h : Md W b A n c (.slice vA k vc) es w) (hk : es.length = k) (hp : 0 < k) :
    ∃ g, vA = some ⟨g, 0, none⟩ ∧ k ≤ vc ∧ g < w.heap.size ∧ ∀ q f, es[q]? = some f → ∀ i u, f.cells[i]? = some u → w.cell? ⟨g, q * 7 + i, none⟩ = some u := by
  have ho := h.own
  unfold OwnE at ho
  rw [hk] at ho
  obtain ⟨g, cap, e, hb, hg⟩ := World.ownsRow.form ho hp
  simp only [Value.slice.injEq] at e
  obtain ⟨rfl, _, rfl⟩ := e
  refine ⟨g, rfl, ?_, hg, fun q f hf i u hu => ?_⟩
  · rcases ho.2 with ⟨h', _⟩ | ⟨g', cap', cur, h', _, _, hnc, _⟩
    · simp at h'
    · simp only [Value.slice.injEq] at h'; omega
  · have hq : q < es.length := (List.getElem?_eq_some_iff.1 hf).1
    have hi : i < 7 := (List.getElem?_eq_some_iff.1 hu).1
    rw [World.ownsRow.cellAt ho _ (by omega)]
    exact flat_get es q i f u hf hu
/-- The cells of an entry's items, and the number of one of them written. -/
theorem Md.item {W w : World} {b n c : Nat} {A : Option Addr} {v : Value} {es : List En} (h : Md W b A n c v es w) (e : En) (he : e ∈ es) (j : Nat) (hj : j < e.m) :
    ∃ g kk x s, e.iA = some ⟨g, 0, none⟩ ∧ e.m ≤ e.ic ∧ g < w.heap.size ∧ w.cell? ⟨g, j * 3, none⟩ = some (.int .i64 kk) ∧ w.cell? ⟨g, j * 3 + 1, none⟩ = some (.int .i64 x) ∧ w.cell? ⟨g, j * 3 + 2, none⟩ = some (.string s) ∧
      w.frozen? ⟨g, j * 3 + 1, none⟩ = false ∧ (kk = 5 → 0 ≤ x) ∧ ∀ z : Int, 0 ≤ z → Md W b A n c v es (w.setCell ⟨g, j * 3 + 1, none⟩ (.int .i64 z)) := by
  obtain ⟨⟨h3, xs, hv, ho⟩, _⟩ := h.items e he
  obtain ⟨kk, x, s, a0, a1, a2, hk⟩ := hv j hj
  obtain ⟨g, cap, e', hb, hg⟩ := World.ownsRow.form ho (by omega)
  simp only [Value.slice.injEq] at e'
  obtain ⟨e1, _, e2⟩ := e'
  have hcap : e.m ≤ e.ic := by
    rcases ho.2 with ⟨h', _⟩ | ⟨g', cap', cur, h', _, _, hnc, _⟩
    · simp only [Value.slice.injEq] at h'; omega
    · simp only [Value.slice.injEq] at h'; omega
  rw [e1] at ho
  refine ⟨g, kk, x, s, e1, hcap, hg, ?_, ?_, ?_, World.ownsRow.frozenAt ho _, hk, fun z hz => ?_⟩
  · rw [World.ownsRow.cellAt ho _ (by omega), Nat.mul_comm]; exact a0
  · rw [World.ownsRow.cellAt ho _ (by omega), Nat.mul_comm]; exact a1
  · rw [World.ownsRow.cellAt ho _ (by omega), Nat.mul_comm]; exact a2
  · obtain ⟨K, hK, hn⟩ := h.st.nm
    obtain ⟨_, _, hB⟩ : ∃ (cs : Array Value) (_ : Unit), Bk w g cs 67 := by
      rcases ho.2 with ⟨h', _⟩ | ⟨g', cap', cur, h', _, hh, _⟩
      · simp at h'
      · simp only [Value.slice.injEq, Option.some.injEq, Addr.mk.injEq, and_true] at h'
        obtain ⟨rfl, _⟩ := h'
        exact ⟨cur, (), hh⟩
    have gr : w.grownBy (w.setCell ⟨g, j * 3 + 1, none⟩ (.int .i64 z)) (some g) := ⟨rfl, rfl, rfl, by simp [World.setCell], fun i _ hne => Below.heap_setCell w _ _ i (fun e => hne (by rw [e]))⟩
    refine ⟨h.st.grown gr (fun g' e => by injection e with e; omega) (fun p hp => by cases hp) (own_ne ho hn (show (67 : TypeId) ≠ 63 by decide)), own_store h.own hB (show (54 : TypeId) ≠ 67 by decide) _ _, fun f hf => ⟨?_, (h.items f hf).2⟩⟩
    obtain ⟨⟨f3, ys, fv, fo⟩, _⟩ := h.items f hf
    by_cases hfg : (Value.slice f.iA f.m f.ic).ownBlock = some g
    · have hfa : f.iA = some ⟨g, 0, none⟩ := by
        rcases fo.2 with ⟨h', _⟩ | ⟨g', cap', cur, h', _⟩
        · rw [h'] at hfg; simp [Value.ownBlock] at hfg
        · rw [h'] at hfg
          simp [Value.ownBlock] at hfg
          subst hfg
          simp only [Value.slice.injEq] at h'
          exact h'.1
      rw [hfa] at fo
      have so := World.ownsRow.stored fo (j * 3 + 1) (.int .i64 z)
      refine ⟨f3, _, ?_, by rw [hfa]; exact so.1⟩
      intro i hi
      obtain ⟨k', x', s', b0, b1, b2, hk'⟩ := fv i hi
      have l0 := (List.getElem?_eq_some_iff.1 b1).1
      by_cases hij : i = j
      · subst hij
        refine ⟨k', z, s', ?_, ?_, ?_, fun _ => hz⟩
        · rw [List.getElem?_set_ne (by omega)]; exact b0
        · rw [Nat.mul_comm 3 i]; rw [Nat.mul_comm 3 i] at l0; rw [List.getElem?_set_self l0]
        · rw [List.getElem?_set_ne (by omega)]; exact b2
      · refine ⟨k', x', s', ?_, ?_, ?_, hk'⟩
        · rw [List.getElem?_set_ne (by omega)]; exact b0
        · rw [List.getElem?_set_ne (by omega)]; exact b1
        · rw [List.getElem?_set_ne (by omega)]; exact b2
    · exact ⟨f3, ys, fv, fo.kept gr (.inr hfg)⟩
theorem own_mono {w : World} {base base' : Nat} {e : TypeId} {size n : Nat} {v : Value} {xs : List Value} (h : w.ownsRow base e size v n xs) (hb : base' ≤ base) : w.ownsRow base' e size v n xs := by
  refine ⟨h.1, ?_⟩
  rcases h.2 with h | ⟨g, cap, cur, e, h1, h2⟩
  · exact .inl h
  · exact .inr ⟨g, cap, cur, e, by omega, h2⟩
theorem below_of {w W w' : World} (hb : Below w.heap.size w W) (hg : W.grownBy w' (some w.heap.size)) : Below w.heap.size w w' :=
  hb.trans ⟨hg.os, hg.tape, hg.output, hg.size, fun i hi => by
    rcases Nat.lt_or_ge i W.heap.size with h | h
    · exact hg.block i h (fun e => by injection e with e; omega)
    · have := hb.size; omega⟩
/-- How a call of Made ends. -/
def MadeTo (w : World) (e : Ending) (w' : World) : Prop :=
  ∃ (v : Value) (es : List En) (nx : Int), e = .returned (.tuple #[v, .int .i64 nx]) ∧ OwnE w' w.heap.size v es ∧ es.length ≤ 8 ∧ (∀ e, e ∈ es → e.m ≤ 3) ∧ Below w.heap.size w w'
/-- What a round of Made's first loop carries. -/
def M1 (W : World) (b : Nat) (A : Option Addr) (n c : Nat) (v : Value) (k : Nat) (id : Int) (w : World) : Prop := 0 ≤ id ∧ id ≤ 2 * k ∧ ∃ es, es.length = k ∧ Md W b A n c v es w
set_option maxRecDepth 10000 in
set_option maxHeartbeats 8000000 in
theorem made_any (A : Option Addr) (zs : List Int) (c : Nat) (w : World) (hA : Sl w w.heap.size A zs) (hz : ∀ z ∈ zs, I64 z) (hl : zs.length ≤ 17592186044404) :
    Calls Try.prog 21 #[.slice A zs.length c] w (MadeTo w) := by
  obtain ⟨i0, hi0, hz0, hz1, hz2⟩ := info_parts infoE
  have HZ := Lib.hid hz
  have hbw : Below w.heap.size w (w.alloc (.cells #[.slice A zs.length c, .int .i64 0] 63)) := (Below.refl _ _).alloc (Nat.le_refl _) _
  have HA := Lib.hid (hA.below hbw (Nat.le_refl _))
  have HB := Lib.hid hbw
  have M0 := Lib.hid (Md.init (Sn.init (w := w.alloc (.cells #[.slice A zs.length c, .int .i64 0] 63)) (b := w.heap.size) (A := A) (n := zs.length) (c := c) ⟨0, Nat.zero_le _, Bk.new _ _ _⟩))
  clear hA hz hbw
  go_enter Try.func21, Try.ntmps21
  go_wp2_with fail
  have hsz : (w.alloc (.cells #[.slice A zs.length c, .int .i64 0] 63)).heap.size = w.heap.size + 1 := World.size_alloc ..
  have hW : w.heap.size ≤ (w.alloc (.cells #[.slice A zs.length c, .int .i64 0] 63)).heap.size := by omega
  clear hsz
  generalize w.alloc (.cells #[.slice A zs.length c, .int .i64 0] 63) = W at *
  refine (next_md M0.out HA.out (Nat.le_refl _) hW HZ.out hl 9 (by omega) (by omega)).mono ?_
  rintro e w1 ⟨n, rfl, hn, M1'⟩
  obtain ⟨n0, n1⟩ := hn.out
  have L0 := Lib.hid (show M1 W w.heap.size A zs.length c (.slice none 0 0) 0 0 w1 from ⟨by omega, by omega, [], rfl, M1'.out⟩)
  clear M0 M1' hn
  go_wp2_with fail
  go_loopw [6, 7, 8] (fun v d i wr => ∃ (k : Nat) (id : Int) (vA : Option Addr) (vc : Nat), (k : Int) ≤ n ∧ i = .int .i64 k ∧ d = .int .i64 id ∧ v = .slice vA k vc ∧ Hid (M1 W w.heap.size A zs.length c (.slice vA k vc) k id wr)) (fun _ _ i _ => 9 - (intOf i).toNat)
  case atStart => exact ⟨0, 0, none, 0, by omega, rfl, rfl, rfl, L0⟩
  case round =>
    clear L0
    obtain ⟨k, id, vA, vc, hk, rfl, rfl, rfl, hM⟩ := hrel
    by_cases hlt : (k : Int) < n
    · obtain ⟨d0, d1, es, hes, hMd⟩ := hM.out
      have MD := Lib.hid hMd
      have HE := Lib.hid hes
      clear hMd hM hes
      go_wp2_with fail
      refine (next_md MD.out HA.out (Nat.le_refl _) hW HZ.out hl 2 (by omega) (by omega)).mono ?_
      rintro e w2 ⟨q, rfl, hq, MD2⟩
      obtain ⟨q0, q1⟩ := hq.out
      clear hq MD
      go_wp2_with fail
      refine (cell_md MD2.out HA.out (Nat.le_refl _) hW HZ.out hl n (by omega) (by omega)).mono ?_
      rintro e w3 ⟨kd, cl, fn, tn, nA, nn, nc, iA, m, ic, rfl, HI, MD3⟩
      clear MD2
      have hw3 := MD3.out.st.gr.size
      have OW := Lib.hid (show (w3.alloc (.cells #[.int .i64 (id + q), .int .i64 kd, .int .i64 cl, .int .i64 fn, .int .i64 tn, .slice nA nn nc, .slice iA m ic] 54)).ownsRow W.heap.size 54 7 (.slice vA k vc) k (es.flatMap En.cells) by
        have h := World.ownsRow.alloc MD3.out.own (.cells #[.int .i64 (id + q), .int .i64 kd, .int .i64 cl, .int .i64 fn, .int .i64 tn, .slice nA nn nc, .slice iA m ic] 54)
        rw [HE.out] at h; exact h)
      go_wp2_with (at_builtin; refine wpList_append_own _ rfl _ _ 45 rfl W.heap.size 54 i0 _ 7 88 Try.underlying45 hi0 hz0 hz1 hz2 rfl (by decide) (.slice vA k vc) k (es.flatMap En.cells) rfl OW.out ⟨w3.heap.size, 0, none⟩ 1 1 [.int .i64 (id + q), .int .i64 kd, .int .i64 cl, .int .i64 fn, .int .i64 tn, .slice nA nn nc, .slice iA m ic] rfl ?qc1 ?qc2 ?qc3 ?qc4 ?qc5 ?qc6 ?_)
      case qc1 => rfl
      case qc2 => exact news_all w3 #[.int .i64 (id + q), .int .i64 kd, .int .i64 cl, .int .i64 fn, .int .i64 tn, .slice nA nn nc, .slice iA m ic] 54
      case qc3 => intro u hu; simp at hu; rcases hu with rfl | rfl | rfl | rfl | rfl | rfl | rfl <;> rfl
      case qc4 => unfold maxLen; omega
      case qc5 => omega
      case qc6 => rw [World.size_alloc]; omega
      intro v' w4 hown hgrow _
      obtain ⟨vA', vc', rfl⟩ := own_slice hown
      have MD4 := Lib.hid (MD3.out.add (⟨id + q, kd, cl, fn, tn, nA, nn, nc, iA, m, ic⟩ : En) (HI.out _) (by show 0 ≤ id + q; omega) (by rw [HE.out]; exact hown) hgrow)
      have HL4 := Lib.hid (show (es ++ [(⟨id + q, kd, cl, fn, tn, nA, nn, nc, iA, m, ic⟩ : En)]).length = k + 1 by simp [HE.out])
      clear hown hgrow OW MD3 HI
      go_wp2_with fail
      go_roundw
      case rel => exact ⟨k + 1, id + q + 1, vA', vc', by omega, by go_num, rfl, rfl, Lib.hid ⟨by omega, by push_cast; omega, _, HL4.out, MD4.out⟩⟩
      case measure => simp [intOf]; omega
    · have hkn : (k : Int) = n := by omega
      have hge : n ≤ (k : Int) := by omega
      obtain ⟨d0, d1, es, hes, hMd⟩ := hM.out
      have MD := Lib.hid hMd
      have HE := Lib.hid hes
      clear hMd hM hes hkn
      go_wp2_with fail
      go_loopw [9] (fun i wr => ∃ p : Nat, p ≤ k ∧ i = .int .i64 p ∧ Hid (Md W w.heap.size A zs.length c (.slice vA k vc) es wr)) (fun i _ => k - (intOf i).toNat)
      case atStart => exact ⟨0, by omega, rfl, MD⟩
      case round =>
        clear MD
        obtain ⟨p, hp, rfl, MD⟩ := hrel
        by_cases hpk : p < k
        · have hpk' : (p : Int) < k := by omega
          obtain ⟨f, hf⟩ : ∃ f, es[p]? = some f := ⟨es[p]'(by rw [HE.out]; exact hpk), List.getElem?_eq_getElem _⟩
          have HF := Lib.hid hf
          have HFM := Lib.hid (List.mem_of_getElem? hf)
          obtain ⟨g, rfl, hkc, _, _⟩ := MD.out.at_ HE.out (by omega)
          clear hf
          go_wp2_with fail
          go_loopw [10] (fun i wr => ∃ j : Nat, j ≤ f.m ∧ i = .int .i64 j ∧ Hid (Md W w.heap.size A zs.length c (.slice (some ⟨g, 0, none⟩) k vc) es wr)) (fun i _ => f.m - (intOf i).toNat)
          case atStart => exact ⟨0, by omega, rfl, MD⟩
          case round =>
            clear MD
            obtain ⟨j, hj, rfl, MD⟩ := hrel
            obtain ⟨g', eg, _, hgs, hcells⟩ := MD.out.at_ HE.out (by omega)
            injection eg with eg
            injection eg with eg
            subst eg
            have i6 := hcells p f HF.out 6 _ rfl
            have HC := Lib.hid hcells
            clear hcells
            by_cases hjm : j < f.m
            · have hjm' : (j : Int) < f.m := by omega
              obtain ⟨gi, kk, x, s, hiA, hmc, hgi, y0, y1, y2, z1, hk5, hset⟩ := MD.out.item f HFM.out j hjm
              rw [hiA] at i6
              have HS := Lib.hid hset
              have HIA := Lib.hid hiA
              have HK := Lib.hid hk5
              clear hset hiA hk5
              have hm3 : f.m ≤ 3 := (MD.out.items f HFM.out).1.1
              have MDb := Lib.hid (MD.out.alloc #[.int .i64 kk, .int .i64 x, .string s] 67)
              have XB := Lib.hid (Bk.new wr #[.int .i64 kk, .int .i64 x, .string s] 67)
              have hgx : g < wr.heap.size := by assumption
              by_cases hkk : kk = 5
              · have hx0 := HK.out hkk
                have hb : (kk == 5) = true := by simp [hkk]
                have HKK := Lib.hid hkk
                clear hkk
                go_wp2_with fail
                generalize wr.alloc (.cells #[.int .i64 kk, .int .i64 x, .string s] 67) = wb at *
                generalize wr.heap.size = X at *
                clear i6 y0 y1 y2 z1 HC HS MD
                obtain ⟨g2, eg2, _, _, hcells2⟩ := MDb.out.at_ HE.out (by omega)
                injection eg2 with eg2
                injection eg2 with eg2
                subst eg2
                have i6 := hcells2 p f HF.out 6 _ rfl
                rw [HIA.out] at i6
                obtain ⟨r, hr, hrk⟩ : ∃ r : Nat, x % (k : Int) = r ∧ r < k := ⟨(x % (k : Int)).toNat, by
                  have := Int.emod_nonneg x (show (k : Int) ≠ 0 by omega); omega, by
                  have := Int.emod_lt_of_pos x (show (0 : Int) < k by omega); have := Int.emod_nonneg x (show (k : Int) ≠ 0 by omega); omega⟩
                obtain ⟨er, her⟩ : ∃ er, es[r]? = some er := ⟨es[r]'(by rw [HE.out]; exact hrk), List.getElem?_eq_getElem _⟩
                have ir : wb.cell? ⟨g, r * 7, none⟩ = some (.int .i64 er.id) := hcells2 r er her 0 _ rfl
                obtain ⟨gi2, kk2, x2, s2, hiA2, hmc2, hgi2, _, y1, _, z1, _, hset⟩ := MDb.out.item f HFM.out j hjm
                rw [HIA.out] at hiA2
                injection hiA2 with hiA2
                injection hiA2 with hiA2
                subst hiA2
                have MDn := Lib.hid (hset er.id ((MDb.out.items er (List.mem_of_getElem? her)).2)).drew
                have c1 := XB.out.cell 1 _ rfl
                have hmod : x.tmod (k : Int) = (r : Int) := by rw [Int.tmod_eq_emod_of_nonneg hx0]; exact hr
                have hrk' : (r : Int) < k := by omega
                have hr0 : (0 : Int) ≤ (r : Int) := by omega
                have hk0 : ¬ (k : Int) = 0 := by omega
                clear hset hcells2 hr her
                go_region
                all_goals
                  clear i6 ir c1 hmod y1 z1
                  go_wp2_with fail
                  go_roundw
                  case rel => exact ⟨j + 1, by omega, by go_num, MDn⟩
                  case measure => simp [intOf]; omega
              · have hb : (kk == 5) = false := by simp [hkk]
                clear hkk
                go_wp2_with fail
                go_roundw
                case rel => exact ⟨j + 1, by omega, by go_num, MDb⟩
                case measure => simp [intOf]; omega
            · have hjg : (f.m : Int) ≤ j := by omega
              go_wp2_with fail
              go_roundw
              case rel => exact ⟨p + 1, by omega, by go_num, MD⟩
              case measure => simp [intOf]; omega
        · have hpg : (k : Int) ≤ p := by omega
          go_wp2_with fail
          refine (next_md MD.out HA.out (Nat.le_refl _) hW HZ.out hl 2 (by omega) (by omega)).mono ?_
          rintro e w9 ⟨q, rfl, hq, MD9⟩
          obtain ⟨q0, q1⟩ := hq.out
          clear hq
          go_wp2_with fail
          go_ret2
          exact ⟨.slice vA k vc, es, id + q, rfl, own_mono MD9.out.own hW, by rw [HE.out]; omega, fun e he => (MD9.out.items e he).1.1, below_of HB.out MD9.out.st.gr⟩
end Go.Proofs.Ytbpehdpcnnaidaa.Ac
