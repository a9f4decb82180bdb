/-
  The reference's Load, carried out.
-/
import Derived.Test.YtkdpcnikgdbmaaaGreatDoorKc
import Derived.Test.YtkdpcnikgdbmaaaGreatDoorQa
import Derived.Test.YtkdpcnikgdbmaaaGreatDoorQb
import Derived.Test.YtkdpcnikgdbmaaaGreatDoorKa
import Derived.Test.YtkdpcnikgdbmaaaGreatDoorIb
import Derived.OrdersHeld
namespace Go.Proofs.YtkdpcnikgdbmaaaGreatDoor.Hp
open Go Go.RowKit Go.Maps Va

theorem one_ready {P : Program} {ops : Array Oper} {Q : Exit → Go.Act → World → Prop} {S : World → Prop} {md : Region.Mode} {fuel : Nat} {listed : Array Bool} {a : Go.Act} {w : World} (i : Nat) {o : Oper} (ho : ops[i]? = some o) (hr : Region.ready md ops listed = [i]) (hw : Region.wanted o (yielded ops a.tmps) = true)
    (h : o.wp P a w (fun a' w' => S w' ∧ wpAnyH P md ops Q S fuel (listed.setIfInBounds i true) a' w') Q) : wpAnyH P md ops Q S (fuel + 1) listed a w := by
  refine wpAnyH_all hr (by simp) (fun j hj => ?_)
  obtain rfl : j = i := by simpa using hj
  unfold wpOp
  simp only [ho, hw, if_true]
  exact .inl h
theorem region_plain {P : Program} {ops : Array Oper} {Q : Exit → Go.Act → World → Prop} (S : World → Prop) {id : Nat} {a : Go.Act} {w : World} (hm : P.follows .mixedOrders = true)
    (h : wpAnyH P .any ops Q S ops.size (Array.replicate ops.size false) a w.drew) : (Code.region id ops true).wp P Q a w :=
  wp_region_any hm (wpAny_of_held _ _ _ _ h)
/-- The reference's heap lies at q: its list, and its next id. -/
structure RefL (w : World) (q : Nat) (v : Value) (es : List Ac.En) (l : List Ent) (next : Int) : Prop where
  top : Bk w q #[v, .int .i64 next] 35
  cps : Cps w (q + 1) v es l
theorem RefL.below {w w' : World} {q C : Nat} {v : Value} {es : List Ac.En} {l : List Ent} {next : Int} (h : RefL w q v es l next) (hb : Below C w w') (hC : w.heap.size ≤ C) : RefL w' q v es l next :=
  ⟨h.top.below hb (Nat.lt_of_lt_of_le h.top.lt hC), h.cps.below hb hC⟩
theorem shut_mem {l : List Ent} (h : shutB l = true) {e : Ent} (he : e ∈ l) {v : Val} (hv : v ∈ e.2.items) (h5 : v.k = 5) : v.n ∈ ids l := by
  unfold shutB okItems at h
  have h1 := List.all_eq_true.1 (List.all_eq_true.1 h e he) v hv
  simpa [h5] using h1
theorem RefL.ids {w : World} {q : Nat} {v : Value} {es : List Ac.En} {l : List Ent} {next : Int} (h : RefL w q v es l next) : ∃ A c, v = .slice A l.length c ∧ IdRow w (fun g => q + 1 ≤ g ∧ g < w.heap.size) A (ids l) := by
  obtain ⟨A, c, hv, hE⟩ := h.cps.slot
  refine ⟨A, c, hv, fun j i hj => ?_⟩
  unfold Hp.ids at hj
  rw [List.getElem?_map, Option.map_eq_some_iff] at hj
  obtain ⟨x, hx, rfl⟩ := hj
  have hj' : j < es.length := by rw [hE.len]; exact (List.getElem?_eq_some_iff.1 hx).1
  have he := List.getElem?_eq_getElem hj'
  obtain ⟨g, h1, h2, h3⟩ := hE.row j _ he
  refine ⟨g, h1, h2, ?_⟩
  have := h3 0 _ rfl
  rw [(hE.ent j _ _ he hx).id] at this
  exact this
theorem ref_place {w : World} {q : Nat} {v : Value} {es : List Ac.En} {l : List Ent} {next : Int} (h : RefL w q v es l next) (hl : l.length ≤ 8000) (hs : (ids l).Pairwise (· < ·)) (i : Int) :
    Calls Tryz.prog 63 #[.pointer (some ⟨q, 0, none⟩), .int .i64 i] w fun e w' => e = .returned (.int .i64 (plc (ids l) i)) ∧ w = w' := by
  obtain ⟨A, c, rfl, hI⟩ := h.ids
  exact place_any _ q A (ids l) l.length c next i w (ids_len l) h.top hI hl hs
set_option maxRecDepth 100000 in
set_option maxHeartbeats 4000000 in
theorem refLoad_any (P : Nat → Prop) (A : Option Addr) (es : List Ac.En) (l : List Ent) (next : Int) (n c : Nat) (w : World) (h : EntsAt w P A es l) (hn : l.length = n) (hP : ∀ g, P g → g < w.heap.size) (hl : l.length ≤ 8000) (hs : (ids l).Pairwise (· < ·)) (h0 : ∀ e ∈ l, 0 ≤ e.1 ∧ e.1 < next) (hx : 0 ≤ next ∧ next ≤ 4398046511104)
    (hr : ∀ e ∈ l, Cok e.2) (hcl : shutB l = true) (hnil : ∀ e ∈ es, (e.nA = none → e.nn = 0 ∧ e.nc = 0) ∧ (e.iA = none → e.m = 0 ∧ e.ic = 0)) :
    Calls Tryz.prog 19 #[.slice A n c, .int .i64 next] w fun e w' => ∃ q v es', e = .returned (.tuple #[.pointer (some ⟨q, 0, none⟩), .int .i64 0]) ∧ Hid (RefL w' q v es' l next ∧ w.heap.size ≤ q ∧ Below w.heap.size w w') := by
  subst hn
  obtain ⟨hx0, hx1⟩ := hx
  obtain ⟨i0, hi0, hz0, hz1, hz2⟩ := info_parts Ac.infoE
  have HE := Lib.hid h
  have HP := Lib.hid hP
  have HS := Lib.hid hs
  have H0 := Lib.hid h0
  have HR := Lib.hid hr
  have HC := Lib.hid hcl
  have HN := Lib.hid hnil
  clear h hP hs h0 hr hcl hnil
  have hl8 : ¬ (8000 : Int) < l.length := by omega
  have hnx : ¬ next < 0 := by omega
  have hmx : Tryz.prog.follows .mixedOrders = true := by kernel_rfl
  have R0 := Lib.hid (show RefL (w.alloc (.cells #[.slice none 0 0, .int .i64 next] 35)) w.heap.size (.slice none 0 0) [] [] next from ⟨Bk.new _ _ _, Cps.start _ _⟩)
  have B0 := Lib.hid ((Below.refl w.heap.size w).alloc (Nat.le_refl _) (.cells #[.slice none 0 0, .int .i64 next] 35))
  go_enter Tryz.func19, Tryz.ntmps19
  go_wp2_with fail
  generalize w.alloc (.cells #[.slice none 0 0, .int .i64 next] 35) = w1 at *
  go_loopw [7] (fun i wr => ∃ (k : Nat) (v : Value) (fs : List Ac.En), k ≤ l.length ∧ i = .int .i64 k ∧ Hid (RefL wr w.heap.size v fs (l.take k) next) ∧ Hid (Below w.heap.size w wr)) (fun i _ => l.length - (intOf i).toNat)
  case atStart => exact ⟨0, _, _, by omega, rfl, R0, B0⟩
  case round =>
    clear R0 B0
    obtain ⟨k, v, fs, hk, rfl, hR, hB⟩ := hrel
    by_cases hlt : k < l.length
    · have hxl := List.getElem?_eq_getElem hlt
      have hel : k < es.length := by rw [HE.out.len]; exact hlt
      have hey := List.getElem?_eq_getElem hel
      have MX := Lib.hid (List.getElem_mem hlt)
      have ME := Lib.hid (List.getElem_mem hel)
      have HEr := HE.out.keep (w' := wr) (Q := P) fun g hg => ⟨hg, hB.out.block g (HP.out g hg)⟩
      obtain ⟨g, rfl, hPg, hcells⟩ := HEr.row k _ hey
      have PREV := Lib.hid (fun (k1 : Nat) (hk1 : k = k1 + 1) => show ∃ y : Int, wr.cell? ⟨g, k1 * 7, none⟩ = some (.int .i64 y) ∧ y < (l[k]'hlt).1 from by
        have h1 : k1 < es.length := by omega
        have h2 : k1 < l.length := by omega
        obtain ⟨g', e', _, hc'⟩ := HEr.row k1 _ (List.getElem?_eq_getElem h1)
        simp only [Option.some.injEq, Addr.mk.injEq, and_true] at e'
        subst e'
        refine ⟨(es[k1]'h1).id, hc' 0 _ rfl, ?_⟩
        rw [(HE.out.ent k1 _ _ (List.getElem?_eq_getElem h1) (List.getElem?_eq_getElem h2)).id]
        have h3 := List.pairwise_iff_getElem.1 HS.out k1 k (by simp [ids]; omega) (by simp [ids]; omega) (by omega)
        simpa [ids] using h3)
      have hent := HEr.ent k _ _ hey hxl
      have TK := Lib.hid (List.take_succ_eq_append_getElem hlt)
      generalize l[k] = x at *
      generalize es[k] = e at *
      obtain ⟨eid, ek, ec, ef, et, nA, nn, nc, iA, mm, ic⟩ := e
      obtain ⟨j, cel⟩ := x
      obtain ⟨a1, a2, a3, a4, a5, a6, a7, a8, a9⟩ := hent
      simp only at a1 a2 a3 a4 a5 a6 a7 a8 a9 PREV
      subst a1; subst a2; subst a3; subst a4; subst a5
      have x0 : wr.cell? ⟨g, k * 7, none⟩ = some (.int .i64 eid) := hcells 0 _ rfl
      have x1 := hcells 1 _ rfl
      have x2 := hcells 2 _ rfl
      have x3 := hcells 3 _ rfl
      have x4 := hcells 4 _ rfl
      have x5 := hcells 5 _ rfl
      have x6 := hcells 6 _ rfl
      obtain ⟨j0, j1⟩ := H0.out _ MX.out
      simp only at j0 j1
      have ki : (k : Int) < l.length := by omega
      have szr := hB.out.size
      have hPw := HP.out
      have RC := Lib.hid (refRight_ok P cel nA iA nn nc mm ic wr.drew a6 a7 (a8.keep fun b hb => ⟨hb, rfl⟩) (a9.keep fun b hb => ⟨hb, rfl⟩) (fun b hb => by have := hPw b hb; show b < wr.heap.size; omega) (HR.out _ MX.out))
      unfold celV at RC
      clear hcells HEr hxl hey
      by_cases hk0 : 0 < k
      · obtain ⟨k1, hk1⟩ : ∃ k1, k = k1 + 1 := ⟨k - 1, by omega⟩
        obtain ⟨y, y0, hy⟩ := PREV.out k1 hk1
        have kk : (k : Int) - 1 = k1 := by omega
        have kp : (0 : Int) < k := by omega
        have k1l : (k1 : Int) < l.length := by omega
        have hyy : ¬ eid ≤ y := by omega
        have wk : IntKind.i64.wrap (k1 : Int) = k1 := IntWalk.i64_in _ (by omega)
        have k1p : (0 : Int) ≤ k1 := by omega
        clear hk1 PREV
        have d0 : decide (eid < 0) = false := decide_eq_false (by omega)
        have d1 : decide (next ≤ eid) = false := decide_eq_false (by omega)
        have d2 : decide ((0 : Int) < k) = true := decide_eq_true kp
        have d3 : decide (eid ≤ y) = false := decide_eq_false hyy
        go_wp2_with fail
        -- PREV BEGIN
        have S1 := Lib.hid (show (fun v : World => v.cell? ⟨g, k * 7, none⟩ = some (.int .i64 eid) ∧ v.cell? ⟨g, k * 7 + 1, none⟩ = some (.int .i64 cel.kind) ∧ v.cell? ⟨g, k * 7 + 2, none⟩ = some (.int .i64 cel.cls) ∧ v.cell? ⟨g, k * 7 + 3, none⟩ = some (.int .i64 cel.fn) ∧ v.cell? ⟨g, k * 7 + 4, none⟩ = some (.int .i64 cel.ten) ∧ v.cell? ⟨g, k * 7 + 5, none⟩ = some (.slice nA nn nc) ∧ v.cell? ⟨g, k * 7 + 6, none⟩ = some (.slice iA mm ic) ∧ v.cell? ⟨g, k1 * 7, none⟩ = some (.int .i64 y)) wr.drew from ⟨x0, x1, x2, x3, x4, x5, x6, y0⟩)
        refine region_plain (fun v : World => v.cell? ⟨g, k * 7, none⟩ = some (.int .i64 eid) ∧ v.cell? ⟨g, k * 7 + 1, none⟩ = some (.int .i64 cel.kind) ∧ v.cell? ⟨g, k * 7 + 2, none⟩ = some (.int .i64 cel.cls) ∧ v.cell? ⟨g, k * 7 + 3, none⟩ = some (.int .i64 cel.fn) ∧ v.cell? ⟨g, k * 7 + 4, none⟩ = some (.int .i64 cel.ten) ∧ v.cell? ⟨g, k * 7 + 5, none⟩ = some (.slice nA nn nc) ∧ v.cell? ⟨g, k * 7 + 6, none⟩ = some (.slice iA mm ic) ∧ v.cell? ⟨g, k1 * 7, none⟩ = some (.int .i64 y)) hmx ?_
        refine wpAnyH_take (i := 0) (v := ?_) rfl (by kernel_rfl) (by kernel_rfl) (by kernel_rfl) (fun _ _ _ h => h) (.inl ⟨by kernel_rfl, fun v hS => ?_⟩) S1.out ?_
        rotate_left
        · obtain ⟨e0, e1, e2, e3, e4, e5, e6, e7⟩ := hS
          go_simp
          with_reducible rfl
        refine wpAnyH_take (i := 1) (v := ?_) rfl (by kernel_rfl) (by kernel_rfl) (by kernel_rfl) (fun _ _ _ h => h) (.inl ⟨by kernel_rfl, fun v hS => ?_⟩) S1.out ?_
        rotate_left
        · obtain ⟨e0, e1, e2, e3, e4, e5, e6, e7⟩ := hS
          go_simp
          with_reducible rfl
        refine wpAnyH_take (i := 2) (v := ?_) rfl (by kernel_rfl) (by kernel_rfl) (by kernel_rfl) (fun _ _ _ h => h) (.inl ⟨by kernel_rfl, fun v hS => ?_⟩) S1.out ?_
        rotate_left
        · obtain ⟨e0, e1, e2, e3, e4, e5, e6, e7⟩ := hS
          go_simp
          with_reducible rfl
        refine wpAnyH_take (i := 3) (v := ?_) rfl (by kernel_rfl) (by kernel_rfl) (by kernel_rfl) (fun _ _ _ h => h) (.inl ⟨by kernel_rfl, fun v hS => ?_⟩) S1.out ?_
        rotate_left
        · obtain ⟨e0, e1, e2, e3, e4, e5, e6, e7⟩ := hS
          go_simp
          with_reducible rfl
        refine wpAnyH_take (i := 4) (v := ?_) rfl (by kernel_rfl) (by kernel_rfl) (by kernel_rfl) (fun _ _ _ h => h) (.inl ⟨by kernel_rfl, fun v hS => ?_⟩) S1.out ?_
        rotate_left
        · obtain ⟨e0, e1, e2, e3, e4, e5, e6, e7⟩ := hS
          go_simp
          with_reducible rfl
        refine wpAnyH_take (i := 5) (v := ?_) rfl (by kernel_rfl) (by kernel_rfl) (by kernel_rfl) (fun _ _ _ h => h) (.inl ⟨by kernel_rfl, fun v hS => ?_⟩) S1.out ?_
        rotate_left
        · obtain ⟨e0, e1, e2, e3, e4, e5, e6, e7⟩ := hS
          go_simp
          with_reducible rfl
        refine wpAnyH_take (i := 6) (v := ?_) rfl (by kernel_rfl) (by kernel_rfl) (by kernel_rfl) (fun _ _ _ h => h) (.inl ⟨by kernel_rfl, fun v hS => ?_⟩) S1.out ?_
        rotate_left
        · obtain ⟨e0, e1, e2, e3, e4, e5, e6, e7⟩ := hS
          go_simp
          with_reducible rfl
        refine wpAnyH_take (i := 7) (v := ?_) rfl (by kernel_rfl) (by kernel_rfl) (by kernel_rfl) (fun _ _ _ h => h) (.inl ⟨by kernel_rfl, fun v hS => ?_⟩) S1.out ?_
        rotate_left
        · obtain ⟨e0, e1, e2, e3, e4, e5, e6, e7⟩ := hS
          go_simp
          with_reducible rfl
        refine wpAnyH_take (i := 8) (v := ?_) rfl (by kernel_rfl) (by kernel_rfl) (by kernel_rfl) (fun _ _ _ h => h) (.inl ⟨by kernel_rfl, fun v hS => ?_⟩) S1.out ?_
        rotate_left
        · obtain ⟨e0, e1, e2, e3, e4, e5, e6, e7⟩ := hS
          go_simp
          with_reducible rfl
        refine wpAnyH_take (i := 9) (v := ?_) rfl (by kernel_rfl) (by kernel_rfl) (by kernel_rfl) (fun _ _ _ h => h) (.inl ⟨by kernel_rfl, fun v hS => ?_⟩) S1.out ?_
        rotate_left
        · obtain ⟨e0, e1, e2, e3, e4, e5, e6, e7⟩ := hS
          go_simp
          with_reducible rfl
        refine wpAnyH_take (i := 10) (v := ?_) rfl (by kernel_rfl) (by kernel_rfl) (by kernel_rfl) (fun _ _ _ h => h) (.inl ⟨by kernel_rfl, fun v hS => ?_⟩) S1.out ?_
        rotate_left
        · obtain ⟨e0, e1, e2, e3, e4, e5, e6, e7⟩ := hS
          go_simp
          with_reducible rfl
        refine wpAnyH_take (i := 11) (v := ?_) rfl (by kernel_rfl) (by kernel_rfl) (by kernel_rfl) (fun _ _ _ h => h) (.inl ⟨by kernel_rfl, fun v hS => ?_⟩) S1.out ?_
        rotate_left
        · obtain ⟨e0, e1, e2, e3, e4, e5, e6, e7⟩ := hS
          go_simp
          with_reducible rfl
        refine wpAnyH_take (i := 12) (v := ?_) rfl (by kernel_rfl) (by kernel_rfl) (by kernel_rfl) (fun _ _ _ h => h) (.inl ⟨by kernel_rfl, fun v hS => ?_⟩) S1.out ?_
        rotate_left
        · obtain ⟨e0, e1, e2, e3, e4, e5, e6, e7⟩ := hS
          go_simp
          with_reducible rfl
        refine wpAnyH_take (i := 13) (v := ?_) rfl (by kernel_rfl) (by kernel_rfl) (by kernel_rfl) (fun _ _ _ h => h) (.inl ⟨by kernel_rfl, fun v hS => ?_⟩) S1.out ?_
        rotate_left
        · obtain ⟨e0, e1, e2, e3, e4, e5, e6, e7⟩ := hS
          go_simp
          with_reducible rfl
        refine wpAnyH_take (i := 14) (v := ?_) rfl (by kernel_rfl) (by kernel_rfl) (by kernel_rfl) (fun _ _ _ h => h) (.inl ⟨by kernel_rfl, fun v hS => ?_⟩) S1.out ?_
        rotate_left
        · obtain ⟨e0, e1, e2, e3, e4, e5, e6, e7⟩ := hS
          go_simp
          with_reducible rfl
        refine wpAnyH_take (i := 15) (v := ?_) rfl (by kernel_rfl) (by kernel_rfl) (by kernel_rfl) (fun _ _ _ h => h) (.inl ⟨by kernel_rfl, fun v hS => ?_⟩) S1.out ?_
        rotate_left
        · obtain ⟨e0, e1, e2, e3, e4, e5, e6, e7⟩ := hS
          go_simp
          with_reducible rfl
        refine wpAnyH_take (i := 16) (v := ?_) rfl (by kernel_rfl) (by kernel_rfl) (by kernel_rfl) (fun _ _ _ h => h) (.inl ⟨by kernel_rfl, fun v hS => ?_⟩) S1.out ?_
        rotate_left
        · obtain ⟨e0, e1, e2, e3, e4, e5, e6, e7⟩ := hS
          go_simp
          with_reducible rfl
        refine wpAnyH_take (i := 17) (v := ?_) rfl (by kernel_rfl) (by kernel_rfl) (by kernel_rfl) (fun _ _ _ h => h) (.inl ⟨by kernel_rfl, fun v hS => ?_⟩) S1.out ?_
        rotate_left
        · obtain ⟨e0, e1, e2, e3, e4, e5, e6, e7⟩ := hS
          go_simp
          with_reducible rfl
        refine wpAnyH_take (i := 18) (v := ?_) rfl (by kernel_rfl) (by kernel_rfl) (by kernel_rfl) (fun _ _ _ h => h) (.inl ⟨by kernel_rfl, fun v hS => ?_⟩) S1.out ?_
        rotate_left
        · obtain ⟨e0, e1, e2, e3, e4, e5, e6, e7⟩ := hS
          go_simp
          with_reducible rfl
        refine wpAnyH_take (i := 19) (v := ?_) rfl (by kernel_rfl) (by kernel_rfl) (by kernel_rfl) (fun _ _ _ h => h) (.inl ⟨by kernel_rfl, fun v hS => ?_⟩) S1.out ?_
        rotate_left
        · obtain ⟨e0, e1, e2, e3, e4, e5, e6, e7⟩ := hS
          go_simp
          with_reducible rfl
        refine wpAnyH_take (i := 20) (v := ?_) rfl (by kernel_rfl) (by kernel_rfl) (by kernel_rfl) (fun _ _ _ h => h) (.inl ⟨by kernel_rfl, fun v hS => ?_⟩) S1.out ?_
        rotate_left
        · obtain ⟨e0, e1, e2, e3, e4, e5, e6, e7⟩ := hS
          go_simp
          with_reducible rfl
        refine wpAnyH_take (i := 21) (v := ?_) rfl (by kernel_rfl) (by kernel_rfl) (by kernel_rfl) (fun _ _ _ h => h) (.inl ⟨by kernel_rfl, fun v hS => ?_⟩) S1.out ?_
        rotate_left
        · obtain ⟨e0, e1, e2, e3, e4, e5, e6, e7⟩ := hS
          go_simp
          with_reducible rfl
        refine wpAnyH_take (i := 22) (v := ?_) rfl (by kernel_rfl) (by kernel_rfl) (by kernel_rfl) (fun _ _ _ h => h) (.inl ⟨by kernel_rfl, fun v hS => ?_⟩) S1.out ?_
        rotate_left
        · obtain ⟨e0, e1, e2, e3, e4, e5, e6, e7⟩ := hS
          go_simp
          with_reducible rfl
        refine wpAnyH_take (i := 23) (v := ?_) rfl (by kernel_rfl) (by kernel_rfl) (by kernel_rfl) (fun _ _ _ h => h) (.inl ⟨by kernel_rfl, fun v hS => ?_⟩) S1.out ?_
        rotate_left
        · obtain ⟨e0, e1, e2, e3, e4, e5, e6, e7⟩ := hS
          go_simp
          with_reducible rfl
        refine wpAnyH_take (i := 24) (v := ?_) rfl (by kernel_rfl) (by kernel_rfl) (by kernel_rfl) (fun _ _ _ h => h) (.inl ⟨by kernel_rfl, fun v hS => ?_⟩) S1.out ?_
        rotate_left
        · obtain ⟨e0, e1, e2, e3, e4, e5, e6, e7⟩ := hS
          go_simp
          with_reducible rfl
        refine wpAnyH_take (i := 25) (v := ?_) rfl (by kernel_rfl) (by kernel_rfl) (by kernel_rfl) (fun _ _ _ h => h) (.inl ⟨by kernel_rfl, fun v hS => ?_⟩) S1.out ?_
        rotate_left
        · obtain ⟨e0, e1, e2, e3, e4, e5, e6, e7⟩ := hS
          go_simp
          with_reducible rfl
        refine wpAnyH_take (i := 26) (v := ?_) rfl (by kernel_rfl) (by kernel_rfl) (by kernel_rfl) (fun _ _ _ h => h) (.inl ⟨by kernel_rfl, fun v hS => ?_⟩) S1.out ?_
        rotate_left
        · obtain ⟨e0, e1, e2, e3, e4, e5, e6, e7⟩ := hS
          go_simp
          with_reducible rfl
        refine wpAnyH_take (i := 27) (v := ?_) rfl (by kernel_rfl) (by kernel_rfl) (by kernel_rfl) (fun _ _ _ h => h) (.inl ⟨by kernel_rfl, fun v hS => ?_⟩) S1.out ?_
        rotate_left
        · obtain ⟨e0, e1, e2, e3, e4, e5, e6, e7⟩ := hS
          go_simp
          with_reducible rfl
        refine wpAnyH_take (i := 28) (v := ?_) rfl (by kernel_rfl) (by kernel_rfl) (by kernel_rfl) (fun _ _ _ h => h) (.inl ⟨by kernel_rfl, fun v hS => ?_⟩) S1.out ?_
        rotate_left
        · obtain ⟨e0, e1, e2, e3, e4, e5, e6, e7⟩ := hS
          go_simp
          with_reducible rfl
        refine wpAnyH_take (i := 29) (v := ?_) rfl (by kernel_rfl) (by kernel_rfl) (by kernel_rfl) (fun _ _ _ h => h) (.inl ⟨by kernel_rfl, fun v hS => ?_⟩) S1.out ?_
        rotate_left
        · obtain ⟨e0, e1, e2, e3, e4, e5, e6, e7⟩ := hS
          go_simp
          with_reducible rfl
        refine wpAnyH_take (i := 30) (v := ?_) rfl (by kernel_rfl) (by kernel_rfl) (by kernel_rfl) (fun _ _ _ h => h) (.inl ⟨by kernel_rfl, fun v hS => ?_⟩) S1.out ?_
        rotate_left
        · obtain ⟨e0, e1, e2, e3, e4, e5, e6, e7⟩ := hS
          go_simp
          with_reducible rfl
        refine wpAnyH_take (i := 31) (v := ?_) rfl (by kernel_rfl) (by kernel_rfl) (by kernel_rfl) (fun _ _ _ h => h) (.inl ⟨by kernel_rfl, fun v hS => ?_⟩) S1.out ?_
        rotate_left
        · obtain ⟨e0, e1, e2, e3, e4, e5, e6, e7⟩ := hS
          go_simp
          with_reducible rfl
        refine wpAnyH_take (i := 32) (v := ?_) rfl (by kernel_rfl) (by kernel_rfl) (by kernel_rfl) (fun _ _ _ h => h) (.inl ⟨by kernel_rfl, fun v hS => ?_⟩) S1.out ?_
        rotate_left
        · obtain ⟨e0, e1, e2, e3, e4, e5, e6, e7⟩ := hS
          go_simp
          with_reducible rfl
        refine wpAnyH_take (i := 33) (v := ?_) rfl (by kernel_rfl) (by kernel_rfl) (by kernel_rfl) (fun _ _ _ h => h) (.inl ⟨by kernel_rfl, fun v hS => ?_⟩) S1.out ?_
        rotate_left
        · obtain ⟨e0, e1, e2, e3, e4, e5, e6, e7⟩ := hS
          go_simp
          with_reducible rfl
        refine wpAnyH_take (i := 34) (v := ?_) rfl (by kernel_rfl) (by kernel_rfl) (by kernel_rfl) (fun _ _ _ h => h) (.inl ⟨by kernel_rfl, fun v hS => ?_⟩) S1.out ?_
        rotate_left
        · obtain ⟨e0, e1, e2, e3, e4, e5, e6, e7⟩ := hS
          go_simp
          with_reducible rfl
        refine wpAnyH_take (i := 35) (v := ?_) rfl (by kernel_rfl) (by kernel_rfl) (by kernel_rfl) (fun _ _ _ h => h) (.inl ⟨by kernel_rfl, fun v hS => ?_⟩) S1.out ?_
        rotate_left
        · obtain ⟨e0, e1, e2, e3, e4, e5, e6, e7⟩ := hS
          go_simp
          with_reducible rfl
        refine wpAnyH_take (i := 36) (v := ?_) rfl (by kernel_rfl) (by kernel_rfl) (by kernel_rfl) (fun _ _ _ h => h) (.inl ⟨by kernel_rfl, fun v hS => ?_⟩) S1.out ?_
        rotate_left
        · obtain ⟨e0, e1, e2, e3, e4, e5, e6, e7⟩ := hS
          go_simp
          with_reducible rfl
        refine wpAnyH_take (i := 37) (v := ?_) rfl (by kernel_rfl) (by kernel_rfl) (by kernel_rfl) (fun _ _ _ h => h) (.inl ⟨by kernel_rfl, fun v hS => ?_⟩) S1.out ?_
        rotate_left
        · obtain ⟨e0, e1, e2, e3, e4, e5, e6, e7⟩ := hS
          go_simp
          with_reducible rfl
        refine wpAnyH_take (i := 38) (v := ?_) rfl (by kernel_rfl) (by kernel_rfl) (by kernel_rfl) (fun _ _ _ h => h) (.inl ⟨by kernel_rfl, fun v hS => ?_⟩) S1.out ?_
        rotate_left
        · obtain ⟨e0, e1, e2, e3, e4, e5, e6, e7⟩ := hS
          go_simp
          with_reducible rfl
        refine one_ready 39 rfl (by kernel_rfl) (by kernel_rfl) ?_
        go_simp
        refine RC.out.mono ?_
        rintro e w2 ⟨rfl, hb2⟩
        have gl : g < wr.heap.size := by have := hPw g hPg; omega
        have S2 := Lib.hid (show (fun v : World => v.cell? ⟨g, k * 7, none⟩ = some (.int .i64 eid) ∧ v.cell? ⟨g, k * 7 + 1, none⟩ = some (.int .i64 cel.kind) ∧ v.cell? ⟨g, k * 7 + 2, none⟩ = some (.int .i64 cel.cls) ∧ v.cell? ⟨g, k * 7 + 3, none⟩ = some (.int .i64 cel.fn) ∧ v.cell? ⟨g, k * 7 + 4, none⟩ = some (.int .i64 cel.ten) ∧ v.cell? ⟨g, k * 7 + 5, none⟩ = some (.slice nA nn nc) ∧ v.cell? ⟨g, k * 7 + 6, none⟩ = some (.slice iA mm ic) ∧ v.cell? ⟨g, k1 * 7, none⟩ = some (.int .i64 y)) w2 from ⟨(hb2.cell (p := ⟨g, k * 7, none⟩) gl).trans x0, (hb2.cell (p := ⟨g, k * 7 + 1, none⟩) gl).trans x1, (hb2.cell (p := ⟨g, k * 7 + 2, none⟩) gl).trans x2, (hb2.cell (p := ⟨g, k * 7 + 3, none⟩) gl).trans x3, (hb2.cell (p := ⟨g, k * 7 + 4, none⟩) gl).trans x4, (hb2.cell (p := ⟨g, k * 7 + 5, none⟩) gl).trans x5, (hb2.cell (p := ⟨g, k * 7 + 6, none⟩) gl).trans x6, (hb2.cell (p := ⟨g, k1 * 7, none⟩) gl).trans y0⟩)
        have HB2 := Lib.hid hb2
        clear hb2
        refine ⟨S2.out, ?_⟩
        refine one_ready 40 rfl (by kernel_rfl) (by kernel_rfl) ?_
        go_simp
        refine ⟨S2.out, ?_⟩
        refine one_ready 41 rfl (by kernel_rfl) (by kernel_rfl) ?_
        go_simp
        refine ⟨S2.out, rfl, ?_⟩
        go_wp2_with fail
        have B2 := Lib.hid (hB.out.drew.trans (HB2.out.mono hB.out.size))
        have R2 := Lib.hid (hR.out.below (w' := w2) (C := wr.heap.size) ⟨HB2.out.os, HB2.out.tape, HB2.out.output, HB2.out.size, HB2.out.block⟩ (Nat.le_refl _))
        have z2 := B2.out.size
        have qs : w.heap.size < w2.heap.size := R2.out.top.lt
        have gw : g < w.heap.size := hPw g hPg
        have q0 := R2.out.top.cell 0 v rfl
        have nn64 : nn ≤ 64 := by have h : cel.names.length ≤ 64 := (HR.out _ MX.out).2.2.2.1; omega
        have mm64 : mm ≤ 64 := by have h : cel.items.length ≤ 64 := (HR.out _ MX.out).2.2.2.2; omega
        have CP := Lib.hid (refCopy_any P cel nA iA nn nc mm ic w2.drew a6 a7 (a8.keep fun b hb => ⟨hb, HB2.out.block b (by have := hPw b hb; show b < wr.heap.size; omega)⟩) (a9.keep fun b hb => ⟨hb, HB2.out.block b (by have := hPw b hb; show b < wr.heap.size; omega)⟩) (fun b hb => by have := hPw b hb; show b < w2.heap.size; omega) (by omega) (by omega) (HN.out _ ME.out).1 (HN.out _ ME.out).2)
        unfold celV at CP
        have S1 := Lib.hid (show (fun v' : World => v'.cell? ⟨w.heap.size, 0, none⟩ = some v ∧ v'.cell? ⟨g, k * 7, none⟩ = some (.int .i64 eid) ∧ v'.cell? ⟨g, k * 7 + 1, none⟩ = some (.int .i64 cel.kind) ∧ v'.cell? ⟨g, k * 7 + 2, none⟩ = some (.int .i64 cel.cls) ∧ v'.cell? ⟨g, k * 7 + 3, none⟩ = some (.int .i64 cel.fn) ∧ v'.cell? ⟨g, k * 7 + 4, none⟩ = some (.int .i64 cel.ten) ∧ v'.cell? ⟨g, k * 7 + 5, none⟩ = some (.slice nA nn nc) ∧ v'.cell? ⟨g, k * 7 + 6, none⟩ = some (.slice iA mm ic)) w2.drew from ⟨q0, S2.out.1, S2.out.2.1, S2.out.2.2.1, S2.out.2.2.2.1, S2.out.2.2.2.2.1, S2.out.2.2.2.2.2.1, S2.out.2.2.2.2.2.2.1⟩)
        refine region_plainX (fun v' : World => v'.cell? ⟨w.heap.size, 0, none⟩ = some v ∧ v'.cell? ⟨g, k * 7, none⟩ = some (.int .i64 eid) ∧ v'.cell? ⟨g, k * 7 + 1, none⟩ = some (.int .i64 cel.kind) ∧ v'.cell? ⟨g, k * 7 + 2, none⟩ = some (.int .i64 cel.cls) ∧ v'.cell? ⟨g, k * 7 + 3, none⟩ = some (.int .i64 cel.fn) ∧ v'.cell? ⟨g, k * 7 + 4, none⟩ = some (.int .i64 cel.ten) ∧ v'.cell? ⟨g, k * 7 + 5, none⟩ = some (.slice nA nn nc) ∧ v'.cell? ⟨g, k * 7 + 6, none⟩ = some (.slice iA mm ic)) [21] hmx ?_
        refine anyEx_take (i := 0) (u := ?_) rfl (by kernel_rfl) (by kernel_rfl) (by kernel_rfl) (by kernel_rfl) (by kernel_rfl) (fun _ _ _ h => h) (.inl ⟨by kernel_rfl, fun v' hS => ?_⟩) S1.out ?_
        rotate_left
        · obtain ⟨e0, e1, e2, e3, e4, e5, e6, e7⟩ := hS
          go_simp
          with_reducible rfl
        refine anyEx_take (i := 1) (u := ?_) rfl (by kernel_rfl) (by kernel_rfl) (by kernel_rfl) (by kernel_rfl) (by kernel_rfl) (fun _ _ _ h => h) (.inl ⟨by kernel_rfl, fun v' hS => ?_⟩) S1.out ?_
        rotate_left
        · obtain ⟨e0, e1, e2, e3, e4, e5, e6, e7⟩ := hS
          go_simp
          with_reducible rfl
        refine anyEx_take (i := 2) (u := ?_) rfl (by kernel_rfl) (by kernel_rfl) (by kernel_rfl) (by kernel_rfl) (by kernel_rfl) (fun _ _ _ h => h) (.inl ⟨by kernel_rfl, fun v' hS => ?_⟩) S1.out ?_
        rotate_left
        · obtain ⟨e0, e1, e2, e3, e4, e5, e6, e7⟩ := hS
          go_simp
          with_reducible rfl
        refine anyEx_take (i := 3) (u := ?_) rfl (by kernel_rfl) (by kernel_rfl) (by kernel_rfl) (by kernel_rfl) (by kernel_rfl) (fun _ _ _ h => h) (.inl ⟨by kernel_rfl, fun v' hS => ?_⟩) S1.out ?_
        rotate_left
        · obtain ⟨e0, e1, e2, e3, e4, e5, e6, e7⟩ := hS
          go_simp
          with_reducible rfl
        refine anyEx_take (i := 4) (u := ?_) rfl (by kernel_rfl) (by kernel_rfl) (by kernel_rfl) (by kernel_rfl) (by kernel_rfl) (fun _ _ _ h => h) (.inl ⟨by kernel_rfl, fun v' hS => ?_⟩) S1.out ?_
        rotate_left
        · obtain ⟨e0, e1, e2, e3, e4, e5, e6, e7⟩ := hS
          go_simp
          with_reducible rfl
        refine anyEx_take (i := 5) (u := ?_) rfl (by kernel_rfl) (by kernel_rfl) (by kernel_rfl) (by kernel_rfl) (by kernel_rfl) (fun _ _ _ h => h) (.inl ⟨by kernel_rfl, fun v' hS => ?_⟩) S1.out ?_
        rotate_left
        · obtain ⟨e0, e1, e2, e3, e4, e5, e6, e7⟩ := hS
          go_simp
          with_reducible rfl
        refine anyEx_take (i := 6) (u := ?_) rfl (by kernel_rfl) (by kernel_rfl) (by kernel_rfl) (by kernel_rfl) (by kernel_rfl) (fun _ _ _ h => h) (.inl ⟨by kernel_rfl, fun v' hS => ?_⟩) S1.out ?_
        rotate_left
        · obtain ⟨e0, e1, e2, e3, e4, e5, e6, e7⟩ := hS
          go_simp
          with_reducible rfl
        refine anyEx_take (i := 7) (u := ?_) rfl (by kernel_rfl) (by kernel_rfl) (by kernel_rfl) (by kernel_rfl) (by kernel_rfl) (fun _ _ _ h => h) (.inl ⟨by kernel_rfl, fun v' hS => ?_⟩) S1.out ?_
        rotate_left
        · obtain ⟨e0, e1, e2, e3, e4, e5, e6, e7⟩ := hS
          go_simp
          with_reducible rfl
        refine anyEx_take (i := 8) (u := ?_) rfl (by kernel_rfl) (by kernel_rfl) (by kernel_rfl) (by kernel_rfl) (by kernel_rfl) (fun _ _ _ h => h) (.inl ⟨by kernel_rfl, fun v' hS => ?_⟩) S1.out ?_
        rotate_left
        · obtain ⟨e0, e1, e2, e3, e4, e5, e6, e7⟩ := hS
          go_simp
          with_reducible rfl
        refine anyEx_take (i := 9) (u := ?_) rfl (by kernel_rfl) (by kernel_rfl) (by kernel_rfl) (by kernel_rfl) (by kernel_rfl) (fun _ _ _ h => h) (.inl ⟨by kernel_rfl, fun v' hS => ?_⟩) S1.out ?_
        rotate_left
        · obtain ⟨e0, e1, e2, e3, e4, e5, e6, e7⟩ := hS
          go_simp
          with_reducible rfl
        refine anyEx_take (i := 10) (u := ?_) rfl (by kernel_rfl) (by kernel_rfl) (by kernel_rfl) (by kernel_rfl) (by kernel_rfl) (fun _ _ _ h => h) (.inl ⟨by kernel_rfl, fun v' hS => ?_⟩) S1.out ?_
        rotate_left
        · obtain ⟨e0, e1, e2, e3, e4, e5, e6, e7⟩ := hS
          go_simp
          with_reducible rfl
        refine anyEx_take (i := 11) (u := ?_) rfl (by kernel_rfl) (by kernel_rfl) (by kernel_rfl) (by kernel_rfl) (by kernel_rfl) (fun _ _ _ h => h) (.inl ⟨by kernel_rfl, fun v' hS => ?_⟩) S1.out ?_
        rotate_left
        · obtain ⟨e0, e1, e2, e3, e4, e5, e6, e7⟩ := hS
          go_simp
          with_reducible rfl
        refine anyEx_take (i := 12) (u := ?_) rfl (by kernel_rfl) (by kernel_rfl) (by kernel_rfl) (by kernel_rfl) (by kernel_rfl) (fun _ _ _ h => h) (.inl ⟨by kernel_rfl, fun v' hS => ?_⟩) S1.out ?_
        rotate_left
        · obtain ⟨e0, e1, e2, e3, e4, e5, e6, e7⟩ := hS
          go_simp
          with_reducible rfl
        refine anyEx_take (i := 13) (u := ?_) rfl (by kernel_rfl) (by kernel_rfl) (by kernel_rfl) (by kernel_rfl) (by kernel_rfl) (fun _ _ _ h => h) (.inl ⟨by kernel_rfl, fun v' hS => ?_⟩) S1.out ?_
        rotate_left
        · obtain ⟨e0, e1, e2, e3, e4, e5, e6, e7⟩ := hS
          go_simp
          with_reducible rfl
        refine anyEx_take (i := 14) (u := ?_) rfl (by kernel_rfl) (by kernel_rfl) (by kernel_rfl) (by kernel_rfl) (by kernel_rfl) (fun _ _ _ h => h) (.inl ⟨by kernel_rfl, fun v' hS => ?_⟩) S1.out ?_
        rotate_left
        · obtain ⟨e0, e1, e2, e3, e4, e5, e6, e7⟩ := hS
          go_simp
          with_reducible rfl
        refine anyEx_one 15 rfl (by kernel_rfl) (by kernel_rfl) ?_
        go_simp
        refine CP.out.mono ?_
        rintro e w3 ⟨D, d, E, e', rfl, hh⟩
        obtain ⟨⟨hD, hE⟩, hb3⟩ := hh.out
        have ql : w.heap.size < w2.drew.heap.size := qs
        have gl2 : g < w2.drew.heap.size := Nat.lt_trans gw qs
        have S3 := Lib.hid (show (fun v' : World => v'.cell? ⟨w.heap.size, 0, none⟩ = some v ∧ v'.cell? ⟨g, k * 7, none⟩ = some (.int .i64 eid) ∧ v'.cell? ⟨g, k * 7 + 1, none⟩ = some (.int .i64 cel.kind) ∧ v'.cell? ⟨g, k * 7 + 2, none⟩ = some (.int .i64 cel.cls) ∧ v'.cell? ⟨g, k * 7 + 3, none⟩ = some (.int .i64 cel.fn) ∧ v'.cell? ⟨g, k * 7 + 4, none⟩ = some (.int .i64 cel.ten) ∧ v'.cell? ⟨g, k * 7 + 5, none⟩ = some (.slice nA nn nc) ∧ v'.cell? ⟨g, k * 7 + 6, none⟩ = some (.slice iA mm ic)) w3 from ⟨(hb3.cell (p := ⟨w.heap.size, 0, none⟩) ql).trans S1.out.1, (hb3.cell (p := ⟨g, k * 7, none⟩) gl2).trans S1.out.2.1, (hb3.cell (p := ⟨g, k * 7 + 1, none⟩) gl2).trans S1.out.2.2.1, (hb3.cell (p := ⟨g, k * 7 + 2, none⟩) gl2).trans S1.out.2.2.2.1, (hb3.cell (p := ⟨g, k * 7 + 3, none⟩) gl2).trans S1.out.2.2.2.2.1, (hb3.cell (p := ⟨g, k * 7 + 4, none⟩) gl2).trans S1.out.2.2.2.2.2.1, (hb3.cell (p := ⟨g, k * 7 + 5, none⟩) gl2).trans S1.out.2.2.2.2.2.2.1, (hb3.cell (p := ⟨g, k * 7 + 6, none⟩) gl2).trans S1.out.2.2.2.2.2.2.2⟩)
        have B3 := Lib.hid (B2.out.drew.trans (hb3.mono B2.out.size))
        have R3 := Lib.hid (R2.out.below (w' := w3) (C := w2.heap.size) ⟨hb3.os, hb3.tape, hb3.output, hb3.size, hb3.block⟩ (Nat.le_refl _))
        have EN := Lib.hid (show EntAt w3 (Near (w.heap.size + 1) v w3) ⟨eid, cel.kind, cel.cls, cel.fn, cel.ten, D, nn, d, E, mm, e'⟩ (eid, cel) from rows_ent hD hE a6 a7 _ (fun g' h1 h2 => ⟨by have : w2.heap.size ≤ g' := h1; omega, h2, fun e => by have h3 := (R2.out.cps.row.lt g' e).2; have : w2.heap.size ≤ g' := h1; omega⟩) (fun g' h1 h2 => ⟨by have : w2.heap.size ≤ g' := h1; omega, h2, fun e => by have h3 := (R2.out.cps.row.lt g' e).2; have : w2.heap.size ≤ g' := h1; omega⟩))
        have NL := Lib.hid (show (D = none → nn = 0 ∧ d = 0) ∧ (E = none → mm = 0 ∧ e' = 0) from ⟨own_nil hD, own_nil hE⟩)
        have z3 := hb3.size
        clear hD hE hb3 hh
        refine ⟨S3.out, ?_⟩
        refine anyEx_one 16 rfl (by kernel_rfl) (by kernel_rfl) ?_
        go_simp
        refine ⟨S3.out, ?_⟩
        refine anyEx_one 17 rfl (by kernel_rfl) (by kernel_rfl) ?_
        go_simp
        have BE := Lib.hid (Bk.new w3 (#[.int .i64 eid, .int .i64 cel.kind, .int .i64 cel.cls, .int .i64 cel.fn, .int .i64 cel.ten, .slice D nn d, .slice E mm e'] : Array Value) 49)
        have B4 := Lib.hid (B3.out.alloc B3.out.size (.cells #[.int .i64 eid, .int .i64 cel.kind, .int .i64 cel.cls, .int .i64 cel.fn, .int .i64 cel.ten, .slice D nn d, .slice E mm e'] 49))
        have R4 := Lib.hid (R3.out.below (C := w3.heap.size) ((Below.refl _ w3).alloc (Nat.le_refl _) (.cells #[.int .i64 eid, .int .i64 cel.kind, .int .i64 cel.cls, .int .i64 cel.fn, .int .i64 cel.ten, .slice D nn d, .slice E mm e'] 49)) (Nat.le_refl _))
        have EN4 := Lib.hid (EN.out.keep (w' := w3.alloc (.cells #[.int .i64 eid, .int .i64 cel.kind, .int .i64 cel.cls, .int .i64 cel.fn, .int .i64 cel.ten, .slice D nn d, .slice E mm e'] 49)) (Q := Near (w.heap.size + 1) v (w3.alloc (.cells #[.int .i64 eid, .int .i64 cel.kind, .int .i64 cel.cls, .int .i64 cel.fn, .int .i64 cel.ten, .slice D nn d, .slice E mm e'] 49))) fun b hb => ⟨⟨hb.1, by rw [World.size_alloc]; have := hb.2.1; omega, hb.2.2⟩, Below.heap_alloc _ _ _ hb.2.1⟩)
        have ql3 : w.heap.size < w3.heap.size := Nat.lt_of_lt_of_le qs z3
        have gl3 : g < w3.heap.size := Nat.lt_trans gw ql3
        have S4 := Lib.hid (show (fun v' : World => v'.cell? ⟨w.heap.size, 0, none⟩ = some v ∧ v'.cell? ⟨g, k * 7, none⟩ = some (.int .i64 eid) ∧ v'.cell? ⟨g, k * 7 + 1, none⟩ = some (.int .i64 cel.kind) ∧ v'.cell? ⟨g, k * 7 + 2, none⟩ = some (.int .i64 cel.cls) ∧ v'.cell? ⟨g, k * 7 + 3, none⟩ = some (.int .i64 cel.fn) ∧ v'.cell? ⟨g, k * 7 + 4, none⟩ = some (.int .i64 cel.ten) ∧ v'.cell? ⟨g, k * 7 + 5, none⟩ = some (.slice nA nn nc) ∧ v'.cell? ⟨g, k * 7 + 6, none⟩ = some (.slice iA mm ic)) (w3.alloc (.cells #[.int .i64 eid, .int .i64 cel.kind, .int .i64 cel.cls, .int .i64 cel.fn, .int .i64 cel.ten, .slice D nn d, .slice E mm e'] 49)) from by
          have hb := (Below.refl w3.heap.size w3).alloc (Nat.le_refl _) (.cells #[.int .i64 eid, .int .i64 cel.kind, .int .i64 cel.cls, .int .i64 cel.fn, .int .i64 cel.ten, .slice D nn d, .slice E mm e'] 49)
          exact ⟨(hb.cell (p := ⟨w.heap.size, 0, none⟩) ql3).trans S3.out.1, (hb.cell (p := ⟨g, k * 7, none⟩) gl3).trans S3.out.2.1, (hb.cell (p := ⟨g, k * 7 + 1, none⟩) gl3).trans S3.out.2.2.1, (hb.cell (p := ⟨g, k * 7 + 2, none⟩) gl3).trans S3.out.2.2.2.1, (hb.cell (p := ⟨g, k * 7 + 3, none⟩) gl3).trans S3.out.2.2.2.2.1, (hb.cell (p := ⟨g, k * 7 + 4, none⟩) gl3).trans S3.out.2.2.2.2.2.1, (hb.cell (p := ⟨g, k * 7 + 5, none⟩) gl3).trans S3.out.2.2.2.2.2.2.1, (hb.cell (p := ⟨g, k * 7 + 6, none⟩) gl3).trans S3.out.2.2.2.2.2.2.2⟩)
        refine ⟨S4.out, ?_⟩
        generalize w3.alloc (.cells #[.int .i64 eid, .int .i64 cel.kind, .int .i64 cel.cls, .int .i64 cel.fn, .int .i64 cel.ten, .slice D nn d, .slice E mm e'] 49) = w4 at *
        refine anyEx_one 18 rfl (by kernel_rfl) (by kernel_rfl) ?_
        refine wp_append_ent _ _ rfl (w.heap.size + 1) v fs (⟨eid, cel.kind, cel.cls, cel.fn, cel.ten, D, nn, d, E, mm, e'⟩ : Ac.En) rfl R4.out.cps.row w3.heap.size 1 rfl BE.out (by rw [R4.out.cps.len, List.length_take]; omega) R4.out.top.lt ?_
        intro v5 w5 ho hg hv
        obtain ⟨A5, c5, rfl⟩ := own_slice ho
        generalize hn5 : (fs ++ [(⟨eid, cel.kind, cel.cls, cel.fn, cel.ten, D, nn, d, E, mm, e'⟩ : Ac.En)]).length = n5 at *
        clear hn5
        have rb : ∀ b, v.ownBlock = some b → w.heap.size + 1 ≤ b := fun b hb => (R4.out.cps.row.lt b hb).1
        have C5 := Lib.hid (R4.out.cps.add EN4.out NL.out ho hg hv)
        have T5 := Lib.hid (show Bk w5 w.heap.size #[v, .int .i64 next] 35 from (hg.block _ R4.out.top.lt (fun e => by have := rb _ e.symm; omega)).trans R4.out.top)
        have gl4 : g < w4.heap.size := Nat.lt_trans gw R4.out.top.lt
        have kg : w5.heap[g]? = w4.heap[g]? := hg.block _ gl4 (fun e => by have := rb _ e.symm; omega)
        have S5 := Lib.hid (show (fun v' : World => v'.cell? ⟨w.heap.size, 0, none⟩ = some v ∧ v'.cell? ⟨g, k * 7, none⟩ = some (.int .i64 eid) ∧ v'.cell? ⟨g, k * 7 + 1, none⟩ = some (.int .i64 cel.kind) ∧ v'.cell? ⟨g, k * 7 + 2, none⟩ = some (.int .i64 cel.cls) ∧ v'.cell? ⟨g, k * 7 + 3, none⟩ = some (.int .i64 cel.fn) ∧ v'.cell? ⟨g, k * 7 + 4, none⟩ = some (.int .i64 cel.ten) ∧ v'.cell? ⟨g, k * 7 + 5, none⟩ = some (.slice nA nn nc) ∧ v'.cell? ⟨g, k * 7 + 6, none⟩ = some (.slice iA mm ic)) w5 from ⟨T5.out.cell 0 _ rfl, (World.cell?_of_block (a := ⟨g, k * 7, none⟩) kg).trans S4.out.2.1, (World.cell?_of_block (a := ⟨g, k * 7 + 1, none⟩) kg).trans S4.out.2.2.1, (World.cell?_of_block (a := ⟨g, k * 7 + 2, none⟩) kg).trans S4.out.2.2.2.1, (World.cell?_of_block (a := ⟨g, k * 7 + 3, none⟩) kg).trans S4.out.2.2.2.2.1, (World.cell?_of_block (a := ⟨g, k * 7 + 4, none⟩) kg).trans S4.out.2.2.2.2.2.1, (World.cell?_of_block (a := ⟨g, k * 7 + 5, none⟩) kg).trans S4.out.2.2.2.2.2.2.1, (World.cell?_of_block (a := ⟨g, k * 7 + 6, none⟩) kg).trans S4.out.2.2.2.2.2.2.2⟩)
        have B5 := Lib.hid (B4.out.grown hg B4.out.size (fun b hb => by have := rb b hb; omega))
        have TK2 := Lib.hid (TK.out)
        have RF := Lib.hid (show RefL (w5.setCell ⟨w.heap.size, 0, none⟩ (.slice A5 n5 c5)) w.heap.size (.slice A5 n5 c5) (fs ++ [(⟨eid, cel.kind, cel.cls, cel.fn, cel.ten, D, nn, d, E, mm, e'⟩ : Ac.En)]) (l.take (k + 1)) next from ⟨T5.out.set 0 (.slice A5 n5 c5), by rw [TK.out]; exact C5.out.store (Nat.lt_succ_self _) 0 (.slice A5 n5 c5)⟩)
        have BF := Lib.hid (B5.out.setCell (p := ⟨w.heap.size, 0, none⟩) (Nat.le_refl _) (.slice A5 n5 c5))
        clear ho hg hv kg rb
        refine ⟨.inr S5.out, ?_⟩
        refine anyEx_one 19 rfl (by kernel_rfl) (by kernel_rfl) ?_
        go_simp
        refine ⟨S5.out, ?_⟩
        refine anyEx_one 20 rfl (by kernel_rfl) (by kernel_rfl) ?_
        go_simp
        refine ⟨S5.out, ?_⟩
        have f0 := T5.out.frozen 0
        have c0 := T5.out.cell 0 v rfl
        refine anyEx_one 21 rfl (by kernel_rfl) (by kernel_rfl) ?_
        go_simp
        refine ⟨rfl, ?_⟩
        go_wp2_with fail
        go_roundw
        case rel => exact ⟨k + 1, _, _, by omega, by go_num, RF, BF⟩
        case measure => simp [intOf]; omega
        -- PREV END
      · have d0 : decide (eid < 0) = false := decide_eq_false (by omega)
        have d1 : decide (next ≤ eid) = false := decide_eq_false (by omega)
        have d2 : decide ((0 : Int) < k) = false := decide_eq_false (by omega)
        have hk0' : ¬ (0 : Int) < k := by omega
        clear PREV
        go_wp2_with fail
        -- FIRST BEGIN
        have S1 := Lib.hid (show (fun v : World => v.cell? ⟨g, k * 7, none⟩ = some (.int .i64 eid) ∧ v.cell? ⟨g, k * 7 + 1, none⟩ = some (.int .i64 cel.kind) ∧ v.cell? ⟨g, k * 7 + 2, none⟩ = some (.int .i64 cel.cls) ∧ v.cell? ⟨g, k * 7 + 3, none⟩ = some (.int .i64 cel.fn) ∧ v.cell? ⟨g, k * 7 + 4, none⟩ = some (.int .i64 cel.ten) ∧ v.cell? ⟨g, k * 7 + 5, none⟩ = some (.slice nA nn nc) ∧ v.cell? ⟨g, k * 7 + 6, none⟩ = some (.slice iA mm ic)) wr.drew from ⟨x0, x1, x2, x3, x4, x5, x6⟩)
        refine region_plain (fun v : World => v.cell? ⟨g, k * 7, none⟩ = some (.int .i64 eid) ∧ v.cell? ⟨g, k * 7 + 1, none⟩ = some (.int .i64 cel.kind) ∧ v.cell? ⟨g, k * 7 + 2, none⟩ = some (.int .i64 cel.cls) ∧ v.cell? ⟨g, k * 7 + 3, none⟩ = some (.int .i64 cel.fn) ∧ v.cell? ⟨g, k * 7 + 4, none⟩ = some (.int .i64 cel.ten) ∧ v.cell? ⟨g, k * 7 + 5, none⟩ = some (.slice nA nn nc) ∧ v.cell? ⟨g, k * 7 + 6, none⟩ = some (.slice iA mm ic)) hmx ?_
        refine wpAnyH_take (i := 0) (v := ?_) rfl (by kernel_rfl) (by kernel_rfl) (by kernel_rfl) (fun _ _ _ h => h) (.inl ⟨by kernel_rfl, fun v hS => ?_⟩) S1.out ?_
        rotate_left
        · obtain ⟨e0, e1, e2, e3, e4, e5, e6⟩ := hS
          go_simp
          with_reducible rfl
        refine wpAnyH_take (i := 1) (v := ?_) rfl (by kernel_rfl) (by kernel_rfl) (by kernel_rfl) (fun _ _ _ h => h) (.inl ⟨by kernel_rfl, fun v hS => ?_⟩) S1.out ?_
        rotate_left
        · obtain ⟨e0, e1, e2, e3, e4, e5, e6⟩ := hS
          go_simp
          with_reducible rfl
        refine wpAnyH_take (i := 2) (v := ?_) rfl (by kernel_rfl) (by kernel_rfl) (by kernel_rfl) (fun _ _ _ h => h) (.inl ⟨by kernel_rfl, fun v hS => ?_⟩) S1.out ?_
        rotate_left
        · obtain ⟨e0, e1, e2, e3, e4, e5, e6⟩ := hS
          go_simp
          with_reducible rfl
        refine wpAnyH_take (i := 3) (v := ?_) rfl (by kernel_rfl) (by kernel_rfl) (by kernel_rfl) (fun _ _ _ h => h) (.inl ⟨by kernel_rfl, fun v hS => ?_⟩) S1.out ?_
        rotate_left
        · obtain ⟨e0, e1, e2, e3, e4, e5, e6⟩ := hS
          go_simp
          with_reducible rfl
        refine wpAnyH_take (i := 4) (v := ?_) rfl (by kernel_rfl) (by kernel_rfl) (by kernel_rfl) (fun _ _ _ h => h) (.inl ⟨by kernel_rfl, fun v hS => ?_⟩) S1.out ?_
        rotate_left
        · obtain ⟨e0, e1, e2, e3, e4, e5, e6⟩ := hS
          go_simp
          with_reducible rfl
        refine wpAnyH_take (i := 5) (v := ?_) rfl (by kernel_rfl) (by kernel_rfl) (by kernel_rfl) (fun _ _ _ h => h) (.inl ⟨by kernel_rfl, fun v hS => ?_⟩) S1.out ?_
        rotate_left
        · obtain ⟨e0, e1, e2, e3, e4, e5, e6⟩ := hS
          go_simp
          with_reducible rfl
        refine wpAnyH_take (i := 6) (v := ?_) rfl (by kernel_rfl) (by kernel_rfl) (by kernel_rfl) (fun _ _ _ h => h) (.inl ⟨by kernel_rfl, fun v hS => ?_⟩) S1.out ?_
        rotate_left
        · obtain ⟨e0, e1, e2, e3, e4, e5, e6⟩ := hS
          go_simp
          with_reducible rfl
        refine wpAnyH_take (i := 7) (v := ?_) rfl (by kernel_rfl) (by kernel_rfl) (by kernel_rfl) (fun _ _ _ h => h) (.inl ⟨by kernel_rfl, fun v hS => ?_⟩) S1.out ?_
        rotate_left
        · obtain ⟨e0, e1, e2, e3, e4, e5, e6⟩ := hS
          go_simp
          with_reducible rfl
        refine wpAnyH_take (i := 8) (v := ?_) rfl (by kernel_rfl) (by kernel_rfl) (by kernel_rfl) (fun _ _ _ h => h) (.inl ⟨by kernel_rfl, fun v hS => ?_⟩) S1.out ?_
        rotate_left
        · obtain ⟨e0, e1, e2, e3, e4, e5, e6⟩ := hS
          go_simp
          with_reducible rfl
        refine wpAnyH_take (i := 9) (v := ?_) rfl (by kernel_rfl) (by kernel_rfl) (by kernel_rfl) (fun _ _ _ h => h) (.inl ⟨by kernel_rfl, fun v hS => ?_⟩) S1.out ?_
        rotate_left
        · obtain ⟨e0, e1, e2, e3, e4, e5, e6⟩ := hS
          go_simp
          with_reducible rfl
        refine wpAnyH_take (i := 10) (v := ?_) rfl (by kernel_rfl) (by kernel_rfl) (by kernel_rfl) (fun _ _ _ h => h) (.inl ⟨by kernel_rfl, fun v hS => ?_⟩) S1.out ?_
        rotate_left
        · obtain ⟨e0, e1, e2, e3, e4, e5, e6⟩ := hS
          go_simp
          with_reducible rfl
        refine wpAnyH_take (i := 11) (v := ?_) rfl (by kernel_rfl) (by kernel_rfl) (by kernel_rfl) (fun _ _ _ h => h) (.inl ⟨by kernel_rfl, fun v hS => ?_⟩) S1.out ?_
        rotate_left
        · obtain ⟨e0, e1, e2, e3, e4, e5, e6⟩ := hS
          go_simp
          with_reducible rfl
        refine wpAnyH_take (i := 12) (v := ?_) rfl (by kernel_rfl) (by kernel_rfl) (by kernel_rfl) (fun _ _ _ h => h) (.inl ⟨by kernel_rfl, fun v hS => ?_⟩) S1.out ?_
        rotate_left
        · obtain ⟨e0, e1, e2, e3, e4, e5, e6⟩ := hS
          go_simp
          with_reducible rfl
        refine wpAnyH_take (i := 13) (v := ?_) rfl (by kernel_rfl) (by kernel_rfl) (by kernel_rfl) (fun _ _ _ h => h) (.inl ⟨by kernel_rfl, fun v hS => ?_⟩) S1.out ?_
        rotate_left
        · obtain ⟨e0, e1, e2, e3, e4, e5, e6⟩ := hS
          go_simp
          with_reducible rfl
        refine wpAnyH_take (i := 14) (v := ?_) rfl (by kernel_rfl) (by kernel_rfl) (by kernel_rfl) (fun _ _ _ h => h) (.inl ⟨by kernel_rfl, fun v hS => ?_⟩) S1.out ?_
        rotate_left
        · obtain ⟨e0, e1, e2, e3, e4, e5, e6⟩ := hS
          go_simp
          with_reducible rfl
        refine wpAnyH_take (i := 15) (v := ?_) rfl (by kernel_rfl) (by kernel_rfl) (by kernel_rfl) (fun _ _ _ h => h) (.inl ⟨by kernel_rfl, fun v hS => ?_⟩) S1.out ?_
        rotate_left
        · obtain ⟨e0, e1, e2, e3, e4, e5, e6⟩ := hS
          go_simp
          with_reducible rfl
        refine wpAnyH_take (i := 16) (v := ?_) rfl (by kernel_rfl) (by kernel_rfl) (by kernel_rfl) (fun _ _ _ h => h) (.inl ⟨by kernel_rfl, fun v hS => ?_⟩) S1.out ?_
        rotate_left
        · obtain ⟨e0, e1, e2, e3, e4, e5, e6⟩ := hS
          go_simp
          with_reducible rfl
        refine wpAnyH_take (i := 17) (v := ?_) rfl (by kernel_rfl) (by kernel_rfl) (by kernel_rfl) (fun _ _ _ h => h) (.inl ⟨by kernel_rfl, fun v hS => ?_⟩) S1.out ?_
        rotate_left
        · obtain ⟨e0, e1, e2, e3, e4, e5, e6⟩ := hS
          go_simp
          with_reducible rfl
        refine wpAnyH_take (i := 18) (v := ?_) rfl (by kernel_rfl) (by kernel_rfl) (by kernel_rfl) (fun _ _ _ h => h) (.inl ⟨by kernel_rfl, fun v hS => ?_⟩) S1.out ?_
        rotate_left
        · obtain ⟨e0, e1, e2, e3, e4, e5, e6⟩ := hS
          go_simp
          with_reducible rfl
        refine wpAnyH_take (i := 19) (v := undef) rfl (by kernel_rfl) (by kernel_rfl) (by kernel_rfl) (fun _ _ _ h => h) (.inr ⟨by kernel_rfl, rfl⟩) S1.out ?_
        refine wpAnyH_take (i := 20) (v := undef) rfl (by kernel_rfl) (by kernel_rfl) (by kernel_rfl) (fun _ _ _ h => h) (.inr ⟨by kernel_rfl, rfl⟩) S1.out ?_
        refine wpAnyH_take (i := 21) (v := undef) rfl (by kernel_rfl) (by kernel_rfl) (by kernel_rfl) (fun _ _ _ h => h) (.inr ⟨by kernel_rfl, rfl⟩) S1.out ?_
        refine wpAnyH_take (i := 22) (v := undef) rfl (by kernel_rfl) (by kernel_rfl) (by kernel_rfl) (fun _ _ _ h => h) (.inr ⟨by kernel_rfl, rfl⟩) S1.out ?_
        refine wpAnyH_take (i := 23) (v := undef) rfl (by kernel_rfl) (by kernel_rfl) (by kernel_rfl) (fun _ _ _ h => h) (.inr ⟨by kernel_rfl, rfl⟩) S1.out ?_
        refine wpAnyH_take (i := 24) (v := undef) rfl (by kernel_rfl) (by kernel_rfl) (by kernel_rfl) (fun _ _ _ h => h) (.inr ⟨by kernel_rfl, rfl⟩) S1.out ?_
        refine wpAnyH_take (i := 25) (v := undef) rfl (by kernel_rfl) (by kernel_rfl) (by kernel_rfl) (fun _ _ _ h => h) (.inr ⟨by kernel_rfl, rfl⟩) S1.out ?_
        refine wpAnyH_take (i := 26) (v := undef) rfl (by kernel_rfl) (by kernel_rfl) (by kernel_rfl) (fun _ _ _ h => h) (.inr ⟨by kernel_rfl, rfl⟩) S1.out ?_
        refine wpAnyH_take (i := 27) (v := undef) rfl (by kernel_rfl) (by kernel_rfl) (by kernel_rfl) (fun _ _ _ h => h) (.inr ⟨by kernel_rfl, rfl⟩) S1.out ?_
        refine wpAnyH_take (i := 28) (v := undef) rfl (by kernel_rfl) (by kernel_rfl) (by kernel_rfl) (fun _ _ _ h => h) (.inr ⟨by kernel_rfl, rfl⟩) S1.out ?_
        refine wpAnyH_take (i := 29) (v := undef) rfl (by kernel_rfl) (by kernel_rfl) (by kernel_rfl) (fun _ _ _ h => h) (.inr ⟨by kernel_rfl, rfl⟩) S1.out ?_
        refine wpAnyH_take (i := 30) (v := undef) rfl (by kernel_rfl) (by kernel_rfl) (by kernel_rfl) (fun _ _ _ h => h) (.inr ⟨by kernel_rfl, rfl⟩) S1.out ?_
        refine wpAnyH_take (i := 31) (v := ?_) rfl (by kernel_rfl) (by kernel_rfl) (by kernel_rfl) (fun _ _ _ h => h) (.inl ⟨by kernel_rfl, fun v hS => ?_⟩) S1.out ?_
        rotate_left
        · obtain ⟨e0, e1, e2, e3, e4, e5, e6⟩ := hS
          go_simp
          with_reducible rfl
        refine wpAnyH_take (i := 32) (v := ?_) rfl (by kernel_rfl) (by kernel_rfl) (by kernel_rfl) (fun _ _ _ h => h) (.inl ⟨by kernel_rfl, fun v hS => ?_⟩) S1.out ?_
        rotate_left
        · obtain ⟨e0, e1, e2, e3, e4, e5, e6⟩ := hS
          go_simp
          with_reducible rfl
        refine wpAnyH_take (i := 33) (v := ?_) rfl (by kernel_rfl) (by kernel_rfl) (by kernel_rfl) (fun _ _ _ h => h) (.inl ⟨by kernel_rfl, fun v hS => ?_⟩) S1.out ?_
        rotate_left
        · obtain ⟨e0, e1, e2, e3, e4, e5, e6⟩ := hS
          go_simp
          with_reducible rfl
        refine wpAnyH_take (i := 34) (v := ?_) rfl (by kernel_rfl) (by kernel_rfl) (by kernel_rfl) (fun _ _ _ h => h) (.inl ⟨by kernel_rfl, fun v hS => ?_⟩) S1.out ?_
        rotate_left
        · obtain ⟨e0, e1, e2, e3, e4, e5, e6⟩ := hS
          go_simp
          with_reducible rfl
        refine wpAnyH_take (i := 35) (v := ?_) rfl (by kernel_rfl) (by kernel_rfl) (by kernel_rfl) (fun _ _ _ h => h) (.inl ⟨by kernel_rfl, fun v hS => ?_⟩) S1.out ?_
        rotate_left
        · obtain ⟨e0, e1, e2, e3, e4, e5, e6⟩ := hS
          go_simp
          with_reducible rfl
        refine wpAnyH_take (i := 36) (v := ?_) rfl (by kernel_rfl) (by kernel_rfl) (by kernel_rfl) (fun _ _ _ h => h) (.inl ⟨by kernel_rfl, fun v hS => ?_⟩) S1.out ?_
        rotate_left
        · obtain ⟨e0, e1, e2, e3, e4, e5, e6⟩ := hS
          go_simp
          with_reducible rfl
        refine wpAnyH_take (i := 37) (v := ?_) rfl (by kernel_rfl) (by kernel_rfl) (by kernel_rfl) (fun _ _ _ h => h) (.inl ⟨by kernel_rfl, fun v hS => ?_⟩) S1.out ?_
        rotate_left
        · obtain ⟨e0, e1, e2, e3, e4, e5, e6⟩ := hS
          go_simp
          with_reducible rfl
        refine wpAnyH_take (i := 38) (v := ?_) rfl (by kernel_rfl) (by kernel_rfl) (by kernel_rfl) (fun _ _ _ h => h) (.inl ⟨by kernel_rfl, fun v hS => ?_⟩) S1.out ?_
        rotate_left
        · obtain ⟨e0, e1, e2, e3, e4, e5, e6⟩ := hS
          go_simp
          with_reducible rfl
        refine one_ready 39 rfl (by kernel_rfl) (by kernel_rfl) ?_
        go_simp
        refine RC.out.mono ?_
        rintro e w2 ⟨rfl, hb2⟩
        have gl : g < wr.heap.size := by have := hPw g hPg; omega
        have S2 := Lib.hid (show (fun v : World => v.cell? ⟨g, k * 7, none⟩ = some (.int .i64 eid) ∧ v.cell? ⟨g, k * 7 + 1, none⟩ = some (.int .i64 cel.kind) ∧ v.cell? ⟨g, k * 7 + 2, none⟩ = some (.int .i64 cel.cls) ∧ v.cell? ⟨g, k * 7 + 3, none⟩ = some (.int .i64 cel.fn) ∧ v.cell? ⟨g, k * 7 + 4, none⟩ = some (.int .i64 cel.ten) ∧ v.cell? ⟨g, k * 7 + 5, none⟩ = some (.slice nA nn nc) ∧ v.cell? ⟨g, k * 7 + 6, none⟩ = some (.slice iA mm ic)) w2 from ⟨(hb2.cell (p := ⟨g, k * 7, none⟩) gl).trans x0, (hb2.cell (p := ⟨g, k * 7 + 1, none⟩) gl).trans x1, (hb2.cell (p := ⟨g, k * 7 + 2, none⟩) gl).trans x2, (hb2.cell (p := ⟨g, k * 7 + 3, none⟩) gl).trans x3, (hb2.cell (p := ⟨g, k * 7 + 4, none⟩) gl).trans x4, (hb2.cell (p := ⟨g, k * 7 + 5, none⟩) gl).trans x5, (hb2.cell (p := ⟨g, k * 7 + 6, none⟩) gl).trans x6⟩)
        have HB2 := Lib.hid hb2
        clear hb2
        refine ⟨S2.out, ?_⟩
        refine one_ready 40 rfl (by kernel_rfl) (by kernel_rfl) ?_
        go_simp
        refine ⟨S2.out, ?_⟩
        refine one_ready 41 rfl (by kernel_rfl) (by kernel_rfl) ?_
        go_simp
        refine ⟨S2.out, rfl, ?_⟩
        go_wp2_with fail
        have B2 := Lib.hid (hB.out.drew.trans (HB2.out.mono hB.out.size))
        have R2 := Lib.hid (hR.out.below (w' := w2) (C := wr.heap.size) ⟨HB2.out.os, HB2.out.tape, HB2.out.output, HB2.out.size, HB2.out.block⟩ (Nat.le_refl _))
        have z2 := B2.out.size
        have qs : w.heap.size < w2.heap.size := R2.out.top.lt
        have gw : g < w.heap.size := hPw g hPg
        have q0 := R2.out.top.cell 0 v rfl
        have nn64 : nn ≤ 64 := by have h : cel.names.length ≤ 64 := (HR.out _ MX.out).2.2.2.1; omega
        have mm64 : mm ≤ 64 := by have h : cel.items.length ≤ 64 := (HR.out _ MX.out).2.2.2.2; omega
        have CP := Lib.hid (refCopy_any P cel nA iA nn nc mm ic w2.drew a6 a7 (a8.keep fun b hb => ⟨hb, HB2.out.block b (by have := hPw b hb; show b < wr.heap.size; omega)⟩) (a9.keep fun b hb => ⟨hb, HB2.out.block b (by have := hPw b hb; show b < wr.heap.size; omega)⟩) (fun b hb => by have := hPw b hb; show b < w2.heap.size; omega) (by omega) (by omega) (HN.out _ ME.out).1 (HN.out _ ME.out).2)
        unfold celV at CP
        have S1 := Lib.hid (show (fun v' : World => v'.cell? ⟨w.heap.size, 0, none⟩ = some v ∧ v'.cell? ⟨g, k * 7, none⟩ = some (.int .i64 eid) ∧ v'.cell? ⟨g, k * 7 + 1, none⟩ = some (.int .i64 cel.kind) ∧ v'.cell? ⟨g, k * 7 + 2, none⟩ = some (.int .i64 cel.cls) ∧ v'.cell? ⟨g, k * 7 + 3, none⟩ = some (.int .i64 cel.fn) ∧ v'.cell? ⟨g, k * 7 + 4, none⟩ = some (.int .i64 cel.ten) ∧ v'.cell? ⟨g, k * 7 + 5, none⟩ = some (.slice nA nn nc) ∧ v'.cell? ⟨g, k * 7 + 6, none⟩ = some (.slice iA mm ic)) w2.drew from ⟨q0, S2.out.1, S2.out.2.1, S2.out.2.2.1, S2.out.2.2.2.1, S2.out.2.2.2.2.1, S2.out.2.2.2.2.2.1, S2.out.2.2.2.2.2.2⟩)
        refine region_plainX (fun v' : World => v'.cell? ⟨w.heap.size, 0, none⟩ = some v ∧ v'.cell? ⟨g, k * 7, none⟩ = some (.int .i64 eid) ∧ v'.cell? ⟨g, k * 7 + 1, none⟩ = some (.int .i64 cel.kind) ∧ v'.cell? ⟨g, k * 7 + 2, none⟩ = some (.int .i64 cel.cls) ∧ v'.cell? ⟨g, k * 7 + 3, none⟩ = some (.int .i64 cel.fn) ∧ v'.cell? ⟨g, k * 7 + 4, none⟩ = some (.int .i64 cel.ten) ∧ v'.cell? ⟨g, k * 7 + 5, none⟩ = some (.slice nA nn nc) ∧ v'.cell? ⟨g, k * 7 + 6, none⟩ = some (.slice iA mm ic)) [21] hmx ?_
        refine anyEx_take (i := 0) (u := ?_) rfl (by kernel_rfl) (by kernel_rfl) (by kernel_rfl) (by kernel_rfl) (by kernel_rfl) (fun _ _ _ h => h) (.inl ⟨by kernel_rfl, fun v' hS => ?_⟩) S1.out ?_
        rotate_left
        · obtain ⟨e0, e1, e2, e3, e4, e5, e6, e7⟩ := hS
          go_simp
          with_reducible rfl
        refine anyEx_take (i := 1) (u := ?_) rfl (by kernel_rfl) (by kernel_rfl) (by kernel_rfl) (by kernel_rfl) (by kernel_rfl) (fun _ _ _ h => h) (.inl ⟨by kernel_rfl, fun v' hS => ?_⟩) S1.out ?_
        rotate_left
        · obtain ⟨e0, e1, e2, e3, e4, e5, e6, e7⟩ := hS
          go_simp
          with_reducible rfl
        refine anyEx_take (i := 2) (u := ?_) rfl (by kernel_rfl) (by kernel_rfl) (by kernel_rfl) (by kernel_rfl) (by kernel_rfl) (fun _ _ _ h => h) (.inl ⟨by kernel_rfl, fun v' hS => ?_⟩) S1.out ?_
        rotate_left
        · obtain ⟨e0, e1, e2, e3, e4, e5, e6, e7⟩ := hS
          go_simp
          with_reducible rfl
        refine anyEx_take (i := 3) (u := ?_) rfl (by kernel_rfl) (by kernel_rfl) (by kernel_rfl) (by kernel_rfl) (by kernel_rfl) (fun _ _ _ h => h) (.inl ⟨by kernel_rfl, fun v' hS => ?_⟩) S1.out ?_
        rotate_left
        · obtain ⟨e0, e1, e2, e3, e4, e5, e6, e7⟩ := hS
          go_simp
          with_reducible rfl
        refine anyEx_take (i := 4) (u := ?_) rfl (by kernel_rfl) (by kernel_rfl) (by kernel_rfl) (by kernel_rfl) (by kernel_rfl) (fun _ _ _ h => h) (.inl ⟨by kernel_rfl, fun v' hS => ?_⟩) S1.out ?_
        rotate_left
        · obtain ⟨e0, e1, e2, e3, e4, e5, e6, e7⟩ := hS
          go_simp
          with_reducible rfl
        refine anyEx_take (i := 5) (u := ?_) rfl (by kernel_rfl) (by kernel_rfl) (by kernel_rfl) (by kernel_rfl) (by kernel_rfl) (fun _ _ _ h => h) (.inl ⟨by kernel_rfl, fun v' hS => ?_⟩) S1.out ?_
        rotate_left
        · obtain ⟨e0, e1, e2, e3, e4, e5, e6, e7⟩ := hS
          go_simp
          with_reducible rfl
        refine anyEx_take (i := 6) (u := ?_) rfl (by kernel_rfl) (by kernel_rfl) (by kernel_rfl) (by kernel_rfl) (by kernel_rfl) (fun _ _ _ h => h) (.inl ⟨by kernel_rfl, fun v' hS => ?_⟩) S1.out ?_
        rotate_left
        · obtain ⟨e0, e1, e2, e3, e4, e5, e6, e7⟩ := hS
          go_simp
          with_reducible rfl
        refine anyEx_take (i := 7) (u := ?_) rfl (by kernel_rfl) (by kernel_rfl) (by kernel_rfl) (by kernel_rfl) (by kernel_rfl) (fun _ _ _ h => h) (.inl ⟨by kernel_rfl, fun v' hS => ?_⟩) S1.out ?_
        rotate_left
        · obtain ⟨e0, e1, e2, e3, e4, e5, e6, e7⟩ := hS
          go_simp
          with_reducible rfl
        refine anyEx_take (i := 8) (u := ?_) rfl (by kernel_rfl) (by kernel_rfl) (by kernel_rfl) (by kernel_rfl) (by kernel_rfl) (fun _ _ _ h => h) (.inl ⟨by kernel_rfl, fun v' hS => ?_⟩) S1.out ?_
        rotate_left
        · obtain ⟨e0, e1, e2, e3, e4, e5, e6, e7⟩ := hS
          go_simp
          with_reducible rfl
        refine anyEx_take (i := 9) (u := ?_) rfl (by kernel_rfl) (by kernel_rfl) (by kernel_rfl) (by kernel_rfl) (by kernel_rfl) (fun _ _ _ h => h) (.inl ⟨by kernel_rfl, fun v' hS => ?_⟩) S1.out ?_
        rotate_left
        · obtain ⟨e0, e1, e2, e3, e4, e5, e6, e7⟩ := hS
          go_simp
          with_reducible rfl
        refine anyEx_take (i := 10) (u := ?_) rfl (by kernel_rfl) (by kernel_rfl) (by kernel_rfl) (by kernel_rfl) (by kernel_rfl) (fun _ _ _ h => h) (.inl ⟨by kernel_rfl, fun v' hS => ?_⟩) S1.out ?_
        rotate_left
        · obtain ⟨e0, e1, e2, e3, e4, e5, e6, e7⟩ := hS
          go_simp
          with_reducible rfl
        refine anyEx_take (i := 11) (u := ?_) rfl (by kernel_rfl) (by kernel_rfl) (by kernel_rfl) (by kernel_rfl) (by kernel_rfl) (fun _ _ _ h => h) (.inl ⟨by kernel_rfl, fun v' hS => ?_⟩) S1.out ?_
        rotate_left
        · obtain ⟨e0, e1, e2, e3, e4, e5, e6, e7⟩ := hS
          go_simp
          with_reducible rfl
        refine anyEx_take (i := 12) (u := ?_) rfl (by kernel_rfl) (by kernel_rfl) (by kernel_rfl) (by kernel_rfl) (by kernel_rfl) (fun _ _ _ h => h) (.inl ⟨by kernel_rfl, fun v' hS => ?_⟩) S1.out ?_
        rotate_left
        · obtain ⟨e0, e1, e2, e3, e4, e5, e6, e7⟩ := hS
          go_simp
          with_reducible rfl
        refine anyEx_take (i := 13) (u := ?_) rfl (by kernel_rfl) (by kernel_rfl) (by kernel_rfl) (by kernel_rfl) (by kernel_rfl) (fun _ _ _ h => h) (.inl ⟨by kernel_rfl, fun v' hS => ?_⟩) S1.out ?_
        rotate_left
        · obtain ⟨e0, e1, e2, e3, e4, e5, e6, e7⟩ := hS
          go_simp
          with_reducible rfl
        refine anyEx_take (i := 14) (u := ?_) rfl (by kernel_rfl) (by kernel_rfl) (by kernel_rfl) (by kernel_rfl) (by kernel_rfl) (fun _ _ _ h => h) (.inl ⟨by kernel_rfl, fun v' hS => ?_⟩) S1.out ?_
        rotate_left
        · obtain ⟨e0, e1, e2, e3, e4, e5, e6, e7⟩ := hS
          go_simp
          with_reducible rfl
        refine anyEx_one 15 rfl (by kernel_rfl) (by kernel_rfl) ?_
        go_simp
        refine CP.out.mono ?_
        rintro e w3 ⟨D, d, E, e', rfl, hh⟩
        obtain ⟨⟨hD, hE⟩, hb3⟩ := hh.out
        have ql : w.heap.size < w2.drew.heap.size := qs
        have gl2 : g < w2.drew.heap.size := Nat.lt_trans gw qs
        have S3 := Lib.hid (show (fun v' : World => v'.cell? ⟨w.heap.size, 0, none⟩ = some v ∧ v'.cell? ⟨g, k * 7, none⟩ = some (.int .i64 eid) ∧ v'.cell? ⟨g, k * 7 + 1, none⟩ = some (.int .i64 cel.kind) ∧ v'.cell? ⟨g, k * 7 + 2, none⟩ = some (.int .i64 cel.cls) ∧ v'.cell? ⟨g, k * 7 + 3, none⟩ = some (.int .i64 cel.fn) ∧ v'.cell? ⟨g, k * 7 + 4, none⟩ = some (.int .i64 cel.ten) ∧ v'.cell? ⟨g, k * 7 + 5, none⟩ = some (.slice nA nn nc) ∧ v'.cell? ⟨g, k * 7 + 6, none⟩ = some (.slice iA mm ic)) w3 from ⟨(hb3.cell (p := ⟨w.heap.size, 0, none⟩) ql).trans S1.out.1, (hb3.cell (p := ⟨g, k * 7, none⟩) gl2).trans S1.out.2.1, (hb3.cell (p := ⟨g, k * 7 + 1, none⟩) gl2).trans S1.out.2.2.1, (hb3.cell (p := ⟨g, k * 7 + 2, none⟩) gl2).trans S1.out.2.2.2.1, (hb3.cell (p := ⟨g, k * 7 + 3, none⟩) gl2).trans S1.out.2.2.2.2.1, (hb3.cell (p := ⟨g, k * 7 + 4, none⟩) gl2).trans S1.out.2.2.2.2.2.1, (hb3.cell (p := ⟨g, k * 7 + 5, none⟩) gl2).trans S1.out.2.2.2.2.2.2.1, (hb3.cell (p := ⟨g, k * 7 + 6, none⟩) gl2).trans S1.out.2.2.2.2.2.2.2⟩)
        have B3 := Lib.hid (B2.out.drew.trans (hb3.mono B2.out.size))
        have R3 := Lib.hid (R2.out.below (w' := w3) (C := w2.heap.size) ⟨hb3.os, hb3.tape, hb3.output, hb3.size, hb3.block⟩ (Nat.le_refl _))
        have EN := Lib.hid (show EntAt w3 (Near (w.heap.size + 1) v w3) ⟨eid, cel.kind, cel.cls, cel.fn, cel.ten, D, nn, d, E, mm, e'⟩ (eid, cel) from rows_ent hD hE a6 a7 _ (fun g' h1 h2 => ⟨by have : w2.heap.size ≤ g' := h1; omega, h2, fun e => by have h3 := (R2.out.cps.row.lt g' e).2; have : w2.heap.size ≤ g' := h1; omega⟩) (fun g' h1 h2 => ⟨by have : w2.heap.size ≤ g' := h1; omega, h2, fun e => by have h3 := (R2.out.cps.row.lt g' e).2; have : w2.heap.size ≤ g' := h1; omega⟩))
        have NL := Lib.hid (show (D = none → nn = 0 ∧ d = 0) ∧ (E = none → mm = 0 ∧ e' = 0) from ⟨own_nil hD, own_nil hE⟩)
        have z3 := hb3.size
        clear hD hE hb3 hh
        refine ⟨S3.out, ?_⟩
        refine anyEx_one 16 rfl (by kernel_rfl) (by kernel_rfl) ?_
        go_simp
        refine ⟨S3.out, ?_⟩
        refine anyEx_one 17 rfl (by kernel_rfl) (by kernel_rfl) ?_
        go_simp
        have BE := Lib.hid (Bk.new w3 (#[.int .i64 eid, .int .i64 cel.kind, .int .i64 cel.cls, .int .i64 cel.fn, .int .i64 cel.ten, .slice D nn d, .slice E mm e'] : Array Value) 49)
        have B4 := Lib.hid (B3.out.alloc B3.out.size (.cells #[.int .i64 eid, .int .i64 cel.kind, .int .i64 cel.cls, .int .i64 cel.fn, .int .i64 cel.ten, .slice D nn d, .slice E mm e'] 49))
        have R4 := Lib.hid (R3.out.below (C := w3.heap.size) ((Below.refl _ w3).alloc (Nat.le_refl _) (.cells #[.int .i64 eid, .int .i64 cel.kind, .int .i64 cel.cls, .int .i64 cel.fn, .int .i64 cel.ten, .slice D nn d, .slice E mm e'] 49)) (Nat.le_refl _))
        have EN4 := Lib.hid (EN.out.keep (w' := w3.alloc (.cells #[.int .i64 eid, .int .i64 cel.kind, .int .i64 cel.cls, .int .i64 cel.fn, .int .i64 cel.ten, .slice D nn d, .slice E mm e'] 49)) (Q := Near (w.heap.size + 1) v (w3.alloc (.cells #[.int .i64 eid, .int .i64 cel.kind, .int .i64 cel.cls, .int .i64 cel.fn, .int .i64 cel.ten, .slice D nn d, .slice E mm e'] 49))) fun b hb => ⟨⟨hb.1, by rw [World.size_alloc]; have := hb.2.1; omega, hb.2.2⟩, Below.heap_alloc _ _ _ hb.2.1⟩)
        have ql3 : w.heap.size < w3.heap.size := Nat.lt_of_lt_of_le qs z3
        have gl3 : g < w3.heap.size := Nat.lt_trans gw ql3
        have S4 := Lib.hid (show (fun v' : World => v'.cell? ⟨w.heap.size, 0, none⟩ = some v ∧ v'.cell? ⟨g, k * 7, none⟩ = some (.int .i64 eid) ∧ v'.cell? ⟨g, k * 7 + 1, none⟩ = some (.int .i64 cel.kind) ∧ v'.cell? ⟨g, k * 7 + 2, none⟩ = some (.int .i64 cel.cls) ∧ v'.cell? ⟨g, k * 7 + 3, none⟩ = some (.int .i64 cel.fn) ∧ v'.cell? ⟨g, k * 7 + 4, none⟩ = some (.int .i64 cel.ten) ∧ v'.cell? ⟨g, k * 7 + 5, none⟩ = some (.slice nA nn nc) ∧ v'.cell? ⟨g, k * 7 + 6, none⟩ = some (.slice iA mm ic)) (w3.alloc (.cells #[.int .i64 eid, .int .i64 cel.kind, .int .i64 cel.cls, .int .i64 cel.fn, .int .i64 cel.ten, .slice D nn d, .slice E mm e'] 49)) from by
          have hb := (Below.refl w3.heap.size w3).alloc (Nat.le_refl _) (.cells #[.int .i64 eid, .int .i64 cel.kind, .int .i64 cel.cls, .int .i64 cel.fn, .int .i64 cel.ten, .slice D nn d, .slice E mm e'] 49)
          exact ⟨(hb.cell (p := ⟨w.heap.size, 0, none⟩) ql3).trans S3.out.1, (hb.cell (p := ⟨g, k * 7, none⟩) gl3).trans S3.out.2.1, (hb.cell (p := ⟨g, k * 7 + 1, none⟩) gl3).trans S3.out.2.2.1, (hb.cell (p := ⟨g, k * 7 + 2, none⟩) gl3).trans S3.out.2.2.2.1, (hb.cell (p := ⟨g, k * 7 + 3, none⟩) gl3).trans S3.out.2.2.2.2.1, (hb.cell (p := ⟨g, k * 7 + 4, none⟩) gl3).trans S3.out.2.2.2.2.2.1, (hb.cell (p := ⟨g, k * 7 + 5, none⟩) gl3).trans S3.out.2.2.2.2.2.2.1, (hb.cell (p := ⟨g, k * 7 + 6, none⟩) gl3).trans S3.out.2.2.2.2.2.2.2⟩)
        refine ⟨S4.out, ?_⟩
        generalize w3.alloc (.cells #[.int .i64 eid, .int .i64 cel.kind, .int .i64 cel.cls, .int .i64 cel.fn, .int .i64 cel.ten, .slice D nn d, .slice E mm e'] 49) = w4 at *
        refine anyEx_one 18 rfl (by kernel_rfl) (by kernel_rfl) ?_
        refine wp_append_ent _ _ rfl (w.heap.size + 1) v fs (⟨eid, cel.kind, cel.cls, cel.fn, cel.ten, D, nn, d, E, mm, e'⟩ : Ac.En) rfl R4.out.cps.row w3.heap.size 1 rfl BE.out (by rw [R4.out.cps.len, List.length_take]; omega) R4.out.top.lt ?_
        intro v5 w5 ho hg hv
        obtain ⟨A5, c5, rfl⟩ := own_slice ho
        generalize hn5 : (fs ++ [(⟨eid, cel.kind, cel.cls, cel.fn, cel.ten, D, nn, d, E, mm, e'⟩ : Ac.En)]).length = n5 at *
        clear hn5
        have rb : ∀ b, v.ownBlock = some b → w.heap.size + 1 ≤ b := fun b hb => (R4.out.cps.row.lt b hb).1
        have C5 := Lib.hid (R4.out.cps.add EN4.out NL.out ho hg hv)
        have T5 := Lib.hid (show Bk w5 w.heap.size #[v, .int .i64 next] 35 from (hg.block _ R4.out.top.lt (fun e => by have := rb _ e.symm; omega)).trans R4.out.top)
        have gl4 : g < w4.heap.size := Nat.lt_trans gw R4.out.top.lt
        have kg : w5.heap[g]? = w4.heap[g]? := hg.block _ gl4 (fun e => by have := rb _ e.symm; omega)
        have S5 := Lib.hid (show (fun v' : World => v'.cell? ⟨w.heap.size, 0, none⟩ = some v ∧ v'.cell? ⟨g, k * 7, none⟩ = some (.int .i64 eid) ∧ v'.cell? ⟨g, k * 7 + 1, none⟩ = some (.int .i64 cel.kind) ∧ v'.cell? ⟨g, k * 7 + 2, none⟩ = some (.int .i64 cel.cls) ∧ v'.cell? ⟨g, k * 7 + 3, none⟩ = some (.int .i64 cel.fn) ∧ v'.cell? ⟨g, k * 7 + 4, none⟩ = some (.int .i64 cel.ten) ∧ v'.cell? ⟨g, k * 7 + 5, none⟩ = some (.slice nA nn nc) ∧ v'.cell? ⟨g, k * 7 + 6, none⟩ = some (.slice iA mm ic)) w5 from ⟨T5.out.cell 0 _ rfl, (World.cell?_of_block (a := ⟨g, k * 7, none⟩) kg).trans S4.out.2.1, (World.cell?_of_block (a := ⟨g, k * 7 + 1, none⟩) kg).trans S4.out.2.2.1, (World.cell?_of_block (a := ⟨g, k * 7 + 2, none⟩) kg).trans S4.out.2.2.2.1, (World.cell?_of_block (a := ⟨g, k * 7 + 3, none⟩) kg).trans S4.out.2.2.2.2.1, (World.cell?_of_block (a := ⟨g, k * 7 + 4, none⟩) kg).trans S4.out.2.2.2.2.2.1, (World.cell?_of_block (a := ⟨g, k * 7 + 5, none⟩) kg).trans S4.out.2.2.2.2.2.2.1, (World.cell?_of_block (a := ⟨g, k * 7 + 6, none⟩) kg).trans S4.out.2.2.2.2.2.2.2⟩)
        have B5 := Lib.hid (B4.out.grown hg B4.out.size (fun b hb => by have := rb b hb; omega))
        have TK2 := Lib.hid (TK.out)
        have RF := Lib.hid (show RefL (w5.setCell ⟨w.heap.size, 0, none⟩ (.slice A5 n5 c5)) w.heap.size (.slice A5 n5 c5) (fs ++ [(⟨eid, cel.kind, cel.cls, cel.fn, cel.ten, D, nn, d, E, mm, e'⟩ : Ac.En)]) (l.take (k + 1)) next from ⟨T5.out.set 0 (.slice A5 n5 c5), by rw [TK.out]; exact C5.out.store (Nat.lt_succ_self _) 0 (.slice A5 n5 c5)⟩)
        have BF := Lib.hid (B5.out.setCell (p := ⟨w.heap.size, 0, none⟩) (Nat.le_refl _) (.slice A5 n5 c5))
        clear ho hg hv kg rb
        refine ⟨.inr S5.out, ?_⟩
        refine anyEx_one 19 rfl (by kernel_rfl) (by kernel_rfl) ?_
        go_simp
        refine ⟨S5.out, ?_⟩
        refine anyEx_one 20 rfl (by kernel_rfl) (by kernel_rfl) ?_
        go_simp
        refine ⟨S5.out, ?_⟩
        have f0 := T5.out.frozen 0
        have c0 := T5.out.cell 0 v rfl
        refine anyEx_one 21 rfl (by kernel_rfl) (by kernel_rfl) ?_
        go_simp
        refine ⟨rfl, ?_⟩
        go_wp2_with fail
        go_roundw
        case rel => exact ⟨k + 1, _, _, by omega, by go_num, RF, BF⟩
        case measure => simp [intOf]; omega
        -- FIRST END
    · obtain rfl : k = l.length := by omega
      have hR := hR.out
      rw [List.take_length] at hR
      have HR2 := Lib.hid hR
      have hB2 := hB
      clear hlt hk hR hB
      go_wp2_with fail
      go_loopw [8, 9, 10] (fun i _ _ wr => ∃ k : Nat, k ≤ l.length ∧ i = .int .i64 k ∧ Hid (RefL wr w.heap.size v fs l next) ∧ Hid (Below w.heap.size w wr)) (fun i _ _ _ => l.length - (intOf i).toNat)
      case atStart => exact ⟨0, by omega, rfl, HR2, hB2⟩
      case round =>
        clear HR2 hB2
        obtain ⟨k, hk, rfl, hR, hB⟩ := hrel
        by_cases hlt : k < l.length
        · have hxl := List.getElem?_eq_getElem hlt
          have hel : k < es.length := by rw [HE.out.len]; exact hlt
          have hey := List.getElem?_eq_getElem hel
          have MX := Lib.hid (List.getElem_mem hlt)
          have HEr := HE.out.keep (w' := wr) (Q := P) fun g hg => ⟨hg, hB.out.block g (HP.out g hg)⟩
          obtain ⟨g, rfl, hPg, hcells⟩ := HEr.row k _ hey
          have hent := HEr.ent k _ _ hey hxl
          generalize l[k] = x at *
          generalize es[k] = e at *
          obtain ⟨eid, ek, ec, ef, et, nA, nn, nc, iA, mm, ic⟩ := e
          obtain ⟨j, cel⟩ := x
          have x6 := hcells 6 _ rfl
          have hmm := hent.m
          have gw : g < w.heap.size := HP.out g hPg
          have hits := hent.its
          simp only at x6 hmm hits
          have mm64 : mm ≤ 64 := by have h : cel.items.length ≤ 64 := (HR.out _ MX.out).2.2.2.2; omega
          have ki : (k : Int) < l.length := by omega
          have X6 := Lib.hid x6
          have HV := Lib.hid hits
          have SH := Lib.hid (fun v hv => shut_mem HC.out MX.out (v := v) hv)
          simp only at SH
          clear hcells HEr hxl hey hent hits
          have HW := hB
          generalize wr = wo at *
          go_wp2_with fail
          go_loopw [9, 10] (fun i _ wr => ∃ n : Nat, n ≤ mm ∧ i = .int .i64 n ∧ Hid (RefL wr w.heap.size v fs l next) ∧ Hid (Below wo.heap.size wo wr)) (fun i _ _ => mm - (intOf i).toNat)
          case atStart => exact ⟨0, by omega, rfl, hR, Lib.hid (Below.refl _ _)⟩
          case round =>
            clear hR hB
            obtain ⟨n, hn, rfl, hR, hB⟩ := hrel
            have gr : g < wo.heap.size := Nat.lt_of_lt_of_le gw HW.out.size
            have x6 : wr.cell? ⟨g, k * 7 + 6, none⟩ = some (.slice iA mm ic) := (hB.out.cell (p := ⟨g, k * 7 + 6, none⟩) gr).trans X6.out
            by_cases hnm : n < mm
            · have hz := List.getElem?_eq_getElem (l := cel.items) (i := n) (by omega)
              obtain ⟨b, o, rfl, hPb, y0, y1, y2⟩ := HV.out n _ hz
              have bw : b < wo.heap.size := Nat.lt_of_lt_of_le (HP.out b hPb) HW.out.size
              have y0 := (hB.out.cell (p := ⟨b, o + n * 3, none⟩) bw).trans y0
              have y1 := (hB.out.cell (p := ⟨b, o + n * 3 + 1, none⟩) bw).trans y1
              have y2 := (hB.out.cell (p := ⟨b, o + n * 3 + 2, none⟩) bw).trans y2
              have S5 := Lib.hid (SH.out _ (List.mem_of_getElem? hz))
              have nm : (n : Int) < mm := by omega
              clear hz
              generalize cel.items[n] = z at *
              obtain ⟨zk, zn, zs⟩ := z
              simp only at y0 y1 y2 S5
              have R4 := Lib.hid (hR.out.below ((Below.refl _ wr).alloc (Nat.le_refl _) (.cells #[.int .i64 zk, .int .i64 zn, .string zs] 64)) (Nat.le_refl _))
              have B4 := Lib.hid (hB.out.alloc hB.out.size (.cells #[.int .i64 zk, .int .i64 zn, .string zs] 64))
              by_cases h5 : zk = 5
              · have hk5 : (zk == 5) = true := by simp [h5]
                have PL := Lib.hid (ref_place R4.out hl HS.out zn)
                obtain ⟨x, hx⟩ : ∃ x : Nat, plc (ids l) zn = x := by
                  unfold plc
                  rw [if_pos (S5.out h5)]
                  exact ⟨_, rfl⟩
                rw [hx] at PL
                clear hx h5
                go_wp2_with fail
                refine PL.out.mono ?_
                rintro e w7 ⟨rfl, rfl⟩
                go_wp2_with fail
                go_roundw
                case rel => exact ⟨n + 1, by omega, by go_num, R4, B4⟩
                case measure => simp [intOf]; omega
              · have hk5 : (zk == 5) = false := by simp [h5]
                clear h5
                go_wp2_with fail
                go_roundw
                case rel => exact ⟨n + 1, by omega, by go_num, R4, B4⟩
                case measure => simp [intOf]; omega
            · obtain rfl : n = mm := by omega
              have B5 := Lib.hid (HW.out.trans (hB.out.mono HW.out.size))
              go_wp2_with fail
              go_roundw
              case rel => exact ⟨k + 1, by omega, by go_num, hR, B5⟩
              case measure => simp [intOf]; omega
        · obtain rfl : k = l.length := by omega
          go_wp2_with fail
          go_ret2
          exact ⟨_, _, _, rfl, Lib.hid ⟨hR.out, Nat.le_refl _, hB.out⟩⟩
end Go.Proofs.YtkdpcnikgdbmaaaGreatDoor.Hp
