/-
  Contract of Load, carried out.
-/
import Derived.Test.YtkdpcnikgdbmaaaGreatDoorJa
import Derived.Test.YtkdpcnikgdbmaaaGreatDoorJb
import Derived.Test.YtkdpcnikgdbmaaaGreatDoorIi
namespace Go.Proofs.YtkdpcnikgdbmaaaGreatDoor.Hp
open Go Go.RowKit Go.Maps Go.Sort Go.Shelf Va

/-- The cells that heaps are loaded with. -/
def Cok (c : Cel) : Prop := c.right = true ∧ (∀ v ∈ c.items, v.Fits) ∧ (∀ s ∈ c.names, s.size ≤ maxLen) ∧ c.names.length ≤ 64 ∧ c.items.length ≤ 64
theorem Below.made0 {w : World} {next : Int} (hn : I64 next) (f : Int → Hd) (hB : Bnds w) : St0 w ((w.alloc (.map #[] 0)).alloc (.cells #[.map (some w.heap.size), .int .i64 next] 99)) (New (fun _ => False) w.heap.size (w.heap.size + 2)) (w.heap.size + 1) (some w.heap.size) f [] next := by
  have hs : (w.alloc (.map #[] 0)).heap.size = w.heap.size + 1 := World.size_alloc ..
  refine ⟨⟨?_, .inr ⟨by omega, by omega⟩, .inr ⟨w.heap.size, _, rfl, .inr ⟨by omega, by omega⟩, (World.ownsMap_made w Tryz.prog 3 ptrElem).alloc _, ?_⟩, (fun e he => by cases he), (fun e he => by cases he), List.Pairwise.nil, hn⟩, fun g hg => ?_, ?_, hB⟩
  · rw [← hs]; exact Bk.new _ _ _
  · exact ⟨fun i _ => by simp [ids, DataW.atKey], fun i _ => by simp [ids, Maps.has], by simp [Maps.size]⟩
  · rcases hg with h | h
    · exact absurd h (by simp)
    · simp; omega
  · exact ((Below.refl _ w).alloc (Nat.le_refl _) _).alloc (by omega) _
/-- A heap that has its map. -/
def St1 (w0 w : World) (p : Nat) (l : List Ent) (next : Int) : Prop := ∃ F b f, St0 w0 w F p (some b) f l next
theorem St1.st {w0 w : World} {p : Nat} {l : List Ent} {next : Int} (h : St1 w0 w p l next) : St w0 w p l next := by
  obtain ⟨F, b, f, h⟩ := h
  exact ⟨F, some b, f, h⟩
theorem St1.down {w0 w w' : World} {p : Nat} {l : List Ent} {next : Int} (h : St1 w0 w p l next) (hb : Below w.heap.size w w') : St1 w0 w' p l next := by
  obtain ⟨F, mb, f, h⟩ := h
  exact ⟨F, mb, f, h.heap.low h.fl hb, fun g hg => ⟨(h.own g hg).1, Nat.lt_of_lt_of_le (h.own g hg).2 hb.size⟩, h.low.trans (hb.mono h.low.size), h.bnd⟩
theorem St1.since {w0 w1 w : World} {p : Nat} {l : List Ent} {next : Int} (h : St1 w1 w p l next) (hb : Below w0.heap.size w0 w1) (hB : Bnds w0) : St1 w0 w p l next := by
  obtain ⟨F, mb, f, h⟩ := h
  have := hb.size
  exact ⟨F, mb, f, h.heap, fun g hg => ⟨by have := (h.own g hg).1; omega, (h.own g hg).2⟩, hb.trans (h.low.mono hb.size), hB⟩
theorem St1.below {w0 w : World} {p : Nat} {l : List Ent} {next : Int} (h : St1 w0 w p l next) : Below w0.heap.size w0 w := h.st.below
set_option maxRecDepth 100000 in
set_option maxHeartbeats 4000000 in
theorem load_any (P : Nat → Prop) (A : Option Addr) (es : List Ac.En) (l : List Ent) (next : Int) (n c : Nat) (w : World) (h : EntsAt w P A es l) (hn : l.length = n) (hP : ∀ g, P g → g < w.heap.size) (hl : l.length ≤ 8000) (hs : (ids l).Pairwise (· < ·)) (h0 : ∀ e ∈ l, 0 ≤ e.1 ∧ e.1 < next) (hx : 0 ≤ next ∧ next ≤ 4398046511104)
    (hr : ∀ e ∈ l, Cok e.2) (hcl : shutB l = true) (hB : Bnds w) :
    Calls Tryz.prog 18 #[.slice A n c, .int .i64 next] w fun e w' => ∃ p, e = .returned (.tuple #[.pointer (some ⟨p, 0, none⟩), .int .i64 0]) ∧ Hid (St1 w w' p l next) := by
  subst hn
  obtain ⟨hx0, hx1⟩ := hx
  have N64 : I64 next := by unfold I64; omega
  have HE := Lib.hid h
  have HP := Lib.hid hP
  have HS := Lib.hid hs
  have H0 := Lib.hid h0
  have HR := Lib.hid hr
  have HC := Lib.hid hcl
  have S0 := Lib.hid (Below.made0 N64 (fun _ => ⟨0, .slice none 0 0, .slice none 0 0⟩) hB)
  have hB' := Lib.hid hB
  clear h hP hs h0 hr hcl hB
  have hmm := @run_makeMap Tryz.prog
  go_enter Tryz.func18, Tryz.ntmps18
  go_wp2_with fail
  go_loopw [7, 19] (fun ls i wr => ∃ (k : Nat) (m : Int), k ≤ l.length ∧ (0 ≤ m ∧ m ≤ 4398046511104) ∧ i = .int .i64 k ∧ ls = .int .i64 m ∧ Hid ((∀ e ∈ l.take k, e.1 < m) ∧ ∀ e ∈ l.drop k, m ≤ e.1) ∧ Hid (∃ F f, St0 w wr F (w.heap.size + 1) (some w.heap.size) f (l.take k) next)) (fun _ i _ => l.length - (intOf i).toNat)
  case atStart => exact ⟨0, 0, by omega, by omega, rfl, rfl, Lib.hid ⟨by simp, fun e he => (H0.out e (by simpa using he)).1⟩, Lib.hid ⟨_, _, by rw [List.take_zero]; exact S0.out⟩⟩
  case round =>
    clear S0
    obtain ⟨k, m, hk, ⟨hm0, hm1⟩, rfl, rfl, hlim, hst⟩ := hrel
    obtain ⟨F, f, hst'⟩ := hst.out
    have ST := Lib.hid hst'
    clear hst hst'
    by_cases hlt : k < l.length
    · have hxl := List.getElem?_eq_getElem hlt
      have hel : k < es.length := by rw [HE.out.len]; exact hlt
      have hey := List.getElem?_eq_getElem hel
      have TK := Lib.hid (List.take_succ_eq_append_getElem hlt)
      have DK := Lib.hid (List.drop_eq_getElem_cons hlt)
      have MX := Lib.hid (List.getElem_mem hlt)
      generalize l[k] = x at *
      generalize es[k] = e at *
      have HEr := HE.out.keep (w' := wr) (Q := P) fun g hg => ⟨hg, ST.out.low.block g (HP.out g hg)⟩
      have hent := HEr.ent k e x hey hxl
      obtain ⟨g, rfl, hPg, hcells⟩ := HEr.row k e hey
      obtain ⟨eid, ek, ec, ef, et, nA, nn, nc, iA, mm, ic⟩ := e
      obtain ⟨j, cel⟩ := x
      obtain ⟨a1, a2, a3, a4, a5, a6, a7, a8, a9⟩ := hent
      simp only at a1 a2 a3 a4 a5 a6 a7 a8 a9
      subst a1; subst a2; subst a3; subst a4; subst a5; subst a6; subst a7
      obtain ⟨r1, r2, r3, r4, r5⟩ := HR.out _ MX.out
      simp only at r1 r2 r3 r4 r5
      have x0 : wr.cell? ⟨g, k * 7, none⟩ = some (.int .i64 eid) := hcells 0 _ rfl
      have x1 := hcells 1 _ rfl
      have x2 := hcells 2 _ rfl
      have x3 := hcells 3 _ rfl
      have x4 := hcells 4 _ rfl
      have x5 := hcells 5 _ rfl
      have x6 := hcells 6 _ rfl
      obtain ⟨j0, j1⟩ := H0.out _ MX.out
      simp only at j0 j1
      have jm : m ≤ eid := hlim.out.2 _ (by rw [DK.out]; exact List.mem_cons_self)
      have ki : (k : Int) < l.length := by omega
      have hPw := HP.out
      have szr := ST.out.low.size
      have LAST := Lib.hid (show ∀ e ∈ l.take k, e.1 < eid from fun e he => by have := hlim.out.1 e he; omega)
      have LIM2 := Lib.hid (show (∀ e ∈ l.take (k + 1), e.1 < eid + 1) ∧ ∀ e ∈ l.drop (k + 1), eid + 1 ≤ e.1 from ⟨fun e he => by
        rw [TK.out] at he
        rcases List.mem_append.1 he with he | he
        · have := LAST.out e he; omega
        · obtain rfl := List.mem_singleton.1 he
          show eid < eid + 1
          omega, fun e he => by
        have h1 := HS.out
        have h2 : l = l.take k ++ (eid, cel) :: l.drop (k + 1) := by rw [← DK.out, List.take_append_drop]
        rw [h2] at h1
        unfold ids at h1
        rw [List.map_append, List.map_cons, List.pairwise_append] at h1
        have h3 := (List.pairwise_cons.1 h1.2.1).1 e.1 (List.mem_map.2 ⟨e, he, rfl⟩)
        simp only at h3
        omega⟩)
      have NM := Lib.hid a8
      have VL := Lib.hid a9
      have RC := Lib.hid (right_at P cel nA iA cel.names.length nc cel.items.length ic wr rfl rfl a8 a9 (fun b hb => by have := hPw b hb; omega) (by omega) (by omega) r3 r2 ST.out.bnds r1)
      clear hcells HEr a8 a9 r1 r2 r3 hxl hey hlim
      generalize hcn : cel.names.length = cn at *
      generalize hci : cel.items.length = ci at *
      have HCN := Lib.hid hcn
      have HCI := Lib.hid hci
      clear hcn hci
      unfold celV at RC
      go_wp2_with fail
      refine (RC.out _).mono ?_
      rintro e w2 ⟨rfl, hb, hb2⟩
      have K1 := Lib.hid ((Bk.new wr _ _).below hb2 (by omega))
      have ST2 := Lib.hid (show St0 w w2 F (w.heap.size + 1) (some w.heap.size) f (l.take k) next from ⟨ST.out.heap.low ST.out.fl hb, fun g hg => ⟨(ST.out.own g hg).1, Nat.lt_of_lt_of_le (ST.out.own g hg).2 hb.size⟩, ST.out.low.trans (hb.mono ST.out.low.size), ST.out.bnd⟩)
      have NF := Lib.hid (show ¬ F wr.heap.size from fun h => by have := (ST.out.own _ h).2; omega)
      have NM2 := Lib.hid (NM.out.low (fun b hb => by have := hPw b hb; omega) hb)
      have VL2 := Lib.hid (VL.out.low (fun b hb => by have := hPw b hb; omega) hb)
      have sz2 := hb.size
      have AD := Lib.hid (add_any F P (w.heap.size + 1) w.heap.size f (l.take k) next eid cel nA iA cn nc ci ic w2 ST2.out.heap ST2.out.fl (by unfold I64; omega) LAST.out (by rw [List.length_take]; omega) HCN.out HCI.out NM2.out VL2.out (fun b hb => by have := hPw b hb; omega) (by omega) (by omega))
      unfold celV at AD
      have k0 := K1.out.cell 0 (.int .i64 eid) rfl
      have k1 := K1.out.cell 1 (.int .i64 cel.kind) rfl
      have k2 := K1.out.cell 2 (.int .i64 cel.cls) rfl
      have k3 := K1.out.cell 3 (.int .i64 cel.fn) rfl
      have k4 := K1.out.cell 4 (.int .i64 cel.ten) rfl
      have k5 := K1.out.cell 5 (.slice nA cn nc) rfl
      have k6 := K1.out.cell 6 (.slice iA ci ic) rfl
      clear hb hb2 RC x0 x1 x2 x3 x4 x5 x6 NM VL ST NM2 VL2
      go_wp2_with fail
      refine AD.out.mono ?_
      rintro e w4 ⟨rfl, hh⟩
      obtain ⟨f', H4, hkf, hfr⟩ := hh.out
      have K4 := Lib.hid (show Bk w4 wr.heap.size _ _ from (hfr.block _ K1.out.lt NF.out).trans K1.out)
      have ST4 := Lib.hid (show ∃ F f, St0 w w4 F (w.heap.size + 1) (some w.heap.size) f (l.take (k + 1)) next from ⟨_, f', by rw [TK.out]; exact H4, fun g hg => by
        have := ST2.out.low.size; have := hfr.size
        rcases hg with hg | hg
        · have := ST2.out.own g hg; omega
        · omega, Frm.below_of ST2.out.low hfr fun g hg => (ST2.out.own g hg).1, ST2.out.bnd⟩)
      have y0 := K4.out.cell 0 (.int .i64 eid) rfl
      clear hh H4 hkf hfr k0 k1 k2 k3 k4 k5 k6 AD K1
      go_wp2_with fail
      go_roundw
      case rel => exact ⟨k + 1, eid + 1, by omega, by omega, by go_num, rfl, LIM2, ST4⟩
      case measure => simp [intOf]; omega
    · obtain rfl : k = l.length := by omega
      have ST1 := Lib.hid (show St0 w wr F (w.heap.size + 1) (some w.heap.size) f l next by have := ST.out; rwa [List.take_length] at this)
      have CL := Lib.hid (closed_any F (w.heap.size + 1) w.heap.size f l next wr ST1.out.heap ST1.out.fl (fun i hi => by
        obtain ⟨e, he, rfl⟩ := List.mem_map.1 hi
        have := H0.out e he
        unfold I64; omega) (fun e he => by
        obtain ⟨r1, r2, r3, r4, r5⟩ := HR.out e he
        exact ⟨by omega, fun v hv => (r2 v hv).2.1⟩))
      rw [HC.out] at CL
      clear ST
      go_wp2_with fail
      refine CL.out.mono ?_
      rintro e w5 ⟨rfl, hb⟩
      have HD := Lib.hid (St1.down (⟨_, _, _, ST1.out⟩ : St1 w wr (w.heap.size + 1) l next) hb)
      clear hb CL
      go_wp2_with fail
      go_ret2
      exact ⟨_, rfl, HD⟩
end Go.Proofs.YtkdpcnikgdbmaaaGreatDoor.Hp
