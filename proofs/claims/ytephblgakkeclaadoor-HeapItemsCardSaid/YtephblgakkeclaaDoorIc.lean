/-
  visited, Reach, ids.
-/
import Derived.Test.YtephblgakkeclaaDoorIb
namespace Go.Proofs.YtephblgakkeclaaDoor.Hp
open Go Go.RowKit Go.Maps Go.Sort Go.Shelf Va

theorem Vis.ids {l : List Ent} {wk : Bool} {L : List Val} {S : List Int} (h : Vis l wk L [] S) : S.Nodup ∧ ∀ i ∈ S, i ∈ ids l := ⟨h.nodup List.nodup_nil, h.known (fun i hi => by cases hi)⟩
def visW (w : World) (p lf : Nat) : World := ((((w.alloc (.cells #[.pointer (some ⟨p, 0, none⟩)] 24)).alloc (.cells #[.func (.func lf) #[] #[]] 69)).alloc (.map #[] 0)).alloc (.cells #[.map (some (w.heap.size + 1 + 1))] 70)).alloc
  (.cells #[.func (.func 45) #[] #[.pointer (some ⟨w.heap.size, 0, none⟩), .pointer (some ⟨w.heap.size + 1 + 1 + 1, 0, none⟩), .pointer (some ⟨w.heap.size + 1, 0, none⟩), .pointer (some ⟨w.heap.size + 1 + 1 + 1 + 1, 0, none⟩)]] 89)
theorem visW_size (w : World) (p lf : Nat) : (visW w p lf).heap.size = w.heap.size + 1 + 1 + 1 + 1 + 1 := by simp [visW]
theorem visW_below (w : World) (p lf : Nat) : Below w.heap.size w (visW w p lf) :=
  (((((Below.refl _ w).alloc (by simp) _).alloc (by simp) _).alloc (by simp; omega) _).alloc (by simp; omega) _).alloc (by simp; omega) _
theorem visW_boxes (w : World) (p lf : Nat) : Boxes (visW w p lf) p (w.heap.size + 1 + 1) lf w.heap.size (w.heap.size + 1 + 1 + 1) (w.heap.size + 1) (w.heap.size + 1 + 1 + 1 + 1) := by
  unfold visW
  refine ⟨((((Bk.new w _ _).alloc _).alloc _).alloc _).alloc _, ?_, (((Bk.new2 w _ _ _).alloc _).alloc _).alloc _, ?_⟩
  · have := Bk.new (((w.alloc (.cells #[.pointer (some ⟨p, 0, none⟩)] 24)).alloc (.cells #[.func (.func lf) #[] #[]] 69)).alloc (.map #[] 0)) #[.map (some (w.heap.size + 1 + 1))] 70
    rw [World.size_alloc, World.size_alloc, World.size_alloc] at this
    exact this.alloc _
  · have := Bk.new ((((w.alloc (.cells #[.pointer (some ⟨p, 0, none⟩)] 24)).alloc (.cells #[.func (.func lf) #[] #[]] 69)).alloc (.map #[] 0)).alloc (.cells #[.map (some (w.heap.size + 1 + 1))] 70)) #[.func (.func 45) #[] #[.pointer (some ⟨w.heap.size, 0, none⟩), .pointer (some ⟨w.heap.size + 1 + 1 + 1, 0, none⟩), .pointer (some ⟨w.heap.size + 1, 0, none⟩), .pointer (some ⟨w.heap.size + 1 + 1 + 1 + 1, 0, none⟩)]] 89
    rw [World.size_alloc, World.size_alloc, World.size_alloc, World.size_alloc] at this
    exact this
theorem visW_seen (w : World) (p lf : Nat) : SeenI (visW w p lf) (w.heap.size + 1 + 1) [] := by
  have h := SeenI.made ((w.alloc (.cells #[.pointer (some ⟨p, 0, none⟩)] 24)).alloc (.cells #[.func (.func lf) #[] #[]] 69))
  have hl := h.lt
  rw [World.size_alloc, World.size_alloc] at h hl
  unfold visW
  refine (h.keep (Below.heap_alloc _ _ _ hl)).keep (Below.heap_alloc _ _ _ ?_)
  rw [World.size_alloc]; omega
set_option maxRecDepth 100000 in
set_option maxHeartbeats 2000000 in
theorem visited_any (F P : Nat → Prop) (p lf : Nat) (mb : Option Nat) (f : Int → Hd) (l : List Ent) (next : Int) (wk : Bool) (L : List Val) (A : Option Addr) (n c : Nat) (w : World) (hfit : ∀ e ∈ l, ∀ v ∈ e.2.items, I64 v.n) (hlen : ∀ e ∈ l, e.2.items.length ≤ 4398046511104) (hcnt : l.length ≤ 100000) (hid : ∀ i ∈ ids l, I64 i)
    (EN : ∀ args w, (callFunc lf args).run Tryd.prog w = .ok (.enter lf args) w)
    (LF : ∀ b k w, w.cell? ⟨b, 0, none⟩ = some (.int .i64 k) → Calls Tryd.prog lf #[.pointer (some ⟨b, 0, none⟩)] w fun e w' => e = .returned (.bool (wk || k != 4)) ∧ w = w')
    (hn : L.length = n) (hn' : n ≤ 4398046511104) (hL : ∀ v ∈ L, I64 v.n) (H : HeapA w F p mb f l next) (hF : ∀ g, F g → g < w.heap.size) (hV : ValsAt w P A L) (hP : ∀ b, P b → b < w.heap.size) :
    Calls Tryd.prog 31 #[.pointer (some ⟨p, 0, none⟩), .slice A n c, .func (.func lf) #[] #[]] w fun e w' => ∃ (v : Value) (r : List Int), e = .returned v ∧ Hid (r.Pairwise (· < ·) ∧ (∀ i, i ∈ r ↔ Rea l wk L i) ∧ IdsAt w' w.heap.size v r ∧ Below w.heap.size w w') := by
  have VI := Lib.hid (visit_any F p (w.heap.size + 1 + 1) lf w.heap.size (w.heap.size + 1 + 1 + 1) (w.heap.size + 1) (w.heap.size + 1 + 1 + 1 + 1) mb f l next wk (fun h => by have := hF _ h; omega) hfit hlen hcnt EN LF (ids l).length P L A n c [] (visW w p lf) hn hn' hL (H.low hF (visW_below w p lf)) (fun g hg => by have := hF g hg; rw [visW_size]; omega) (visW_seen w p lf) List.nodup_nil (fun i hi => by cases hi) (visW_boxes w p lf) (hV.low hP (visW_below w p lf)) (fun b hb => by have := hP b hb; rw [visW_size]; omega) (by simp))
  have ID := Lib.hid hid
  have HB := Lib.hid (visW_below w p lf)
  have BX := Lib.hid (visW_boxes w p lf)
  have SZ := visW_size w p lf
  have SM := Lib.hid (visW_seen w p lf)
  have hl : (ids l).length ≤ 100000 := by simp [ids]; exact hcnt
  have hmm := @run_makeMap Tryd.prog
  clear hfit hlen hid H hF hV hP hL LF EN hcnt
  go_enter Tryd.func31, Tryd.ntmps31
  go_wp2_with fail
  change Calls _ _ _ (visW w p lf) _
  refine VI.out.mono ?_
  rintro e w2 ⟨rfl, hh⟩
  obtain ⟨S, hv, hs, hf⟩ := hh.out
  have V2 := Lib.hid hv
  have S2 := Lib.hid hs
  have B2 := Lib.hid (BX.out.keep hf SM.out.isMap)
  have s2 := B2.out.s.cell 0 _ rfl
  have HB2 := Lib.hid (Frm.below_of HB.out hf (fun g hg => by subst hg; omega))
  have SO := Lib.hid (sortedS_any _ S w2 hs hv.ids.1 (fun i hi => ID.out i (hv.ids.2 i hi)) (Nat.le_trans (sub_len hv.ids.1 hv.ids.2) hl))
  have SZ2 := hf.size
  rw [SZ] at SZ2
  clear hh hv hs hf VI hmm SM BX SZ
  go_wp2_with fail
  refine (keysB_any _ _).mono ?_
  rintro e w3 ⟨rfl, rfl⟩
  go_wp2_with fail
  refine SO.out.mono ?_
  rintro e w4 ⟨v, r, rfl, hh⟩
  obtain ⟨h1, h2, h3, h4, h5⟩ := hh.out
  have RX := Lib.hid (show r.Pairwise (· < ·) ∧ (∀ i, i ∈ r ↔ Rea l wk L i) ∧ IdsAt w4 w.heap.size v r ∧ Below w.heap.size w w4 from ⟨h1, fun i => (h2 i).trans (V2.out.whole i), by unfold IdsAt at *; exact own_mono h3 (by omega), (HB2.out.alloc (by omega) _).trans (h5.mono (by omega))⟩)
  clear hh h1 h2 h3 h4 h5 SO
  go_wp2_with fail
  go_ret
  exact ⟨v, r, rfl, RX⟩
set_option maxHeartbeats 1000000 in
theorem reach_any (F P : Nat → Prop) (p : Nat) (mb : Option Nat) (f : Int → Hd) (l : List Ent) (next : Int) (L : List Val) (A : Option Addr) (n c : Nat) (w : World) (hfit : ∀ e ∈ l, ∀ v ∈ e.2.items, I64 v.n) (hlen : ∀ e ∈ l, e.2.items.length ≤ 4398046511104) (hcnt : l.length ≤ 100000) (hid : ∀ i ∈ ids l, I64 i)
    (hn : L.length = n) (hn' : n ≤ 4398046511104) (hL : ∀ v ∈ L, I64 v.n) (H : HeapA w F p mb f l next) (hF : ∀ g, F g → g < w.heap.size) (hV : ValsAt w P A L) (hP : ∀ b, P b → b < w.heap.size) :
    Calls Tryd.prog 17 #[.pointer (some ⟨p, 0, none⟩), .slice A n c] w fun e w' => ∃ (v : Value) (r : List Int), e = .returned v ∧ Hid (r.Pairwise (· < ·) ∧ (∀ i, i ∈ r ↔ Rea l false L i) ∧ IdsAt w' w.heap.size v r ∧ Below w.heap.size w w') := by
  have VI := Lib.hid (visited_any F P p 32 mb f l next false L A n c w hfit hlen hcnt hid (enters_of Tryd.func32 (by kernel_rfl) rfl) (fun b k w h => by simpa using reach1_any b k w h) hn hn' hL H hF hV hP)
  clear hfit hlen hid H hF hV hP hL hcnt
  go_enter Tryd.func17, Tryd.ntmps17
  go_wp2_with fail
  refine VI.out.mono ?_
  rintro e w2 ⟨v, r, rfl, hh⟩
  go_wp2_with fail
  go_ret
  exact ⟨v, r, rfl, hh⟩
/-- The heap's ids: those of a heap whose map stands. -/
theorem MapA.keys {w : World} {F : Nat → Prop} {b : Nat} {l : List Ent} {f : Int → Hd} (h : MapA w F (some b) l f) (hid : ∀ i ∈ ids l, I64 i) (hs : (ids l).Pairwise (· < ·)) : ∃ D, w.ownsMap Tryd.prog 3 ptrElem b l.length D ∧ (ids l).Perm (intKeys D) ∧ Maps.size D = l.length := by
  rcases h with ⟨h, _⟩ | ⟨b', D, hb, _, ho, hD⟩
  · cases h
  · obtain rfl := Option.some.inj hb
    exact ⟨D, ho, keys_perm ho hid (hs.imp fun h => Int.ne_of_lt h) hD.has_, hD.size_⟩
theorem ids_len (l : List Ent) : (ids l).length = l.length := by simp [ids]
set_option maxHeartbeats 1000000 in
theorem ids_any (F : Nat → Prop) (p : Nat) (mb : Option Nat) (f : Int → Hd) (l : List Ent) (next : Int) (w : World) (hcnt : l.length ≤ 100000) (hid : ∀ i ∈ ids l, I64 i) (H : HeapA w F p mb f l next) :
    Calls Tryd.prog 33 #[.pointer (some ⟨p, 0, none⟩)] w fun e w' => ∃ v : Value, e = .returned v ∧ Hid (IdsAt w' w.heap.size v (ids l) ∧ Below w.heap.size w w') := by
  have c0 := H.top.cell 0 _ rfl
  rcases mb with _ | b
  · have h0 : l = [] := by
      rcases H.map with ⟨_, h⟩ | ⟨b', _, hb, _⟩
      · exact h
      · cases hb
    subst h0
    clear H hid
    go_enter Tryd.func33, Tryd.ntmps33
    go_wp2_with fail
    refine (keysC_any _ _).mono ?_
    rintro e w3 ⟨rfl, rfl⟩
    go_wp2_with fail
    refine (sortedC_nil _).mono ?_
    rintro e w4 ⟨rfl, hb⟩
    have HB := Lib.hid (((Below.refl _ w).alloc (Nat.le_refl _) _).trans (hb.mono (by omega)))
    clear hb
    go_wp2_with fail
    go_ret
    exact ⟨_, rfl, Lib.hid ⟨World.ownsRow_nil _ _ _ _, HB.out⟩⟩
  · obtain ⟨D, ho, hp, hsz⟩ := H.map.keys hid H.sorted
    have SO := Lib.hid (sortedC_any b l.length D _ w ho (by rw [hsz]; unfold maxLen; omega) (by rw [hsz]; omega))
    have HP := Lib.hid hp
    have HS := Lib.hid H.sorted
    clear H hid ho hp
    go_enter Tryd.func33, Tryd.ntmps33
    go_wp2_with fail
    refine (keysC_any _ _).mono ?_
    rintro e w3 ⟨rfl, rfl⟩
    go_wp2_with fail
    refine SO.out.mono ?_
    rintro e w4 ⟨v, ss, rfl, hq, hr, hz, hb⟩
    have RX := Lib.hid (show IdsAt w4 w.heap.size v (ids l) ∧ Below w.heap.size w w4 by
      have hn : ss.Perm (ids l) := hq.trans HP.out.symm
      have hnd : (ids l).Nodup := HS.out.imp fun h => Int.ne_of_lt h
      obtain ⟨m1, m2⟩ := sorted_of_merge (hn.nodup_iff.2 hnd)
      have e : ss.mergeSort (fun x y => decide (x ≤ y)) = ids l := sorted_ext m1 HS.out fun i => (m2 i).trans hn.mem_iff
      rw [e, hn.length_eq] at hr
      exact ⟨own_mono hr (by omega), ((Below.refl _ w).alloc (Nat.le_refl _) _).trans (hb.mono (by omega))⟩)
    clear hq hr hz hb SO
    go_wp2_with fail
    go_ret
    exact ⟨v, rfl, RX⟩
end Go.Proofs.YtephblgakkeclaaDoor.Hp
