/-
  The sorted keys of a set of ids, of a heap's map.
  visited, Reach, ids.
  Cells that go: mathematics of remove.
  remove.
  Keep.
  Show of strings and of weak cells; the law's ref, number, text, nils; Ints.
-/
import Derived.Test.YtkdpcnikgdbmaaaGreatDoorIa
import Derived.Maps.RangeWalk
import Derived.BigRegion
namespace Go.Proofs.YtkdpcnikgdbmaaaGreatDoor.Hp
open Go Go.RowKit Go.Maps Go.Sort Go.Shelf Va

theorem sorts_any (m : Nat) : AnyZI.SortsIn Tryz.prog Tryz.sortedA_ren Fence.wide m :=
  ⟨fun blk off cap ss W hH hblk hsz => callsIn_wide.2 (AnyM.slices_Sort_int Tryz.sortA blk off cap ss W hH hblk hsz),
   fun p cap W => callsIn_wide.2 (AnyM.slices_Sort_int_none Tryz.sortA p cap W)⟩
theorem keysB_any (mb : Option Nat) (W : World) : Calls Tryz.prog 95 #[.map mb] W fun e w' => e = .returned (.func (.func 112) #[] #[.pointer (some ⟨W.heap.size, 0, none⟩)]) ∧ w' = W.alloc (.cells #[.map mb] 62) :=
  (callsIn_wide (n := 5)).1 (AnyZI.keys_in Tryz.keysB Fence.wide 5 trivial rfl mb W)
theorem keysC_any (mb : Option Nat) (W : World) : Calls Tryz.prog 90 #[.map mb] W fun e w' => e = .returned (.func (.func 111) #[] #[.pointer (some ⟨W.heap.size, 0, none⟩)]) ∧ w' = W.alloc (.cells #[.map mb] 97) :=
  (callsIn_wide (n := 5)).1 (AnyZI.keys_in Tryz.keysC Fence.wide 5 trivial rfl mb W)
theorem sortedB_any {H : Type} (b nn : Nat) (D0 : DataW H) (R : Value → Option (DataW H × List MemPlace)) (w : World) (hown : w.ownsMap Tryz.prog 3 R b nn D0) (hmax : Maps.size D0 ≤ maxLen) (hbytes : Maps.size D0 * 8 ≤ 140737488355328) :
    Calls Tryz.prog 89 #[.func (.func 112) #[] #[.pointer (some ⟨w.heap.size, 0, none⟩)]] (w.alloc (.cells #[.map (some b)] 62)) fun e w' => ∃ (v : Value) (ss : List Int), e = .returned v ∧ ss.Perm (intKeys D0) ∧
      w'.ownsRow (w.heap.size + 1) 3 1 v ss.length ((ss.mergeSort (fun x y => decide (x ≤ y))).map encZ) ∧ (v = .slice none 0 0 ↔ ss = []) ∧ Below (w.heap.size + 1) (w.alloc (.cells #[.map (some b)] 62)) w' := by
  have hbl := hown.lt
  have hseq : SeqGives Fence.wide 2 Tryz.prog 112 #[.pointer (some ⟨w.heap.size, 0, none⟩)] encZ (fun ss => ss.Perm (intKeys D0)) (Maps.size D0) (w.alloc (.cells #[.map (some b)] 62)) :=
    AnyZI.keys_gives (ρ := Tryz.keysB_ren) { Tryz.keysB with } Fence.wide _ trivial rfl (by omega) w.heap.size b nn D0 _ (by simp) (by simp) (by
      obtain ⟨es, clock, hb, Ft, hs, hD⟩ := hown
      exact ⟨es, clock, (Below.heap_alloc _ _ b hbl).trans hb, Ft, hs, hD⟩)
  have cS := AnyZI.sorted_in Tryz.sortedA Fence.wide 5 trivial trivial trivial trivial rfl (by omega) (sorts_any _) (enters_of Tryz.func110 (by kernel_rfl) rfl) 112 #[.pointer (some ⟨w.heap.size, 0, none⟩)] trivial (enters_of Tryz.func112 (by kernel_rfl) rfl) _ _ hmax hbytes _ hseq
  change CallsIn _ _ Tryz.prog 89 _ _ _ at cS
  refine ((callsIn_wide (n := 5)).1 cS).mono ?_
  rintro e w' ⟨v, ss, rfl, h1, h2, h3, h4⟩
  rw [World.size_alloc] at h2 h4
  exact ⟨v, ss, rfl, h1, h2, h3, h4⟩
theorem sortedC_any {H : Type} (b nn : Nat) (D0 : DataW H) (R : Value → Option (DataW H × List MemPlace)) (w : World) (hown : w.ownsMap Tryz.prog 3 R b nn D0) (hmax : Maps.size D0 ≤ maxLen) (hbytes : Maps.size D0 * 8 ≤ 140737488355328) :
    Calls Tryz.prog 89 #[.func (.func 111) #[] #[.pointer (some ⟨w.heap.size, 0, none⟩)]] (w.alloc (.cells #[.map (some b)] 97)) fun e w' => ∃ (v : Value) (ss : List Int), e = .returned v ∧ ss.Perm (intKeys D0) ∧
      w'.ownsRow (w.heap.size + 1) 3 1 v ss.length ((ss.mergeSort (fun x y => decide (x ≤ y))).map encZ) ∧ (v = .slice none 0 0 ↔ ss = []) ∧ Below (w.heap.size + 1) (w.alloc (.cells #[.map (some b)] 97)) w' := by
  have hbl := hown.lt
  have hseq : SeqGives Fence.wide 2 Tryz.prog 111 #[.pointer (some ⟨w.heap.size, 0, none⟩)] encZ (fun ss => ss.Perm (intKeys D0)) (Maps.size D0) (w.alloc (.cells #[.map (some b)] 97)) :=
    AnyZI.keys_gives (ρ := Tryz.keysC_ren) { Tryz.keysC with } Fence.wide _ trivial rfl (by omega) w.heap.size b nn D0 _ (by simp) (by simp) (by
      obtain ⟨es, clock, hb, Ft, hs, hD⟩ := hown
      exact ⟨es, clock, (Below.heap_alloc _ _ b hbl).trans hb, Ft, hs, hD⟩)
  have cS := AnyZI.sorted_in Tryz.sortedA Fence.wide 5 trivial trivial trivial trivial rfl (by omega) (sorts_any _) (enters_of Tryz.func110 (by kernel_rfl) rfl) 111 #[.pointer (some ⟨w.heap.size, 0, none⟩)] trivial (enters_of Tryz.func111 (by kernel_rfl) rfl) _ _ hmax hbytes _ hseq
  change CallsIn _ _ Tryz.prog 89 _ _ _ at cS
  refine ((callsIn_wide (n := 5)).1 cS).mono ?_
  rintro e w' ⟨v, ss, rfl, h1, h2, h3, h4⟩
  rw [World.size_alloc] at h2 h4
  exact ⟨v, ss, rfl, h1, h2, h3, h4⟩
theorem sortedC_nil (w : World) :
    Calls Tryz.prog 89 #[.func (.func 111) #[] #[.pointer (some ⟨w.heap.size, 0, none⟩)]] (w.alloc (.cells #[.map none] 97)) fun e w' => e = .returned (.slice none 0 0) ∧ Below (w.heap.size + 1) (w.alloc (.cells #[.map none] 97)) w' := by
  have hseq : SeqGives Fence.wide 2 Tryz.prog 111 #[.pointer (some ⟨w.heap.size, 0, none⟩)] encZ (fun ss : List Int => ss = []) 0 (w.alloc (.cells #[.map none] 97)) :=
    AnyZI.keys_gives_nil (ρ := Tryz.keysC_ren) { Tryz.keysC with } Fence.wide _ trivial rfl w.heap.size _ (by simp) (by simp)
  have cS := AnyZI.sorted_in Tryz.sortedA Fence.wide 5 trivial trivial trivial trivial rfl (by omega) (sorts_any _) (enters_of Tryz.func110 (by kernel_rfl) rfl) 111 #[.pointer (some ⟨w.heap.size, 0, none⟩)] trivial (enters_of Tryz.func111 (by kernel_rfl) rfl) _ 0 (Nat.zero_le _) (by omega) _ hseq
  change CallsIn _ _ Tryz.prog 89 _ _ _ at cS
  refine ((callsIn_wide (n := 5)).1 cS).mono ?_
  rintro e w' ⟨v, ss, rfl, h1, h2, h3, h4⟩
  rw [World.size_alloc] at h4
  exact ⟨by rw [h3.2 h1], h4⟩
/-- A slice of ints of its own, or nil: what a row of ids is. -/
def IdsAt (w : World) (base : Nat) (v : Value) (r : List Int) : Prop := w.ownsRow base 3 1 v r.length (r.map encZ)
set_option maxHeartbeats 1000000 in
/-- The sorted ids of a set. -/
theorem sortedS_any (b : Nat) (S : List Int) (w : World) (h : SeenI w b S) (hn : S.Nodup) (hi : ∀ i ∈ S, I64 i) (hl : S.length ≤ 100000) :
    Calls Tryz.prog 89 #[.func (.func 112) #[] #[.pointer (some ⟨w.heap.size, 0, none⟩)]] (w.alloc (.cells #[.map (some b)] 62)) fun e w' => ∃ (v : Value) (r : List Int), e = .returned v ∧ Hid (r.Pairwise (· < ·) ∧ (∀ i, i ∈ r ↔ i ∈ S) ∧ IdsAt w' (w.heap.size + 1) v r ∧ (v = .slice none 0 0 ↔ r = []) ∧ Below (w.heap.size + 1) (w.alloc (.cells #[.map (some b)] 62)) w') := by
  obtain ⟨D, ho, -, h2, h3⟩ := h
  refine (sortedB_any b S.length D _ w ho (by rw [h3]; unfold maxLen; omega) (by rw [h3]; omega)).mono ?_
  rintro e w' ⟨v, ss, rfl, hp, hr, hz, hb⟩
  have hp2 : ss.Perm S := hp.trans (keys_perm ho hi hn h2).symm
  obtain ⟨m1, m2⟩ := sorted_of_merge (hp2.nodup_iff.2 hn)
  have hlen : (ss.mergeSort (fun x y => decide (x ≤ y))).length = ss.length := List.length_mergeSort _
  refine ⟨v, _, rfl, Lib.hid ⟨m1, fun i => (m2 i).trans hp2.mem_iff, by unfold IdsAt; rw [hlen]; exact hr, ?_, hb⟩⟩
  rw [hz]
  constructor
  · rintro rfl; exact List.eq_nil_of_length_eq_zero (by rw [hlen]; rfl)
  · intro h; exact List.eq_nil_of_length_eq_zero (by rw [← hlen, h]; rfl)
end Go.Proofs.YtkdpcnikgdbmaaaGreatDoor.Hp
namespace Go.Proofs.YtkdpcnikgdbmaaaGreatDoor.Hp
open Go Go.RowKit Go.Maps Go.Sort Go.Shelf Va

theorem Vis.ids {l : List Ent} {wk : Bool} {L : List Val} {S : List Int} (h : Vis l wk L [] S) : S.Nodup ∧ ∀ i ∈ S, i ∈ ids l := ⟨h.nodup List.nodup_nil, h.known (fun i hi => by cases hi)⟩
def visW (w : World) (p lf : Nat) : World := ((((w.alloc (.cells #[.pointer (some ⟨p, 0, none⟩)] 25)).alloc (.cells #[.func (.func lf) #[] #[]] 104)).alloc (.map #[] 0)).alloc (.cells #[.map (some (w.heap.size + 1 + 1))] 62)).alloc
  (.cells #[.func (.func 94) #[] #[.pointer (some ⟨w.heap.size, 0, none⟩), .pointer (some ⟨w.heap.size + 1 + 1 + 1, 0, none⟩), .pointer (some ⟨w.heap.size + 1, 0, none⟩), .pointer (some ⟨w.heap.size + 1 + 1 + 1 + 1, 0, none⟩)]] 137)
theorem visW_size (w : World) (p lf : Nat) : (visW w p lf).heap.size = w.heap.size + 1 + 1 + 1 + 1 + 1 := by simp [visW]
theorem visW_below (w : World) (p lf : Nat) : Below w.heap.size w (visW w p lf) :=
  (((((Below.refl _ w).alloc (by simp) _).alloc (by simp) _).alloc (by simp; omega) _).alloc (by simp; omega) _).alloc (by simp; omega) _
theorem visW_boxes (w : World) (p lf : Nat) : Boxes (visW w p lf) p (w.heap.size + 1 + 1) lf w.heap.size (w.heap.size + 1 + 1 + 1) (w.heap.size + 1) (w.heap.size + 1 + 1 + 1 + 1) := by
  unfold visW
  refine ⟨((((Bk.new w _ _).alloc _).alloc _).alloc _).alloc _, ?_, (((Bk.new2 w _ _ _).alloc _).alloc _).alloc _, ?_⟩
  · have := Bk.new (((w.alloc (.cells #[.pointer (some ⟨p, 0, none⟩)] 25)).alloc (.cells #[.func (.func lf) #[] #[]] 104)).alloc (.map #[] 0)) #[.map (some (w.heap.size + 1 + 1))] 62
    rw [World.size_alloc, World.size_alloc, World.size_alloc] at this
    exact this.alloc _
  · have := Bk.new ((((w.alloc (.cells #[.pointer (some ⟨p, 0, none⟩)] 25)).alloc (.cells #[.func (.func lf) #[] #[]] 104)).alloc (.map #[] 0)).alloc (.cells #[.map (some (w.heap.size + 1 + 1))] 62)) #[.func (.func 94) #[] #[.pointer (some ⟨w.heap.size, 0, none⟩), .pointer (some ⟨w.heap.size + 1 + 1 + 1, 0, none⟩), .pointer (some ⟨w.heap.size + 1, 0, none⟩), .pointer (some ⟨w.heap.size + 1 + 1 + 1 + 1, 0, none⟩)]] 137
    rw [World.size_alloc, World.size_alloc, World.size_alloc, World.size_alloc] at this
    exact this
theorem visW_seen (w : World) (p lf : Nat) : SeenI (visW w p lf) (w.heap.size + 1 + 1) [] := by
  have h := SeenI.made ((w.alloc (.cells #[.pointer (some ⟨p, 0, none⟩)] 25)).alloc (.cells #[.func (.func lf) #[] #[]] 104))
  have hl := h.lt
  rw [World.size_alloc, World.size_alloc] at h hl
  unfold visW
  refine (h.keep (Below.heap_alloc _ _ _ hl)).keep (Below.heap_alloc _ _ _ ?_)
  rw [World.size_alloc]; omega
set_option maxRecDepth 100000 in
set_option maxHeartbeats 2000000 in
theorem visited_any (F P : Nat → Prop) (p lf : Nat) (mb : Option Nat) (f : Int → Hd) (l : List Ent) (next : Int) (wk : Bool) (L : List Val) (A : Option Addr) (n c : Nat) (w : World) (hfit : ∀ e ∈ l, ∀ v ∈ e.2.items, I64 v.n) (hlen : ∀ e ∈ l, e.2.items.length ≤ 4398046511104) (hcnt : l.length ≤ 100000) (hid : ∀ i ∈ ids l, I64 i)
    (EN : ∀ args w, (callFunc lf args).run Tryz.prog w = .ok (.enter lf args) w)
    (LF : ∀ b k w, w.cell? ⟨b, 0, none⟩ = some (.int .i64 k) → Calls Tryz.prog lf #[.pointer (some ⟨b, 0, none⟩)] w fun e w' => e = .returned (.bool (wk || k != 4)) ∧ w = w')
    (hn : L.length = n) (hn' : n ≤ 4398046511104) (hL : ∀ v ∈ L, I64 v.n) (H : HeapA w F p mb f l next) (hF : ∀ g, F g → g < w.heap.size) (hV : ValsAt w P A L) (hP : ∀ b, P b → b < w.heap.size) :
    Calls Tryz.prog 65 #[.pointer (some ⟨p, 0, none⟩), .slice A n c, .func (.func lf) #[] #[]] w fun e w' => ∃ (v : Value) (r : List Int), e = .returned v ∧ Hid (r.Pairwise (· < ·) ∧ (∀ i, i ∈ r ↔ Rea l wk L i) ∧ IdsAt w' w.heap.size v r ∧ Below w.heap.size w w') := by
  have VI := Lib.hid (visit_any F p (w.heap.size + 1 + 1) lf w.heap.size (w.heap.size + 1 + 1 + 1) (w.heap.size + 1) (w.heap.size + 1 + 1 + 1 + 1) mb f l next wk (fun h => by have := hF _ h; omega) hfit hlen hcnt EN LF (ids l).length P L A n c [] (visW w p lf) hn hn' hL (H.low hF (visW_below w p lf)) (fun g hg => by have := hF g hg; rw [visW_size]; omega) (visW_seen w p lf) List.nodup_nil (fun i hi => by cases hi) (visW_boxes w p lf) (hV.low hP (visW_below w p lf)) (fun b hb => by have := hP b hb; rw [visW_size]; omega) (by simp))
  have ID := Lib.hid hid
  have HB := Lib.hid (visW_below w p lf)
  have BX := Lib.hid (visW_boxes w p lf)
  have SZ := visW_size w p lf
  have SM := Lib.hid (visW_seen w p lf)
  have hl : (ids l).length ≤ 100000 := by simp [ids]; exact hcnt
  have hmm := @run_makeMap Tryz.prog
  clear hfit hlen hid H hF hV hP hL LF EN hcnt
  go_enter Tryz.func65, Tryz.ntmps65
  go_wp2_with fail
  change Calls _ _ _ (visW w p lf) _
  refine VI.out.mono ?_
  rintro e w2 ⟨rfl, hh⟩
  obtain ⟨S, hv, hs, hf⟩ := hh.out
  have V2 := Lib.hid hv
  have S2 := Lib.hid hs
  have B2 := Lib.hid (BX.out.keep hf SM.out.isMap)
  have s2 := B2.out.s.cell 0 _ rfl
  have HB2 := Lib.hid (Frm.below_of HB.out hf (fun g hg => by subst hg; omega))
  have SO := Lib.hid (sortedS_any _ S w2 hs hv.ids.1 (fun i hi => ID.out i (hv.ids.2 i hi)) (Nat.le_trans (sub_len hv.ids.1 hv.ids.2) hl))
  have SZ2 := hf.size
  rw [SZ] at SZ2
  clear hh hv hs hf VI hmm SM BX SZ
  go_wp2_with fail
  refine (keysB_any _ _).mono ?_
  rintro e w3 ⟨rfl, rfl⟩
  go_wp2_with fail
  refine SO.out.mono ?_
  rintro e w4 ⟨v, r, rfl, hh⟩
  obtain ⟨h1, h2, h3, h4, h5⟩ := hh.out
  have RX := Lib.hid (show r.Pairwise (· < ·) ∧ (∀ i, i ∈ r ↔ Rea l wk L i) ∧ IdsAt w4 w.heap.size v r ∧ Below w.heap.size w w4 from ⟨h1, fun i => (h2 i).trans (V2.out.whole i), by unfold IdsAt at *; exact own_mono h3 (by omega), (HB2.out.alloc (by omega) _).trans (h5.mono (by omega))⟩)
  clear hh h1 h2 h3 h4 h5 SO
  go_wp2_with fail
  go_ret
  exact ⟨v, r, rfl, RX⟩
set_option maxHeartbeats 1000000 in
theorem reach_any (F P : Nat → Prop) (p : Nat) (mb : Option Nat) (f : Int → Hd) (l : List Ent) (next : Int) (L : List Val) (A : Option Addr) (n c : Nat) (w : World) (hfit : ∀ e ∈ l, ∀ v ∈ e.2.items, I64 v.n) (hlen : ∀ e ∈ l, e.2.items.length ≤ 4398046511104) (hcnt : l.length ≤ 100000) (hid : ∀ i ∈ ids l, I64 i)
    (hn : L.length = n) (hn' : n ≤ 4398046511104) (hL : ∀ v ∈ L, I64 v.n) (H : HeapA w F p mb f l next) (hF : ∀ g, F g → g < w.heap.size) (hV : ValsAt w P A L) (hP : ∀ b, P b → b < w.heap.size) :
    Calls Tryz.prog 22 #[.pointer (some ⟨p, 0, none⟩), .slice A n c] w fun e w' => ∃ (v : Value) (r : List Int), e = .returned v ∧ Hid (r.Pairwise (· < ·) ∧ (∀ i, i ∈ r ↔ Rea l false L i) ∧ IdsAt w' w.heap.size v r ∧ Below w.heap.size w w') := by
  have VI := Lib.hid (visited_any F P p 66 mb f l next false L A n c w hfit hlen hcnt hid (enters_of Tryz.func66 (by kernel_rfl) rfl) (fun b k w h => by simpa using reach1_any b k w h) hn hn' hL H hF hV hP)
  clear hfit hlen hid H hF hV hP hL hcnt
  go_enter Tryz.func22, Tryz.ntmps22
  go_wp2_with fail
  refine VI.out.mono ?_
  rintro e w2 ⟨v, r, rfl, hh⟩
  go_wp2_with fail
  go_ret
  exact ⟨v, r, rfl, hh⟩
/-- The heap's ids: those of a heap whose map stands. -/
theorem MapA.keys {w : World} {F : Nat → Prop} {b : Nat} {l : List Ent} {f : Int → Hd} (h : MapA w F (some b) l f) (hid : ∀ i ∈ ids l, I64 i) (hs : (ids l).Pairwise (· < ·)) : ∃ D, w.ownsMap Tryz.prog 3 ptrElem b l.length D ∧ (ids l).Perm (intKeys D) ∧ Maps.size D = l.length := by
  rcases h with ⟨h, _⟩ | ⟨b', D, hb, _, ho, hD⟩
  · cases h
  · obtain rfl := Option.some.inj hb
    exact ⟨D, ho, keys_perm ho hid (hs.imp fun h => Int.ne_of_lt h) hD.has_, hD.size_⟩
theorem ids_len (l : List Ent) : (ids l).length = l.length := by simp [ids]
set_option maxHeartbeats 1000000 in
theorem ids_any (F : Nat → Prop) (p : Nat) (mb : Option Nat) (f : Int → Hd) (l : List Ent) (next : Int) (w : World) (hcnt : l.length ≤ 100000) (hid : ∀ i ∈ ids l, I64 i) (H : HeapA w F p mb f l next) :
    Calls Tryz.prog 58 #[.pointer (some ⟨p, 0, none⟩)] w fun e w' => ∃ v : Value, e = .returned v ∧ Hid (IdsAt w' w.heap.size v (ids l) ∧ Below w.heap.size w w') := by
  have c0 := H.top.cell 0 _ rfl
  rcases mb with _ | b
  · have h0 : l = [] := by
      rcases H.map with ⟨_, h⟩ | ⟨b', _, hb, _⟩
      · exact h
      · cases hb
    subst h0
    clear H hid
    go_enter Tryz.func58, Tryz.ntmps58
    go_wp2_with fail
    refine (keysC_any _ _).mono ?_
    rintro e w3 ⟨rfl, rfl⟩
    go_wp2_with fail
    refine (sortedC_nil _).mono ?_
    rintro e w4 ⟨rfl, hb⟩
    have HB := Lib.hid (((Below.refl _ w).alloc (Nat.le_refl _) _).trans (hb.mono (by omega)))
    clear hb
    go_wp2_with fail
    go_ret
    exact ⟨_, rfl, Lib.hid ⟨World.ownsRow_nil _ _ _ _, HB.out⟩⟩
  · obtain ⟨D, ho, hp, hsz⟩ := H.map.keys hid H.sorted
    have SO := Lib.hid (sortedC_any b l.length D _ w ho (by rw [hsz]; unfold maxLen; omega) (by rw [hsz]; omega))
    have HP := Lib.hid hp
    have HS := Lib.hid H.sorted
    clear H hid ho hp
    go_enter Tryz.func58, Tryz.ntmps58
    go_wp2_with fail
    refine (keysC_any _ _).mono ?_
    rintro e w3 ⟨rfl, rfl⟩
    go_wp2_with fail
    refine SO.out.mono ?_
    rintro e w4 ⟨v, ss, rfl, hq, hr, hz, hb⟩
    have RX := Lib.hid (show IdsAt w4 w.heap.size v (ids l) ∧ Below w.heap.size w w4 by
      have hn : ss.Perm (ids l) := hq.trans HP.out.symm
      have hnd : (ids l).Nodup := HS.out.imp fun h => Int.ne_of_lt h
      obtain ⟨m1, m2⟩ := sorted_of_merge (hn.nodup_iff.2 hnd)
      have e : ss.mergeSort (fun x y => decide (x ≤ y)) = ids l := sorted_ext m1 HS.out fun i => (m2 i).trans hn.mem_iff
      rw [e, hn.length_eq] at hr
      exact ⟨own_mono hr (by omega), ((Below.refl _ w).alloc (Nat.le_refl _) _).trans (hb.mono (by omega))⟩)
    clear hq hr hz hb SO
    go_wp2_with fail
    go_ret
    exact ⟨v, rfl, RX⟩
end Go.Proofs.YtkdpcnikgdbmaaaGreatDoor.Hp
namespace Go.Proofs.YtkdpcnikgdbmaaaGreatDoor.Hp
open Go Go.RowKit Go.Maps Go.Sort Go.Shelf Va

def nilVal : Val := ⟨1, 0, ⟨#[]⟩⟩
/-- A weak cell whose target goes loses it. -/
def cleanC (gone : List Int) (c : Cel) : Cel := if c.kind = 4 then match c.items with
  | [v] => if v.k = 5 ∧ v.n ∈ gone then c.put 0 nilVal else c
  | _ => c
  else c
def dropL (gone : List Int) (l : List Ent) : List Ent := l.filter fun e => !decide (e.1 ∈ gone)
def cleanL (gone : List Int) (l : List Ent) : List Ent := l.map fun e => (e.1, cleanC gone e.2)
theorem ids_dropL (gone : List Int) (l : List Ent) : ids (dropL gone l) = (ids l).filter fun i => !decide (i ∈ gone) := by
  unfold ids dropL
  rw [List.filter_map]
  rfl
theorem ids_cleanL (gone : List Int) (l : List Ent) : ids (cleanL gone l) = ids l := by
  unfold ids cleanL
  rw [List.map_map]
  exact List.map_congr_left fun _ _ => rfl
theorem dropL_snoc (gone : List Int) (i : Int) (l : List Ent) : dropL (gone ++ [i]) l = (dropL gone l).filter fun e => !decide (e.1 = i) := by
  unfold dropL
  rw [List.filter_filter]
  refine List.filter_congr fun e _ => ?_
  by_cases h1 : e.1 ∈ gone <;> by_cases h2 : e.1 = i <;> simp [h1, h2]
theorem dropL_nil (l : List Ent) : dropL [] l = l := by
  unfold dropL
  rw [List.filter_eq_self]
  intro e _; simp
theorem strike_len (l : List Ent) (i : Int) (hn : (ids l).Nodup) : (l.filter fun e => !decide (e.1 = i)).length + (if i ∈ ids l then 1 else 0) = l.length := by
  induction l with
  | nil => simp [ids]
  | cons e l ih =>
    unfold ids at hn ih ⊢
    rw [List.map_cons, List.nodup_cons] at hn
    have := ih hn.2
    by_cases h : e.1 = i
    · subst h
      rw [List.filter_cons_of_neg (by simp)]
      rw [if_neg hn.1] at this
      rw [if_pos (by simp), List.length_cons]; omega
    · rw [List.filter_cons_of_pos (by simp [h])]
      by_cases hm : i ∈ l.map Prod.fst
      · rw [if_pos hm] at this
        rw [if_pos (by simp [hm]), List.length_cons, List.length_cons]; omega
      · rw [if_neg hm] at this
        rw [if_neg (by simp only [List.map_cons, List.mem_cons, not_or]; exact ⟨fun e' => h e'.symm, hm⟩), List.length_cons, List.length_cons]; omega
theorem ids_strike (l : List Ent) (i : Int) : ids (l.filter fun e => !decide (e.1 = i)) = (ids l).filter fun j => !decide (j = i) := by
  unfold ids
  rw [List.filter_map]
  rfl
theorem MapD.del {D : DataW Unit} {l : List Ent} {f : Int → Hd} (h : MapD D l f) (ht : Tidy D) (hn : (ids l).Nodup) {i : Int} (hi : I64 i) : MapD (D.del (.int .i64 i)) (l.filter fun e => !decide (e.1 = i)) f := by
  refine ⟨fun j hj => ?_, fun j hj => ?_, ?_⟩
  · rw [ids_strike]
    by_cases e : j = i
    · subst e
      rw [atKey_del_same, if_neg (by simp)]
    · rw [atKey_del_other (fun h => e (Lit.int.inj h).2), h.at_ j hj]
      simp [e]
  · rw [ids_strike]
    by_cases e : j = i
    · subst e
      rw [has_del_same]; simp
    · rw [has_del_other (fun h => e (Lit.int.inj h).2), h.has_ j hj]
      simp [e]
  · have h1 := size_del (k := .int .i64 i) ht
    have h2 := strike_len l i hn
    rw [h.has_ i hi, h.size_] at h1
    by_cases hm : i ∈ ids l
    · rw [if_pos (decide_eq_true hm)] at h1; rw [if_pos hm] at h2; omega
    · rw [if_neg (by simp [hm])] at h1; rw [if_neg hm] at h2; omega
/-- Fewer cells, the same places. -/
theorem HeapA.strike {w w' : World} {F : Nat → Prop} {p b n : Nat} {f : Int → Hd} {l : List Ent} {next i : Int} {D : DataW Unit} (H : HeapA w F p (some b) f l next) (hFb : F b) (ho : w.ownsMap Tryz.prog 3 ptrElem b n D) (hD : MapD D l f) (hi : I64 i)
    (h' : w'.ownsMap Tryz.prog 3 ptrElem b n (D.del (.int .i64 i))) (hg : w.grownBy w' (some b)) : HeapA w' F p (some b) f (l.filter fun e => !decide (e.1 = i)) next := by
  have hs : (ids l).Nodup := H.sorted.imp fun h => Int.ne_of_lt h
  have hD' := hD.del (ho.tidy intLaw) hs hi
  have ne : ∀ {g : Nat} {cur : Array Value} {T : TypeId}, w.heap[g]? = some (.cells cur T (0, 0)) → w'.heap[g]? = w.heap[g]? := fun {g cur T} h => by
    refine hg.block g (Array.getElem?_eq_some_iff.1 h).1 fun e => ?_
    cases e
    obtain ⟨es, cl, h2⟩ := own_isMap ho
    rw [h] at h2; cases h2
  refine ⟨(ne H.top).trans H.top, H.fp, .inr ⟨b, _, rfl, hFb, ?_, hD'⟩, fun e he => ?_, fun e he e' he' => ?_, ?_, H.fits⟩
  · have := own_tight h'
    rw [hD'.size_] at this; exact this
  · have ce := H.cells e (List.mem_filter.1 he).1
    exact ⟨ce.1.keep fun g hg => by obtain ⟨cur, T, h⟩ := ce.1.isCells hg; exact ne h, ce.2⟩
  · exact H.apart e (List.mem_filter.1 he).1 e' (List.mem_filter.1 he').1
  · rw [ids_strike]; exact H.sorted.filter _
/-- The cells, those with a key that has passed cleaned. -/
def partL (gone : List Int) (left : Lit → Bool) (l : List Ent) : List Ent := l.map fun e => if left (.int .i64 e.1) = true then e else (e.1, cleanC gone e.2)
theorem ids_partL (gone : List Int) (left : Lit → Bool) (l : List Ent) : ids (partL gone left l) = ids l := by
  unfold ids partL
  rw [List.map_map]
  refine List.map_congr_left fun e _ => ?_
  show (if left (.int .i64 e.1) = true then e else (e.1, cleanC gone e.2)).1 = e.1
  split <;> rfl
theorem partL_start (gone : List Int) (left : Lit → Bool) (l : List Ent) (h : ∀ i ∈ ids l, left (.int .i64 i) = true) : partL gone left l = l := by
  unfold partL
  refine (List.map_congr_left fun e he => ?_).trans (List.map_id l)
  rw [if_pos (h _ (List.mem_map.2 ⟨e, he, rfl⟩))]; rfl
theorem partL_end (gone : List Int) (left : Lit → Bool) (l : List Ent) (h : ∀ kl, left kl = false) : partL gone left l = cleanL gone l := by
  unfold partL cleanL
  refine List.map_congr_left fun e _ => ?_
  rw [h, if_neg (by simp)]
theorem partL_step {gone : List Int} {left : Lit → Bool} {l : List Ent} (hs : (ids l).Pairwise (· < ·)) {i : Int} {c : Cel} (hm : (i, c) ∈ l) : partL gone (fun z => left z && !z.sameKey (.int .i64 i)) l = setC (partL gone left l) i (cleanC gone c) := by
  unfold partL setC
  rw [List.map_map]
  refine List.map_congr_left fun e he => ?_
  obtain ⟨j, c'⟩ := e
  show (if (left (.int .i64 j) && !(Lit.int .i64 j).sameKey (.int .i64 i)) = true then (j, c') else (j, cleanC gone c')) = if (if left (.int .i64 j) = true then (j, c') else (j, cleanC gone c')).1 = i then (i, cleanC gone c) else if left (.int .i64 j) = true then (j, c') else (j, cleanC gone c')
  by_cases h : j = i
  · subst h
    obtain rfl := mem_uniq hs he hm
    have e1 : (if left (.int .i64 j) = true then (j, c') else (j, cleanC gone c')).1 = j := by split <;> rfl
    rw [if_pos e1, if_neg (by simp [Lit.sameKey])]
  · by_cases hl : left (.int .i64 j) = true
    · simp [hl, h, Lit.sameKey]
    · simp [hl, h]
theorem partL_mem {gone : List Int} {left : Lit → Bool} {l : List Ent} {i : Int} {c : Cel} (hm : (i, c) ∈ l) (hl : left (.int .i64 i) = true) : (i, c) ∈ partL gone left l :=
  List.mem_map.2 ⟨(i, c), hm, if_pos hl⟩
theorem setC_same {l : List Ent} (hs : (ids l).Pairwise (· < ·)) {i : Int} {c : Cel} (hm : (i, c) ∈ l) : setC l i c = l := by
  unfold setC
  refine (List.map_congr_left fun e he => ?_).trans (List.map_id l)
  obtain ⟨j, c'⟩ := e
  by_cases h : j = i
  · subst h
    obtain rfl := mem_uniq hs he hm
    exact if_pos rfl
  · exact if_neg h
end Go.Proofs.YtkdpcnikgdbmaaaGreatDoor.Hp
namespace Go.Proofs.YtkdpcnikgdbmaaaGreatDoor.Hp
open Go Go.RowKit Go.Maps Go.Sort Go.Shelf Va

/-- A row of ids that is read. -/
def IntsAt (w : World) (P : Nat → Prop) (A : Option Addr) (r : List Int) : Prop := ∀ j i, r[j]? = some i → ∃ b, A = some ⟨b, 0, none⟩ ∧ P b ∧ w.cell? ⟨b, j, none⟩ = some (.int .i64 i)
theorem IntsAt.keep {w w' : World} {P Q : Nat → Prop} {A : Option Addr} {r : List Int} (h : IntsAt w P A r) (hk : ∀ b, P b → Q b ∧ w'.heap[b]? = w.heap[b]?) : IntsAt w' Q A r := fun j i hj => by
  obtain ⟨b, rfl, hb, hc⟩ := h j i hj
  exact ⟨b, rfl, (hk _ hb).1, (World.cell?_of_block (a := ⟨b, j, none⟩) (hk _ hb).2).trans hc⟩
theorem IdsAt.ints {w : World} {base : Nat} {v : Value} {r : List Int} (h : IdsAt w base v r) : ∃ A c, v = .slice A r.length c ∧ IntsAt w (fun g => v.ownBlock = some g) A r := by
  unfold IdsAt at h
  rcases h.2 with ⟨rfl, h0⟩ | ⟨g, cap, cur, rfl, _⟩
  · refine ⟨none, 0, by rw [h0], fun j x hx => ?_⟩
    obtain rfl : r = [] := List.length_eq_zero_iff.1 h0
    cases hx
  · refine ⟨_, _, rfl, fun j x hx => ⟨g, rfl, rfl, ?_⟩⟩
    have hj := (List.getElem?_eq_some_iff.1 hx).1
    rw [World.ownsRow.cellAt h j (by omega), List.getElem?_map, hx]
    rfl
theorem search_any (P : Nat → Prop) (A : Option Addr) (r : List Int) (n c : Nat) (x : Int) (w : World) (hn : r.length = n) (h : IntsAt w P A r) (h0 : 0 < n) (hn' : n ≤ 4398046511104) (hs : r.Pairwise (· < ·)) :
    Calls Tryz.prog 96 #[.slice A n c, .int .i64 x] w fun e w' => ∃ i : Int, e = .returned (.tuple #[.int .i64 i, .bool (decide (x ∈ r))]) ∧ Below w.heap.size w w' := by
  subst hn
  obtain ⟨b, rfl, _, _⟩ := h 0 _ (List.getElem?_eq_getElem h0)
  refine (Tryz.slices_BinarySearch_int b 0 r.length c r x w (Nat.le_refl _) (by omega) (fun j hj => ?_) (by rw [List.take_length]; exact hs.imp Int.le_of_lt)).mono ?_
  · obtain ⟨b', e, _, hc⟩ := h j _ (List.getElem?_eq_getElem hj)
    simp only [Option.some.injEq, Addr.mk.injEq, and_true] at e
    subst e
    rw [Nat.zero_add, hc, List.getD_eq_getElem?_getD, List.getElem?_eq_getElem hj]; rfl
  · rintro e w' ⟨rfl, q, rfl⟩
    rw [List.take_length]
    refine ⟨((r.countP (· < x) : Nat) : Int), ?_, ⟨rfl, rfl, rfl, Nat.le_refl _, fun _ _ => rfl⟩⟩
    rw [show r.contains x = decide (x ∈ r) by rw [Bool.eq_iff_iff]; simp]
def ptrV : Option Nat → Value
  | none => .pointer none
  | some b => .pointer (some ⟨b, 0, none⟩)
theorem ptrV_inv (v : Value) (y : DataW Unit × List MemPlace) (h : ptrElem v = some y) : ∃ c, v = ptrV c := by
  unfold ptrElem at h
  split at h
  · exact ⟨none, rfl⟩
  · exact ⟨some _, rfl⟩
  · cases h
theorem intK_inv (key : Value) (kl : Lit) (h : keyOf Tryz.prog 3 key = some kl) : ∃ x, key = encZ x := by
  obtain ⟨x, hx, _⟩ := Maps.keyOf_i64 Tryz.underlying3 h
  exact ⟨x, hx⟩
theorem wf_I64 {n : Int} (h : (Lit.int .i64 n).wf = true) : I64 n := by
  have h3 : IntKind.i64.min = -9223372036854775808 := rfl
  have h4 : IntKind.i64.max = 9223372036854775807 := rfl
  simp [Lit.wf, h3, h4] at h
  exact h
theorem store3_grown (w : World) (b i j k : Nat) (x y z : Value) : w.grownBy (((w.setCell ⟨b, i, none⟩ x).setCell ⟨b, j, none⟩ y).setCell ⟨b, k, none⟩ z) (some b) :=
  ⟨rfl, rfl, rfl, by simp [World.setCell], fun g _ hne => by
    have h : g ≠ b := fun e => hne (by rw [e])
    rw [set_other _ _ _ _ g h, set_other _ _ _ _ g h, set_other _ _ _ _ g h]⟩
theorem cleanC_kind {gone : List Int} {c : Cel} (h : c.kind ≠ 4) : cleanC gone c = c := by unfold cleanC; rw [if_neg h]
theorem cleanC_one {gone : List Int} {c : Cel} {v : Val} (h : c.kind = 4) (hi : c.items = [v]) : cleanC gone c = if v.k = 5 ∧ v.n ∈ gone then c.put 0 nilVal else c := by
  unfold cleanC; rw [if_pos h]
  split
  · rename_i v' e
    rw [hi] at e
    injection e with e
    subst e; rfl
  · rename_i e
    exact absurd hi (e v)
theorem cleanC_nil (c : Cel) : cleanC [] c = c := by
  unfold cleanC
  split
  · split
    · rw [if_neg (by simp)]
    · rfl
  · rfl
theorem cleanL_nil (l : List Ent) : cleanL [] l = l := by
  unfold cleanL
  refine (List.map_congr_left fun e _ => ?_).trans (List.map_id l)
  rw [cleanC_nil]; rfl
theorem ranges_below {w w' : World} {P : Program} {k : TypeId} {R : Value → Option (DataW Unit × List MemPlace)} {b r n cnt : Nat} {D : DataW Unit} {left : Lit → Bool} (h : w.ranges P k R b r n D left cnt) (hb : Below w.heap.size w w') : w'.ranges P k R b r n D left cnt :=
  h.kept (row := none) ⟨hb.os, hb.tape, hb.output, hb.size, fun k hk _ => hb.block k hk⟩ (by simp) (by simp)
set_option maxRecDepth 100000 in
set_option maxHeartbeats 4000000 in
theorem remove_any (F P : Nat → Prop) (p b : Nat) (f : Int → Hd) (l : List Ent) (next : Int) (gone : List Int) (A : Option Addr) (n c : Nat) (w : World) (H : HeapA w F p (some b) f l next) (hF : ∀ g, F g → g < w.heap.size) (hn : gone.length = n) (hn' : n ≤ 4398046511104) (hg : ∀ i ∈ gone, I64 i) (hs : gone.Pairwise (· < ·)) (hid : ∀ i ∈ ids l, I64 i) (hA : IntsAt w P A gone) (hP : ∀ g, P g → g < w.heap.size ∧ ¬ F g)
    (hwk : ∀ e ∈ l, e.2.kind = 4 → ∃ v, e.2.items = [v] ∧ I64 v.n) :
    Calls Tryz.prog 70 #[.pointer (some ⟨p, 0, none⟩), .slice A n c] w fun e w' => e = .returned (.tuple #[]) ∧ Hid (HeapA w' F p (some b) f (cleanL gone (dropL gone l)) next ∧ Frm F w w') := by
  subst hn
  have HH := Lib.hid H
  have HF := Lib.hid hF
  have HG := Lib.hid hg
  have HS := Lib.hid hs
  have HI := Lib.hid hid
  have HW := Lib.hid hwk
  have AA := Lib.hid (fun (w' : World) (hf : Frm F w w') => hA.keep (w' := w') (Q := P) fun g hg => ⟨hg, hf.block g (hP g hg).1 (hP g hg).2⟩)
  clear H hF hg hs hid hwk hA hP
  go_enter Tryz.func70, Tryz.ntmps70
  go_wp2_with fail
  go_loopw [12] (fun i wr => ∃ q : Nat, q ≤ gone.length ∧ i = .int .i64 q ∧ Hid (HeapA wr F p (some b) f (dropL (gone.take q) l) next) ∧ Hid (Frm F w wr)) (fun i _ => gone.length - (intOf i).toNat)
  case atStart => exact ⟨0, by omega, rfl, Lib.hid (by rw [List.take_zero, dropL_nil]; exact HH.out), Lib.hid (Frm.of_below (Below.refl _ _))⟩
  case round =>
    obtain ⟨q, hq, rfl, hheap, hfr⟩ := hrel
    by_cases hlt : q < gone.length
    · have hg := List.getElem?_eq_getElem hlt
      obtain ⟨g, rfl, hPg, hc⟩ := AA.out _ hfr.out q _ hg
      have TK := Lib.hid (List.take_succ_eq_append_getElem hlt)
      have IV := HG.out _ (List.getElem_mem hlt)
      have ki : (q : Int) < gone.length := by omega
      generalize gone[q] = id at *
      clear hg
      have p0 := hheap.out.top.cell 0 _ rfl
      have hm := hheap.out.map
      rcases hm with ⟨h', _⟩ | ⟨b', D0, hb', hFb, ho, hD⟩
      · cases h'
      obtain rfl : b = b' := Option.some.inj hb'
      have KX := Lib.hid (key_int IV)
      have ST := Lib.hid (fun (w3 : World) (h : w3.ownsMap Tryz.prog 3 ptrElem b (dropL (gone.take q) l).length (D0.del (.int .i64 id))) (hg : wr.grownBy w3 (some b)) => hheap.out.strike hFb ho hD IV h hg)
      have FB := Lib.hid hFb
      clear hb' hD hFb
      go_wp2_with (at_delete; refine wpList_delete_own _ rfl _ _ 97 3 rfl 101 intLaw Tryz.underlying97 ptrElem b _ D0 rfl ho _ _ rfl KX.out ?_)
      intro w3 ho1 hg1
      have H3 := Lib.hid (show HeapA w3 F p (some b) f (dropL (gone.take (q + 1)) l) next by rw [TK.out, dropL_snoc]; exact ST.out w3 ho1 hg1.grown)
      have F3 := Lib.hid (hfr.out.grown hg1.grown FB.out)
      clear ho ho1 hg1 ST
      go_wp2_with fail
      go_roundw
      case rel => exact ⟨q + 1, by omega, by go_num, H3, F3⟩
      case measure => simp [intOf]; omega
    · obtain rfl : q = gone.length := by omega
      have H2 := Lib.hid (show HeapA wr F p (some b) f (dropL gone l) next by have := hheap.out; rwa [List.take_length] at this)
      clear hheap
      rcases Nat.eq_zero_or_pos gone.length with h0 | h0
      · obtain rfl := List.eq_nil_of_length_eq_zero h0
        clear h0
        go_wp2_with fail
        refine bodyPost_ret (results_none rfl _ _ _) rfl ?_
        exact ⟨rfl, Lib.hid ⟨by rw [cleanL_nil]; exact H2.out, hfr.out⟩⟩
      · have h0i : (((gone.length : Nat) : Int) == 0) = false := by simp; intro e; rw [e] at h0; simp at h0
        have p0 := H2.out.top.cell 0 (.map (some b)) rfl
        have hm := H2.out.map
        rcases hm with ⟨h', _⟩ | ⟨b', D0, hb', hFb, ho, hD⟩
        · cases h'
        obtain rfl : b = b' := Option.some.inj hb'
        have HO := Lib.hid ho
        have HD := Lib.hid hD
        have FB := Lib.hid hFb
        have SL := Lib.hid (show (ids (dropL gone l)).Pairwise (· < ·) from H2.out.sorted)
        have IL := Lib.hid (fun e (he : e ∈ dropL gone l) => (List.mem_filter.1 he).1)
        have IDL := Lib.hid (show ∀ i ∈ ids (dropL gone l), I64 i from fun i hi => HI.out i (by rw [ids_dropL] at hi; exact (List.mem_filter.1 hi).1))
        have wsz := hfr.out.size
        clear hb' hFb ho hD hq hlt
        generalize hl2 : dropL gone l = l2 at *
        have HL2 := Lib.hid hl2
        clear hl2
        go_wp2_with (at_range; refine wpList_range_own _ rfl _ 97 rfl 3 101 intLaw Tryz.underlying97 ptrElem b _ D0 rfl HO.out ?_)
        intro w0 hrg0 hg0 hs0
        have R0 := Lib.hid hrg0
        have F0 := Lib.hid (show Frm F w w0 from hfr.out.then ⟨hg0.os, hg0.tape, hg0.output, hg0.size, fun k hk _ => hg0.block k hk (by simp)⟩)
        have H0 := Lib.hid (show HeapA w0 F p (some b) f (partL gone (Maps.has D0) l2) next by
          rw [partL_start _ _ _ (fun i hi => by rw [HD.out.has_ i (IDL.out i hi)]; simp [hi])]
          exact H2.out.keep fun g hg => ⟨hg, hg0.block g (by have := HF.out g hg; omega) (by simp)⟩)
        clear hrg0 hg0 hs0 hfr H2 p0 HO
        generalize wr.heap.size = rb at *
        go_wp2_with fail
        go_loopw [7] (fun _ wr2 => ∃ (left : Lit → Bool) (cnt : Nat), Hid (wr2.ranges Tryz.prog 3 ptrElem b rb l2.length D0 left cnt) ∧ Hid (HeapA wr2 F p (some b) f (partL gone left l2) next) ∧ Hid (Frm F w wr2)) (fun _ wr2 => wr2.rangeLeft b rb)
        case atStart => exact ⟨_, _, R0, H0, F0⟩
        case round =>
          obtain ⟨left, cnt, hrg, hhp, hfr⟩ := hrel
          go_wp2_with (at_next; refine wpList_next_ranges _ rfl _ rfl 3 intLaw ptrElem encZ ptrV intK_inv ptrV_inv b rb l2.length D0 left cnt rfl hrg.out ?_ ?_)
          · intro hc0 hl0
            have HE := Lib.hid (show HeapA wr F p (some b) f (cleanL gone l2) next by rw [← partL_end gone left l2 hl0]; exact hhp.out)
            go_wp2_with fail
            go_end0
            exact ⟨rfl, Lib.hid ⟨by rw [HL2.out]; exact HE.out, hfr.out⟩⟩
          · intro x cp kl y yp w3 cnt2 hkey hlk hv hat hrg2 hlt hg2 hs2 hen
            obtain ⟨x', ex, rfl, hwf⟩ := Maps.keyOf_i64 Tryz.underlying3 hkey
            obtain rfl : x = x' := encZ_inj ex
            have hx64 : I64 x := wf_I64 hwf
            have hmem : x ∈ ids l2 := by
              have h1 := has_true_of_atKey hat
              rw [HD.out.has_ x hx64] at h1
              simpa using h1
            have hpv : ptrV cp = .pointer (some ⟨(f x).b, 0, none⟩) := by
              have h1 := HD.out.at_ x hx64
              rw [hat .nil, if_pos hmem] at h1
              rw [h1] at hv
              exact ptrElem_lit hv
            rw [hpv] at hen ⊢
            obtain ⟨ee, hel, hex⟩ := List.mem_map.1 hmem
            obtain ⟨j, c0⟩ := ee
            simp only at hex
            subst hex
            have hrbF : ∀ g, F g → g ≠ rb := fun g hg => by have := HF.out g hg; omega
            have F3 := Lib.hid (show Frm F w w3 from ⟨hg2.os.trans hfr.out.os, hg2.tape.trans hfr.out.tape, hg2.output.trans hfr.out.output, Nat.le_trans hfr.out.size hg2.size, fun k hk hn => (hg2.block k (Nat.lt_of_lt_of_le hk hfr.out.size) fun e => by injection e with e; omega).trans (hfr.out.block k hk hn)⟩)
            have H3 := Lib.hid (show HeapA w3 F p (some b) f (partL gone left l2) next from hhp.out.keep fun g hg => ⟨hg, hg2.block g (by have := HF.out g hg; have := hfr.out.size; omega) (fun e => hrbF g hg (by injection e))⟩)
            have M3 := Lib.hid (show (j, c0) ∈ partL gone left l2 from partL_mem hel hlk)
            have PS := Lib.hid (partL_step (gone := gone) (left := left) SL.out hel)
            have PSO := Lib.hid (show (ids (partL gone left l2)).Pairwise (· < ·) by rw [ids_partL]; exact SL.out)
            have CK := Lib.hid (HW.out (j, c0) (IL.out _ hel))
            have R3 := Lib.hid hrg2
            have LT3 := Lib.hid (fun (w' : World) (h : w'.ranges Tryz.prog 3 ptrElem b rb l2.length D0 (fun z => left z && !z.sameKey (.int .i64 j)) cnt2) => show w'.rangeLeft b rb < wr.rangeLeft b rb by rw [h.left_eq, hrg.out.left_eq]; exact hlt)
            clear hkey hlk hv hat hrg2 hlt hg2 hs2 hpv hmem hel hwf ex hrg hhp hfr
            have C3 := Lib.hid (H3.out.of M3.out).2
            obtain ⟨A1, nc, B, ic, e1, e2, -, hV3⟩ := C3.out.rows
            have bk := C3.out.blk
            unfold rowC at bk
            rw [e2] at bk
            have k0 := bk.cell 0 (.int .i64 c0.kind) rfl
            have k5 := bk.cell 5 (.slice B c0.items.length ic) rfl
            clear bk e1
            by_cases hk4 : c0.kind = 4
            · obtain ⟨v, hiv, v64⟩ := CK.out hk4
              rw [hk4] at k0
              obtain ⟨vk, vn, vs⟩ := v
              rw [hiv] at hV3
              obtain ⟨ib, io, rfl, hib, x0, x1, x2⟩ := hV3 0 _ rfl
              have hI := C3.out.its
              rw [e2, hiv] at hI
              have ho : io = 0 := by
                rcases hI.2 with ⟨h, _⟩ | ⟨g, cap, cur, h, _⟩
                · cases h
                · cases h; rfl
              subst ho
              simp only [Nat.zero_mul, Nat.add_zero, Nat.zero_add] at x0 x1 x2
              have CO := Lib.hid (cleanC_one (gone := gone) hk4 hiv)
              have EI := Lib.hid e2
              have LI : c0.items.length = 1 := by rw [hiv]; rfl
              rw [LI] at k5
              have z0 := World.ownsRow.frozenAt hI 0
              have z1 := World.ownsRow.frozenAt hI 1
              have z2 := World.ownsRow.frozenAt hI 2
              clear CK hk4 hV3 hI hiv e2
              by_cases hv5 : vk = 5
              · subst hv5
                have SR := Lib.hid (search_any P A gone gone.length c vn w3 rfl (AA.out _ F3.out) h0 hn' HS.out)
                have il := Hd.lt_of C3.out hib
                have ibF := Lib.hid (H3.out.inF M3.out hib)
                go_wp2_with fail
                refine SR.out.mono ?_
                rintro e w4 ⟨iq, rfl, hb⟩
                have F4 := Lib.hid (F3.out.low hb)
                have H4 := Lib.hid (H3.out.low (fun g hg => by have := HF.out g hg; have := F3.out.size; omega) hb)
                have R4 := Lib.hid (ranges_below R3.out hb)
                have y0 := (hb.cell (p := ⟨ib, 0, none⟩) il).trans x0
                have y1 := (hb.cell (p := ⟨ib, 1, none⟩) il).trans x1
                have y2 := (hb.cell (p := ⟨ib, 2, none⟩) il).trans x2
                have y5 := (hb.cell (p := ⟨(f j).b, 5, none⟩) C3.out.blk.lt).trans k5
                have fz : ∀ i, w4.frozen? ⟨ib, i, none⟩ = w3.frozen? ⟨ib, i, none⟩ := fun i => by simp only [World.frozen?, hb.block ib il]
                have g0 := (fz _).trans z0
                have g1 := (fz _).trans z1
                have g2 := (fz _).trans z2
                clear x0 x1 x2 k0 k5 z0 z1 z2 fz hb SR
                by_cases hin : vn ∈ gone
                · rw [decide_eq_true hin]
                  have EQ := Lib.hid (show partL gone (fun z => left z && !z.sameKey (.int .i64 j)) l2 = setC (partL gone left l2) j (c0.put 0 nilVal) by rw [PS.out, CO.out, if_pos (by simp [hin])])
                  have PR := Lib.hid (put_result H4.out (fun g hg => by have := HF.out g hg; have := F4.out.size; omega) (Below.refl _ _) M3.out EI.out rfl 0 nilVal)
                  simp only [Nat.zero_mul, Nat.zero_add, nilVal] at PR
                  have R5 := Lib.hid (R4.out.kept (store3_grown w4 ib 0 1 2 (.int .i64 1) (.int .i64 0) (.string ⟨#[]⟩)) (fun e => by
                    obtain ⟨es, cl, h1⟩ := own_isMap R4.out.owns
                    obtain ⟨cur, T, h2⟩ := (H4.out.of M3.out).2.isCells hib
                    injection e with e
                    subst e
                    rw [h1] at h2; cases h2) (fun e => hrbF ib ibF.out (by injection e with e; exact e.symm)))
                  have F5 := Lib.hid (F4.out.then PR.out.2)
                  clear hin CO
                  go_wp2_with fail
                  first
                    | exact ⟨⟨_, cnt2, R5, by rw [EQ.out]; exact Lib.hid PR.out.1, F5⟩, LT3.out _ R5.out⟩
                    | (go_roundw
                       case rel => exact ⟨_, cnt2, R5, by rw [EQ.out]; exact Lib.hid PR.out.1, F5⟩
                       case measure => exact LT3.out _ R5.out)
                · rw [decide_eq_false hin]
                  have EQ := Lib.hid (show partL gone (fun z => left z && !z.sameKey (.int .i64 j)) l2 = partL gone left l2 by rw [PS.out, CO.out, if_neg (by simp [hin]), setC_same PSO.out M3.out])
                  clear hin CO
                  go_wp2_with fail
                  first
                    | exact ⟨⟨_, cnt2, R4, by rw [EQ.out]; exact H4, F4⟩, LT3.out _ R4.out⟩
                    | (go_roundw
                       case rel => exact ⟨_, cnt2, R4, by rw [EQ.out]; exact H4, F4⟩
                       case measure => exact LT3.out _ R4.out)
              · have hv5' : (vk != 5) = true := by simp [hv5]
                have EQ := Lib.hid (show partL gone (fun z => left z && !z.sameKey (.int .i64 j)) l2 = partL gone left l2 by rw [PS.out, CO.out, if_neg (by simp [hv5]), setC_same PSO.out M3.out])
                clear hv5
                go_wp2_with fail
                first
                  | exact ⟨⟨_, cnt2, R3, by rw [EQ.out]; exact H3, F3⟩, LT3.out _ R3.out⟩
                  | (go_roundw
                     case rel => exact ⟨_, cnt2, R3, by rw [EQ.out]; exact H3, F3⟩
                     case measure => exact LT3.out _ R3.out)
            · have hk4' : (c0.kind != 4) = true := by simp [hk4]
              have EQ := Lib.hid (show partL gone (fun z => left z && !z.sameKey (.int .i64 j)) l2 = partL gone left l2 by rw [PS.out, cleanC_kind hk4, setC_same PSO.out M3.out])
              clear CK hk4
              go_wp2_with fail
              first
                | exact ⟨⟨_, cnt2, R3, by rw [EQ.out]; exact H3, F3⟩, LT3.out _ R3.out⟩
                | (go_roundw
                   case rel => exact ⟨_, cnt2, R3, by rw [EQ.out]; exact H3, F3⟩
                   case measure => exact LT3.out _ R3.out)
end Go.Proofs.YtkdpcnikgdbmaaaGreatDoor.Hp
namespace Go.Proofs.YtkdpcnikgdbmaaaGreatDoor.Hp
open Go Go.RowKit Go.Maps Go.Sort Go.Shelf Va

theorem SeenI.again {w1 : World} {b : Nat} {l : List Int} {D : DataW Unit} {i : Int} (ht : Tidy D) (hi : I64 i) (hn : i ∈ l) (h1 : ∀ i, I64 i → D.atKey (.int .i64 i) (.lit (.bool false)) = .lit (.bool (decide (i ∈ l)))) (h2 : ∀ i, I64 i → Maps.has D (.int .i64 i) = decide (i ∈ l)) (h3 : Maps.size D = l.length)
    (h : w1.ownsMap Tryz.prog 3 (plainElem Tryz.prog 4) b (l.length + 1) (D.put (.int .i64 i) (.lit (.bool true)))) : SeenI w1 b l := by
  have hI := ht.isMap
  have hsz : Maps.size (D.put (.int .i64 i) (.lit (.bool true))) = l.length := by
    rw [size_put ht, if_pos (by rw [h2 i hi]; simp [hn]), h3]
  refine ⟨_, ?_, fun x hx => ?_, fun x hx => ?_, hsz⟩
  · obtain ⟨es, clock, hm, F, hs, hD⟩ := h
    refine ⟨es, clock, hm, F, ?_, hD⟩
    have : Maps.size (D.put (.int .i64 i) (.lit (.bool true))) = es.size := by rw [hD]; simp [Maps.size, length_sorted]
    omega
  · by_cases e : x = i
    · subst e
      rw [atKey_put_same hI (by trivial)]
      simp [hn]
    · rw [atKey_put_other (fun h => e (Lit.int.inj h).2), h1 x hx]
  · by_cases e : x = i
    · subst e
      rw [has_put_same hI (by trivial)]
      simp [hn]
    · rw [has_put_other (fun h => e (Lit.int.inj h).2), h2 x hx]
/-- What goes: the ids that are not kept. -/
def goneL (kp : List Int) (l : List Ent) : List Int := (ids l).filter fun i => !decide (i ∈ kp)
theorem infoI : (Tryz.prog.info? 3).map (fun i => (i.zero, i.size, i.bytes)) = some (some (.int .i64 0), 1, 8) := by kernel_rfl
set_option maxRecDepth 100000 in
set_option maxHeartbeats 4000000 in
theorem keep_any (F P : Nat → Prop) (p b : Nat) (f : Int → Hd) (l : List Ent) (next : Int) (kp : List Int) (A : Option Addr) (n c : Nat) (w : World) (H : HeapA w F p (some b) f l next) (hF : ∀ g, F g → g < w.heap.size) (hn : kp.length = n) (hn' : n ≤ 4398046511104) (hg : ∀ i ∈ kp, I64 i) (hid : ∀ i ∈ ids l, I64 i) (hcnt : l.length ≤ 100000) (hA : IntsAt w P A kp) (hP : ∀ g, P g → g < w.heap.size ∧ ¬ F g)
    (hwk : ∀ e ∈ l, e.2.kind = 4 → ∃ v, e.2.items = [v] ∧ I64 v.n) :
    Calls Tryz.prog 27 #[.pointer (some ⟨p, 0, none⟩), .slice A n c] w fun e w' => ∃ v, e = .returned v ∧ Hid (IdsAt w' w.heap.size v (goneL kp l) ∧ HeapA w' F p (some b) f (cleanL (goneL kp l) (dropL (goneL kp l) l)) next ∧ Frm F w w') := by
  subst hn
  have HH := Lib.hid H
  have HF := Lib.hid hF
  have HG := Lib.hid hg
  have HI := Lib.hid hid
  have HW := Lib.hid hwk
  have HC := Lib.hid hcnt
  have HLW := Lib.hid (fun (w' : World) (hb : Below w.heap.size w w') => H.low hF hb)
  have AA := Lib.hid (fun (w' : World) (hf : Below w.heap.size w w') => hA.keep (w' := w') (Q := P) fun g hg => ⟨hg, hf.block g (hP g hg).1⟩)
  have hmm := @run_makeMap Tryz.prog
  clear H hF hg hid hwk hA hP hcnt
  go_enter Tryz.func27, Tryz.ntmps27
  go_wp2_with fail
  have B0 := Lib.hid ((Below.refl _ w).alloc (Nat.le_refl _) (.map #[] 0))
  go_loopw [14] (fun i wr => ∃ (q : Nat) (T : List Int), q ≤ kp.length ∧ i = .int .i64 q ∧ Hid (SeenI wr w.heap.size T) ∧ Hid (T.Nodup ∧ ∀ i, i ∈ T ↔ i ∈ kp.take q ∧ i ∈ ids l) ∧ Hid (Below w.heap.size w wr)) (fun i _ => kp.length - (intOf i).toNat)
  case atStart => exact ⟨0, [], by omega, rfl, Lib.hid (SeenI.made w), Lib.hid ⟨List.nodup_nil, fun i => by simp⟩, B0⟩
  case round =>
    clear B0 hmm
    obtain ⟨q, T, hq, rfl, hseen, hset, hfr⟩ := hrel
    by_cases hlt : q < kp.length
    · have hg := List.getElem?_eq_getElem hlt
      obtain ⟨g, rfl, hPg, hc⟩ := AA.out _ hfr.out q _ hg
      have TK := Lib.hid (List.take_succ_eq_append_getElem hlt)
      have IV := HG.out _ (List.getElem_mem hlt)
      have ki : (q : Int) < kp.length := by omega
      generalize kp[q] = id at *
      clear hg
      have CA := Lib.hid (cell_any F p (some b) f l next id wr (HLW.out _ hfr.out) IV)
      go_wp2_with fail
      refine CA.out.mono ?_
      rintro e w2 ⟨rfl, rfl⟩
      by_cases hm : id ∈ ids l
      · rw [show ptrOf l f id = some ⟨(f id).b, 0, none⟩ from if_pos hm]
        have KX := Lib.hid (key_int IV)
        obtain ⟨D, ho, hD1, hD2, hD3⟩ := hseen.out
        have TL : T.length ≤ 100000 := Nat.le_trans (sub_len hset.out.1 fun i hi => ((hset.out.2 i).1 hi).2) (by rw [ids_len]; exact HC.out)
        have AF := Lib.hid (fun (w3 : World) (h : w3.ownsMap Tryz.prog 3 (plainElem Tryz.prog 4) w.heap.size (T.length + 1) (D.put (.int .i64 id) (.lit (.bool true)))) => show ∃ T', SeenI w3 w.heap.size T' ∧ T'.Nodup ∧ ∀ i, i ∈ T' ↔ i ∈ kp.take (q + 1) ∧ i ∈ ids l by
          rw [TK.out]
          by_cases hT : id ∈ T
          · refine ⟨T, SeenI.again (ho.tidy intLaw) IV hT hD1 hD2 hD3 h, hset.out.1, fun i => ?_⟩
            rw [hset.out.2 i, List.mem_append]
            constructor
            · rintro ⟨h1, h2⟩; exact ⟨.inl h1, h2⟩
            · rintro ⟨h1 | h1, h2⟩
              · exact ⟨h1, h2⟩
              · obtain rfl : i = id := by simpa using h1
                exact (hset.out.2 i).1 hT
          · refine ⟨T ++ [id], SeenI.after (ho.tidy intLaw) IV hT hD1 hD2 hD3 h, List.nodup_append.2 ⟨hset.out.1, by simp, fun a ha b hb e => ?_⟩, fun i => ?_⟩
            · obtain rfl : b = id := by simpa using hb
              exact hT (e ▸ ha)
            · rw [List.mem_append, List.mem_append, hset.out.2 i]
              constructor
              · rintro (⟨h1, h2⟩ | h1)
                · exact ⟨.inl h1, h2⟩
                · obtain rfl : i = id := by simpa using h1
                  exact ⟨.inr h1, hm⟩
              · rintro ⟨h1 | h1, h2⟩
                · exact .inl ⟨h1, h2⟩
                · exact .inr h1)
        have HO := Lib.hid ho
        clear hD1 hD2 hD3 hm CA ho
        go_wp2_with (at_mapUpdate; refine wpList_mapUpdate_own _ rfl _ _ _ 62 rfl 3 4 intLaw Tryz.underlying62 _ w.heap.size T.length _ rfl HO.out (by unfold maxLen; omega) _ _ _ rfl rfl KX.out _ [] (plainElem_bool Tryz.underlying4 true) ?_)
        intro w3 ho1 hg1
        obtain ⟨T2, S2, N2, M2⟩ := AF.out w3 ho1
        have S3 := Lib.hid S2
        have N3 := Lib.hid (And.intro N2 M2)
        have F3 := Lib.hid (hfr.out.grown hg1 hfr.out.size (fun k hk => by injection hk with hk; omega))
        clear ho1 hg1 S2 N2 M2 AF HO
        go_wp2_with fail
        go_roundw
        case rel => exact ⟨q + 1, T2, by omega, by go_num, S3, N3, F3⟩
        case measure => simp [intOf]; omega
      · rw [show ptrOf l f id = none from if_neg hm]
        have N3 := Lib.hid (show T.Nodup ∧ ∀ i, i ∈ T ↔ i ∈ kp.take (q + 1) ∧ i ∈ ids l from ⟨hset.out.1, fun i => by
          rw [TK.out, List.mem_append, hset.out.2 i]
          constructor
          · rintro ⟨h1, h2⟩; exact ⟨.inl h1, h2⟩
          · rintro ⟨h1 | h1, h2⟩
            · exact ⟨h1, h2⟩
            · obtain rfl : i = id := by simpa using h1
              exact absurd h2 hm⟩)
        clear hm CA
        go_wp2_with fail
        go_roundw
        case rel => exact ⟨q + 1, T, by omega, by go_num, hseen, N3, hfr⟩
        case measure => simp [intOf]; omega
    · obtain rfl : q = kp.length := by omega
      have SET := Lib.hid (show ∀ i, i ∈ T ↔ i ∈ kp ∧ i ∈ ids l by have := hset.out.2; rwa [List.take_length] at this)
      have ID := Lib.hid (ids_any F p (some b) f l next wr HC.out HI.out (HLW.out _ hfr.out))
      clear hset hq hlt
      go_wp2_with fail
      refine ID.out.mono ?_
      rintro e w2 ⟨v, rfl, hh⟩
      obtain ⟨hi, hb⟩ := hh.out
      obtain ⟨A2, c2, rfl, hI⟩ := hi.ints
      have wsz := hfr.out.size
      have HB2 := Lib.hid (hfr.out.trans (hb.mono wsz))
      have S2 := Lib.hid (hseen.out.keep (hb.block _ hseen.out.lt))
      have LB := Lib.hid (fun (g : Nat) (h : (Value.slice A2 (ids l).length c2).ownBlock = some g) => (World.ownsRow.lt hi g h))
      have I2 := Lib.hid hI
      clear hh hi hb hI hfr hseen ID
      have IDS := Lib.hid (show ∀ i ∈ ids l, I64 i from HI.out)
      have RL : (ids l).length ≤ 100000 := by rw [ids_len]; exact HC.out
      have GG := Lib.hid (show (ids l).filter (fun i => !decide (i ∈ T)) = goneL kp l from List.filter_congr fun i hi => by
        by_cases h : i ∈ kp <;> simp [SET.out i, h, hi])
      have wsz2 := HB2.out.size
      generalize hR : ids l = R at A2 c2 LB I2 RL IDS GG ⊢
      go_wp2_with fail
      obtain ⟨i0, hi0, hz0, hz1, hz2⟩ := info_parts infoI
      go_loopw [8, 28] (fun rv i wr => ∃ q : Nat, q ≤ R.length ∧ i = .int .i64 q ∧ Hid (IdsAt wr w2.heap.size rv ((R.take q).filter fun i => !decide (i ∈ T))) ∧ Hid (Below w2.heap.size w2 wr)) (fun _ i _ => R.length - (intOf i).toNat)
      case atStart => exact ⟨0, by omega, rfl, Lib.hid (World.ownsRow_nil _ _ _ _), Lib.hid (Below.refl _ _)⟩
      case round =>
        obtain ⟨q, hq, rfl, hrow, hfr⟩ := hrel
        by_cases hlt : q < R.length
        · have hg := List.getElem?_eq_getElem hlt
          obtain ⟨g, rfl, hPg, hc0⟩ := I2.out q _ hg
          have hc := (hfr.out.cell (p := ⟨g, q, none⟩) (LB.out g hPg).2).trans hc0
          have TK := Lib.hid (List.take_succ_eq_append_getElem hlt)
          have IV := IDS.out _ (List.getElem_mem hlt)
          have ki : (q : Int) < R.length := by omega
          generalize R[q] = id at *
          clear hg hc0
          have S3 := Lib.hid (S2.out.keep (hfr.out.block _ S2.out.lt))
          have LK := S3.out.look IV
          by_cases hm : id ∈ T
          · rw [decide_eq_true hm] at LK
            have EQ := Lib.hid (show (R.take (q + 1)).filter (fun i => !decide (i ∈ T)) = (R.take q).filter fun i => !decide (i ∈ T) by rw [TK.out, List.filter_append]; simp [hm])
            clear hm
            go_wp2_with fail
            go_roundw
            case rel => exact ⟨q + 1, by omega, by go_num, by rw [EQ.out]; exact hrow, hfr⟩
            case measure => simp [intOf]; omega
          · rw [decide_eq_false hm] at LK
            have EQ := Lib.hid (show (R.take (q + 1)).filter (fun i => !decide (i ∈ T)) = ((R.take q).filter fun i => !decide (i ∈ T)) ++ [id] by rw [TK.out, List.filter_append]; simp [hm])
            have GL : ((R.take q).filter fun i => !decide (i ∈ T)).length ≤ 100000 := Nat.le_trans (List.length_filter_le _ _) (by simp; omega)
            clear hm
            generalize ((R.take q).filter fun i => !decide (i ∈ T)) = G at *
            go_wp2_with (at_builtin; refine wpList_append_lies _ rfl _ _ 22 rfl w2.heap.size 3 i0 _ 1 8 Tryz.underlying22 hi0 hz0 hz1 hz2 rfl (by decide) _ _ _ rfl (World.ownsRow.alloc hrow.out _) ⟨wr.heap.size, 0, none⟩ 1 1 [.int .i64 id] rfl rfl (cell_one_new _ _ _) ?qa1 (by decide) ?qa2 ?qa3 ?qa4 _ rfl ?_)
            case qa1 => simp [Value.oneCell']
            case qa2 => unfold maxLen; omega
            case qa3 => omega
            case qa4 => have := hfr.out.size; simp; omega
            intro g1 cap1 w3 hown hgrow hat hlt3
            have R3 := Lib.hid (show IdsAt w3 w2.heap.size (.slice (some ⟨g1, 0, none⟩) (G.length + 1) cap1) (G ++ [id]) by
              unfold IdsAt
              rw [List.length_append, List.map_append]
              exact hown)
            have F3 := Lib.hid ((hfr.out.alloc hfr.out.size _).grown hgrow (by have := hfr.out.size; simp; omega) (fun k hk => (row_cells hrow.out hk).1))
            clear hown hgrow hat hlt3
            go_wp2_with fail
            go_roundw
            case rel => exact ⟨q + 1, by omega, by go_num, by rw [EQ.out]; exact R3, F3⟩
            case measure => simp [intOf]; omega
        · obtain rfl : q = R.length := by omega
          have RW := Lib.hid (show IdsAt wr w2.heap.size u8 (goneL kp l) by have := hrow.out; rw [List.take_length, GG.out] at this; exact this)
          obtain ⟨A3, c3, rfl, hI3⟩ := RW.out.ints
          have HBr := Lib.hid (HB2.out.trans (hfr.out.mono wsz2))
          have RG := Lib.hid (fun (g : Nat) (h : (Value.slice A3 (goneL kp l).length c3).ownBlock = some g) => World.ownsRow.lt RW.out g h)
          have GS := Lib.hid (show (goneL kp l).Pairwise (· < ·) from HH.out.sorted.filter _)
          have GL : (goneL kp l).length ≤ 100000 := Nat.le_trans (List.length_filter_le _ _) (by rw [ids_len]; exact HC.out)
          have RM := Lib.hid (remove_any F (fun g => (Value.slice A3 (goneL kp l).length c3).ownBlock = some g) p b f l next (goneL kp l) A3 (goneL kp l).length c3 wr (HLW.out _ HBr.out) (fun g hg => Nat.lt_of_lt_of_le (HF.out g hg) HBr.out.size) rfl (by omega) (fun i hi => HI.out i (List.mem_filter.1 hi).1) GS.out HI.out hI3 (fun g hg => ⟨(RG.out g hg).2, fun h => by have := HF.out g h; have := (RG.out g hg).1; omega⟩) HW.out)
          clear hrow hq hlt hI3 GS
          generalize (goneL kp l).length = m at *
          go_wp2_with fail
          refine RM.out.mono ?_
          rintro e w5 ⟨rfl, hh⟩
          have RX := Lib.hid (show IdsAt w5 w.heap.size (.slice A3 m c3) (goneL kp l) ∧ HeapA w5 F p (some b) f (cleanL (goneL kp l) (dropL (goneL kp l) l)) next ∧ Frm F w w5 from
            ⟨own_mono (own_same RW.out fun g hg => hh.out.2.block g (RG.out g hg).2 fun h => by have := HF.out g h; have := (RG.out g hg).1; omega) wsz2, hh.out.1, (Frm.of_below HBr.out).then hh.out.2⟩)
          clear hh RM
          go_wp2_with fail
          go_ret
          exact ⟨_, rfl, RX⟩
end Go.Proofs.YtkdpcnikgdbmaaaGreatDoor.Hp
namespace Go.Proofs.YtkdpcnikgdbmaaaGreatDoor.Hp
open Go Go.RowKit Go.Maps Go.Sort Go.Shelf Va

def sWeak : ByteArray := ⟨#[119, 101, 97, 107]⟩
def sAngled : ByteArray := ⟨#[60, 119, 101, 97, 107, 62]⟩
set_option maxHeartbeats 1000000 in
theorem describe_weak (F : Nat → Prop) (p : Nat) (mb : Option Nat) (f : Int → Hd) (l : List Ent) (next : Int) (v : Val) (c0 : Cel) (Cs Ns : Value) (w : World) (H : HeapA w F p mb f l next) (hF : ∀ g, F g → g < w.heap.size) (hid : I64 v.n) (hv : v.k = 5) (hm : (v.n, c0) ∈ l) (hk0 : c0.kind = 4) :
    Calls Tryz.prog 76 #[.pointer (some ⟨p, 0, none⟩), Cs, Ns, valV v] w fun e w' => e = .returned (.string sWeak) ∧ Below w.heap.size w w' := by
  have DE := Lib.hid (fun (w' : World) (hb : Below w.heap.size w w') => denoted_any F p mb f l next v w' (fun g hg => Nat.lt_of_lt_of_le (hF g hg) hb.size) (H.low hF hb) hid)
  rw [show denOf l f v = some ⟨(f v.n).b, 0, none⟩ by unfold denOf; rw [if_pos hv]; exact (H.of hm).1] at DE
  have bk := (H.of hm).2.blk
  unfold rowC at bk
  rw [hk0] at bk
  have KC := Lib.hid (fun (w' : World) (hb : Below w.heap.size w w') => (bk.low hb).cell 0 (.int .i64 4) rfl)
  clear H hF hm hk0 bk hid
  obtain ⟨vk, vn, vs⟩ := v
  simp only at hv
  subst hv
  unfold valV at *
  simp only at DE KC ⊢
  generalize (f vn).b = cb at *
  go_enter Tryz.func76, Tryz.ntmps76
  go_wp2_with fail
  refine (DE.out _ (by (repeat' (first | exact Below.refl _ _ | refine Below.alloc ?_ (by simp <;> omega) _)))).mono ?_
  rintro e w2 ⟨rfl, hb⟩
  have HB := Lib.hid (Below.trans (by (repeat' (first | exact Below.refl _ _ | refine Below.alloc ?_ (by simp <;> omega) _)) : Below w.heap.size w _) (hb.mono (by simp)))
  have k0 := KC.out _ HB.out
  clear hb DE KC
  go_wp2_with fail
  go_ret
  exact ⟨rfl, HB.out⟩
set_option maxHeartbeats 1000000 in
theorem show_weak (F : Nat → Prop) (p : Nat) (mb : Option Nat) (f : Int → Hd) (l : List Ent) (next : Int) (v : Val) (c0 : Cel) (Cs Ns : Value) (w : World) (H : HeapA w F p mb f l next) (hF : ∀ g, F g → g < w.heap.size) (hid : I64 v.n) (hv : v.k = 5) (hm : (v.n, c0) ∈ l) (hk0 : c0.kind = 4) :
    Calls Tryz.prog 29 #[.pointer (some ⟨p, 0, none⟩), Cs, Ns, valV v] w fun e w' => e = .returned (.string sAngled) ∧ Below w.heap.size w w' := by
  have DE := Lib.hid (fun (w' : World) (hb : Below w.heap.size w w') => describe_weak F p mb f l next v c0 Cs Ns w' (H.low hF hb) (fun g hg => Nat.lt_of_lt_of_le (hF g hg) hb.size) hid hv hm hk0)
  obtain ⟨vk, vn, vs⟩ := v
  simp only at hv
  subst hv
  clear H hF hm hk0 hid
  unfold valV at *
  simp only at DE ⊢
  go_enter Tryz.func29, Tryz.ntmps29
  go_wp2_with fail
  refine (DE.out _ (by (repeat' (first | exact Below.refl _ _ | refine Below.alloc ?_ (by simp <;> omega) _)))).mono ?_
  rintro e w2 ⟨rfl, hb⟩
  have HB := Lib.hid (Below.trans (by (repeat' (first | exact Below.refl _ _ | refine Below.alloc ?_ (by simp <;> omega) _)) : Below w.heap.size w _) (hb.mono (by simp)))
  clear hb DE
  go_wp2_with fail
  go_ret
  exact ⟨rfl, HB.out⟩
set_option maxHeartbeats 1000000 in
theorem show_str (p : Value) (n : Int) (s : ByteArray) (Cs Ns : Value) (w : World) :
    Calls Tryz.prog 29 #[p, Cs, Ns, valV ⟨4, n, s⟩] w fun e w' => e = .returned (.string s) ∧ Below w.heap.size w w' := by
  unfold valV
  simp only
  go_enter Tryz.func29, Tryz.ntmps29
  go_wp2_with fail
  go_ret
  exact ⟨rfl, by (repeat' (first | exact Below.refl _ _ | refine Below.alloc ?_ (by simp <;> omega) _))⟩
theorem ints_step {a b : List Int} {k : Nat} (h : k < a.length) (h' : k < b.length) : (a.take (k + 1) = b.take (k + 1)) ↔ (a.take k = b.take k ∧ a[k] = b[k]) := by
  rw [List.take_succ_eq_append_getElem h, List.take_succ_eq_append_getElem h']
  constructor
  · intro e
    have := List.append_inj e (by simp; omega)
    exact ⟨this.1, by simpa using this.2⟩
  · rintro ⟨e1, e2⟩
    rw [e1, e2]
set_option maxHeartbeats 1000000 in
theorem ints_any (P Q : Nat → Prop) (A B : Option Addr) (a b : List Int) (n c m d : Nat) (w : World) (hn : a.length = n) (hm : b.length = m) (hA : IntsAt w P A a) (hB : IntsAt w Q B b) (hl : n ≤ 4398046511104) (hm' : m ≤ 4398046511104) :
    Calls Tryz.prog 21 #[.slice A n c, .slice B m d] w fun e w' => e = .returned (.bool (decide (a = b))) ∧ Below w.heap.size w w' := by
  subst hn hm
  by_cases hlen : a.length = b.length
  · have HA := Lib.hid hA
    have HB := Lib.hid hB
    have hli : ((a.length : Int) != b.length) = false := by simp [hlen]
    have HL := Lib.hid hlen
    clear hA hB hlen
    go_enter Tryz.func21, Tryz.ntmps21
    go_wp2_with fail
    go_loopw [5] (fun i wr => ∃ q : Nat, q ≤ a.length ∧ i = .int .i64 q ∧ Hid (a.take q = b.take q) ∧ Hid (Below w.heap.size w wr)) (fun i _ => a.length - (intOf i).toNat)
    case atStart => exact ⟨0, by omega, rfl, Lib.hid rfl, Lib.hid (Below.refl _ _)⟩
    case round =>
      obtain ⟨q, hq, rfl, heq, hfr⟩ := hrel
      by_cases hlt : q < a.length
      · have hlt2 : q < b.length := by have := HL.out; omega
        obtain ⟨ga, rfl, _, ca0⟩ := HA.out q _ (List.getElem?_eq_getElem hlt)
        obtain ⟨gb, rfl, _, cb0⟩ := HB.out q _ (List.getElem?_eq_getElem hlt2)
        have ca := (hfr.out.cell (p := ⟨ga, q, none⟩) (cell_lt ca0)).trans ca0
        have cb := (hfr.out.cell (p := ⟨gb, q, none⟩) (cell_lt cb0)).trans cb0
        have ST := Lib.hid (ints_step hlt hlt2)
        have ki : (q : Int) < a.length := by omega
        have kj : (q : Int) < b.length := by omega
        generalize a[q] = x at *
        generalize b[q] = y at *
        clear ca0 cb0
        by_cases hxy : x = y
        · subst hxy
          have E2 := Lib.hid (ST.out.2 ⟨heq.out, rfl⟩)
          go_wp2_with fail
          go_region
          have F2 := Lib.hid hfr.out.drew
          go_wp2_with fail
          go_roundw
          case rel => exact ⟨q + 1, by omega, by go_num, E2, F2⟩
          case measure => simp [intOf]; omega
        · have E2 := Lib.hid (show decide (a = b) = false from decide_eq_false fun e => hxy (ST.out.1 (by rw [e])).2)
          have hxy' : (x != y) = true := by simp [hxy]
          clear hxy
          go_wp2_with fail
          go_region
          have F2 := Lib.hid hfr.out.drew
          go_wp2_with fail
          go_ret
          exact ⟨by rw [E2.out]; rfl, F2.out⟩
      · obtain rfl : q = a.length := by omega
        have E2 := Lib.hid (show decide (a = b) = true from decide_eq_true (by have := heq.out; rwa [List.take_length, HL.out, List.take_length] at this))
        go_wp2_with fail
        go_ret
        exact ⟨by rw [E2.out]; rfl, hfr.out⟩
  · have E : decide (a = b) = false := decide_eq_false (fun e => hlen (by rw [e]))
    rw [E]
    have hli : ((a.length : Int) != b.length) = true := by simp; omega
    clear hA hB E hlen
    go_enter Tryz.func21, Tryz.ntmps21
    go_wp2_with fail
    go_ret
    exact ⟨rfl, Below.refl _ _⟩
theorem lawRef_any (n : Int) (w : World) : Calls Tryz.prog 34 #[.int .i64 n] w fun e w' => e = .returned (valV ⟨5, n, ⟨#[]⟩⟩) ∧ Below w.heap.size w w' := by
  go_enter Tryz.func34, Tryz.ntmps34
  go_wp2_with fail
  (try simp only [Exit.inBlock, Exit.then])
  refine bodyPost_ret (v := .agg #[.int .i64 5, .int .i64 n, .string ⟨#[]⟩]) ?_ rfl ?_
  · exact results_cell_row rfl _ _ w.heap.size _ _ (0, 0) _ rfl (heap_alloc_new _ _) Tryz.underlying64 rfl (by kernel_rfl)
  · exact ⟨rfl, (Below.refl _ w).alloc (Nat.le_refl _) _⟩
theorem lawNum_any (n : Int) (w : World) : Calls Tryz.prog 35 #[.int .i64 n] w fun e w' => e = .returned (valV ⟨3, n, ⟨#[]⟩⟩) ∧ Below w.heap.size w w' := by
  go_enter Tryz.func35, Tryz.ntmps35
  go_wp2_with fail
  (try simp only [Exit.inBlock, Exit.then])
  refine bodyPost_ret (v := .agg #[.int .i64 3, .int .i64 n, .string ⟨#[]⟩]) ?_ rfl ?_
  · exact results_cell_row rfl _ _ w.heap.size _ _ (0, 0) _ rfl (heap_alloc_new _ _) Tryz.underlying64 rfl (by kernel_rfl)
  · exact ⟨rfl, (Below.refl _ w).alloc (Nat.le_refl _) _⟩
theorem lawText_any (s : ByteArray) (w : World) : Calls Tryz.prog 40 #[.string s] w fun e w' => e = .returned (valV ⟨4, 0, s⟩) ∧ Below w.heap.size w w' := by
  go_enter Tryz.func40, Tryz.ntmps40
  go_wp2_with fail
  (try simp only [Exit.inBlock, Exit.then])
  refine bodyPost_ret (v := .agg #[.int .i64 4, .int .i64 0, .string s]) ?_ rfl ?_
  · exact results_cell_row rfl _ _ w.heap.size _ _ (0, 0) _ rfl (heap_alloc_new _ _) Tryz.underlying64 rfl (by kernel_rfl)
  · exact ⟨rfl, (Below.refl _ w).alloc (Nat.le_refl _) _⟩
end Go.Proofs.YtkdpcnikgdbmaaaGreatDoor.Hp
