/-
  slices.Concat of two lists of strings.
  A shape more: grow of package shape.
  The keys of the map of transitions.
-/
import Derived.Test.YtjodmjadpooipaaGreatDoorKd
import Derived.Test.YtjodmjadpooipaaGreatDoorGen
import Derived.Deep.RegionLaw
import Derived.Deep.RegionHeld3
import Derived.Sort.KeysCollected
namespace Go.Proofs.YtjodmjadpooipaaGreatDoor.Sh
open Go Go.RowKit

theorem zeros_size (cs : Array Value) (n : Nat) : (Builtin.zeroCells cs n).size = n * cs.size := by simp [Builtin.zeroCells]
theorem grow0_any (n : Nat) (w : World) (hn : n ≤ 4194304) :
    Calls Tryz.prog 63 #[.slice none 0 0, .int .i64 n] w fun e w' => ∃ v, e = .returned v ∧ OwnS w' w.heap.size v [] ∧ Below w.heap.size w w' := by
  rcases Nat.eq_zero_or_pos n with rfl | h0
  · refine (Any8.slices_Grow_room Tryz.growS none 0 0 0 w (by omega) (by omega) (by omega) (by omega)).mono ?_
    rintro e w' ⟨rfl, rfl⟩
    exact ⟨_, rfl, OwnS.nil _ _, Below.refl _ _⟩
  · obtain ⟨i0, hi0, hz0, hz1, hz2⟩ := info_parts infoS
    refine (Any8.slices_Grow_grow Tryz.growS i0 (.string ⟨#[]⟩) hi0 hz0 (by rw [hz1]; decide) none 0 0 n [] w (by omega) (by omega) (by rw [hz2]; omega) (by omega) (by simp) (fun _ => rfl) (fun a e => by cases e)).mono ?_
    rintro e w' ⟨rfl, rfl⟩
    have hg := grownCap_ge w (0 + n) 0 (Tryz.growS_ren.t 25)
    have hm := grownCap_le_maxLen w (0 + n) 0 (Tryz.growS_ren.t 25) (by unfold maxLen; omega)
    refine ⟨_, rfl, World.ownsRow_made w.drew _ _ (Nat.le_refl _) hm ?_, ((Below.refl w.heap.size w).drew.alloc (Nat.le_refl _) _)⟩
    show ((#[] ++ _ ++ _ : Array Value)).size = _
    rw [Array.size_append, Array.size_append, zeros_size, zeros_size]
    simp only [Nat.zero_add] at hg ⊢
    simp [Value.cells]
    omega
/-- What owns its strings, by a block or none. -/
theorem OwnS.ld {w : World} {base : Nat} {v : Value} {ns : List ByteArray} (h : OwnS w base v ns) :
    ∃ l : Ld, v = .slice l.at ns.length l.nc ∧ (l.nA = none → l.nc = 0) ∧ SlS w (fun b => (base ≤ b ∧ b < w.heap.size) ∧ isStr w b) l.at ns := by
  have hf := h.form
  rcases h.2 with ⟨rfl, h0⟩ | ⟨g, cap, cur, rfl, hb, hg, hn, hm, hs, ht⟩
  · have : ns = [] := List.eq_nil_of_length_eq_zero h0
    subst this
    exact ⟨⟨none, 0⟩, rfl, fun _ => rfl, SlS.nil _ _ _⟩
  · obtain ⟨A, c, e, _, hS⟩ := hf
    injection e with e1 _ e3
    subst e1
    refine ⟨⟨some g, cap⟩, rfl, (fun e => by cases e), fun j z hz => ?_⟩
    obtain ⟨ad, e, hb, hc⟩ := hS j z hz
    injection e with e
    subst e
    exact ⟨_, rfl, ⟨hb, cur, hg⟩, hc⟩
set_option maxRecDepth 100000 in
set_option maxHeartbeats 4000000 in
theorem concat_any (P Q : Nat → Prop) (b : Nat) (A C : Option Addr) (xs ys ns : List ByteArray) (c d : Nat) (w : World) (hb : Bk w b #[.slice A xs.length c, .slice C ys.length d] 41) (h : SlS w P A xs) (h' : SlS w Q C ys) (hP : ∀ b, P b → b < w.heap.size) (hQ : ∀ b, Q b → b < w.heap.size)
    (hx : xs.length ≤ 2097152) (hy : ys.length ≤ 2097152) (hA : A = none → c = 0) (hC : C = none → d = 0) (hns : xs ++ ys = ns) :
    Calls Tryz.prog 55 #[.slice (some ⟨b, 0, none⟩) 2 2] w fun e w' => ∃ l : Ld, e = .returned (.slice l.at ns.length l.nc) ∧ (l.nA = none → l.nc = 0) ∧ SlS w' (fun b => (w.heap.size ≤ b ∧ b < w'.heap.size) ∧ isStr w' b) l.at ns ∧ Below w.heap.size w w' := by
  have bl : b < w.heap.size := hb.lt
  have e0 := hb.cell 0 _ rfl
  have e1 := hb.cell 1 _ rfl
  have hnl : xs.length + ys.length = ns.length := by rw [← hns, List.length_append]
  have nl : ns.length ≤ 4194304 := by omega
  obtain ⟨pre, hpre⟩ : ∃ pre : Nat → List ByteArray, pre = fun k => if k = 0 then [] else if k = 1 then xs else ns := ⟨_, rfl⟩
  have p0 : pre 0 = [] := by rw [hpre]; rfl
  have p1 : pre 1 = xs := by rw [hpre]; rfl
  have p2 : pre 2 = ns := by rw [hpre]; rfl
  have PT := Lib.hid (show ∀ k, k < 2 → ∃ D zs d', w.cell? ⟨b, k, none⟩ = some (.slice D zs.length d') ∧ SlS w (· < w.heap.size) D zs ∧ (D = none → d' = 0) ∧ pre (k + 1) = pre k ++ zs ∧ (pre k).length + zs.length ≤ 4194304 from fun k hk => by
    rcases (show k = 0 ∨ k = 1 by omega) with rfl | rfl
    · exact ⟨A, xs, c, e0, h.imp hP, hA, by rw [p0, p1]; rfl, by rw [p0]; simp; omega⟩
    · exact ⟨C, ys, d, e1, h'.imp hQ, hC, by rw [p1, p2, hns], by rw [p1]; omega⟩)
  have P0 := Lib.hid p0
  have P2 := Lib.hid p2
  have P1 := Lib.hid p1
  have HNL := Lib.hid hnl
  clear hpre p0 p1 p2 h h' hP hQ hA hC hb hns
  go_enter Tryz.func55, Tryz.ntmps55
  go_wp2_with fail
  go_loop [3, 11] (fun n i => ∃ k : Nat, k ≤ 2 ∧ i = .int .i64 k ∧ n = .int .i64 ((pre k).length : Nat)) (fun _ i => 2 - (intOf i).toNat)
  case atStart => exact ⟨0, by omega, rfl, by rw [P0.out]; rfl⟩
  case round =>
    obtain ⟨k, hk, rfl, rfl⟩ := hrel
    by_cases hlt : k < 2
    · obtain ⟨D, zs, d', ck, _, _, hn, hln⟩ := PT.out k hlt
      have HN := Lib.hid (show (pre (k + 1)).length = (pre k).length + zs.length by rw [hn, List.length_append])
      have hki : (k : Int) < 2 := by omega
      clear hn e0 e1
      generalize (pre k).length = a at *
      go_wp2_with fail
      go_round
      case rel => exact ⟨k + 1, by omega, by go_num, by rw [HN.out]; go_num⟩
      case measure => simp [intOf]; omega
    · obtain rfl : k = 2 := by omega
      rw [P2.out]
      clear e0 e1
      go_wp2_with fail
      refine (grow0_any ns.length w (by omega)).mono ?_
      rintro e w1 ⟨v, rfl, ho, hb1⟩
      have HO := Lib.hid ho
      have HB := Lib.hid hb1
      clear ho hb1
      obtain ⟨i0, hi0, hz0, hz1, hz2⟩ := info_parts infoS
      go_wp2_with fail
      go_loopw [6, 27] (fun v i wr => ∃ k : Nat, k ≤ 2 ∧ i = .int .i64 k ∧ Hid (OwnS wr w.heap.size v (pre k)) ∧ Hid (Below w.heap.size w wr)) (fun _ i _ => 2 - (intOf i).toNat)
      case atStart => exact ⟨0, by omega, rfl, Lib.hid (by rw [P0.out]; exact HO.out), HB⟩
      case round =>
        obtain ⟨k, hk, rfl, ho, hb⟩ := hrel
        by_cases hlt : k < 2
        · obtain ⟨D, zs, d', ck, hS, hD, hn, hln⟩ := PT.out k hlt
          have HN := Lib.hid hn
          have hki : (k : Int) < 2 := by omega
          have ck' : wr.cell? ⟨b, k, none⟩ = some (.slice D zs.length d') := (hb.out.cell (p := ⟨b, k, none⟩) bl).trans ck
          have hz := hb.out.size
          have hk1 : (pre k).length ≤ 4194304 := by omega
          rcases D with _ | ad
          · have h0 : zs = [] := by
              cases zs with
              | nil => rfl
              | cons x l => obtain ⟨ad, e, _⟩ := hS 0 x rfl; cases e
            subst h0
            obtain rfl : d' = 0 := hD rfl
            have HE := Lib.hid (show OwnS wr w.heap.size u6 (pre (k + 1)) by rw [HN.out, List.append_nil]; exact ho.out)
            clear hn hS hD ck
            go_wp2_with (at_builtin; refine wpList_append_own_none rfl _ _ 41 rfl w.heap.size 9 i0 1 Tryz.underlying41 hi0 _ _ _ rfl ho.out rfl ?_)
            go_roundw
            case rel => exact ⟨k + 1, by omega, by go_num, HE, hb⟩
            case measure => simp [intOf]; omega
          · have HS := Lib.hid (show SlS wr (· < w.heap.size) (some ad) zs from hS.low' (fun _ h => h) hb.out)
            clear hn hS hD ck
            go_wp2_with (at_builtin; refine wpList_append_own _ rfl _ _ 41 rfl w.heap.size 9 i0 (.string ⟨#[]⟩) 1 16 Tryz.underlying41 hi0 hz0 hz1 hz2 rfl (by decide) _ _ _ rfl ho.out ad zs.length d' (zs.map Value.string) rfl ?qc1 ?qc2 (onesS zs) (by unfold maxLen; omega) (by omega) hz ?qc)
            case qc1 => rw [List.length_map, Nat.mul_one]
            case qc2 =>
              intro j u hj
              rw [List.getElem?_map, Option.map_eq_some_iff] at hj
              obtain ⟨z, hz, rfl⟩ := hj
              obtain ⟨ad', e, _, hc⟩ := HS.out j z hz
              injection e with e
              subst e
              exact hc
            intro v' w2 hown hgrow _
            have HE := Lib.hid (show OwnS w2 w.heap.size v' (pre (k + 1)) by rw [HN.out]; unfold OwnS; rw [List.length_append, List.map_append]; exact hown)
            have HB2 := Lib.hid (hb.out.grown hgrow hz (fun j e => (World.ownsRow.lt ho.out j e).1))
            clear hown hgrow
            go_wp2_with fail
            go_roundw
            case rel => exact ⟨k + 1, by omega, by go_num, HE, HB2⟩
            case measure => simp [intOf]; omega
        · obtain rfl : k = 2 := by omega
          have hfin := ho.out
          rw [P2.out] at hfin
          obtain ⟨l, rfl, hl, hS⟩ := OwnS.ld hfin
          have HL := Lib.hid hl
          have HS := Lib.hid hS
          clear hfin hl hS
          go_wp2_with fail
          go_ret
          exact ⟨l, rfl, HL.out, HS.out, hb.out⟩
end Go.Proofs.YtjodmjadpooipaaGreatDoor.Sh
namespace Go.Proofs.YtjodmjadpooipaaGreatDoor.Sh
open Go Go.RowKit

theorem infoL : (Tryz.prog.info? 65).map (fun i => (i.zero, i.size, i.bytes)) = some (some (.agg #[.int .i64 0, .slice none 0 0, .int .i64 0]), 3, 40) := by kernel_rfl
theorem map_ne_own {H : Type} {w : World} {base : Nat} {e : TypeId} {size n mb k : Nat} {v : Value} {xs : List Value} {P : Program} {K : TypeId} {R : Value → Option (DataW H × List MemPlace)} {D : DataW H} (h : w.ownsRow base e size v n xs) (h' : w.ownsMap P K R mb k D) : v.ownBlock ≠ some mb := by
  obtain ⟨es, clock, hb, _⟩ := h'
  rcases h.2 with ⟨rfl, _⟩ | ⟨g, cap, cur, rfl, _, hg, _⟩
  · simp [Value.ownBlock]
  · intro e2
    simp only [Value.ownBlock, Option.some.injEq] at e2
    subst e2
    rw [hb] at hg; cases hg
theorem map_ne_bk {H : Type} {w : World} {mb k b : Nat} {cs : Array Value} {T : TypeId} {P : Program} {K : TypeId} {R : Value → Option (DataW H × List MemPlace)} {D : DataW H} (h : Bk w b cs T) (h' : w.ownsMap P K R mb k D) : b ≠ mb := by
  obtain ⟨es, clock, hb, _⟩ := h'
  intro e2
  subst e2
  unfold Bk at h
  rw [hb] at h; cases h
theorem str_ne_bk {w : World} {b p : Nat} {cs : Array Value} {T : TypeId} (h : Bk w p cs T) (h' : isStr w b) (hT : T ≠ 9) : b ≠ p := by
  obtain ⟨ds, hc⟩ := h'
  intro e
  subst e
  unfold Bk at h
  rw [hc] at h
  injection h with h
  injection h with _ h _
  exact hT h.symm
theorem lk_push (t : Tre) (k : Nat) (ns : List ByteArray) (f : Int) (nm : ByteArray) : lkC (t.push k ns) f nm = lkC t f nm := by
  unfold lkC
  rw [show (t.push k ns).sh f.toNat = if f.toNat = t.L.length then ⟨k, none, ns, []⟩ else t.sh f.toNat from sh_push t _ _ _]
  by_cases e : f.toNat = t.L.length
  · rw [if_pos e, e, sh_ge (Nat.le_refl _)]
    rfl
  · rw [if_neg e]
theorem pushC_at {w w' : World} {p : Nat} {t : Tre} {F : Nat → Prop} {vL vR : Value} {mb : Nat} {D : DataW Unit} {hd : Nat → Ld} (h : CodeAt w p t F vL vR mb D hd) {xs : List Value}
    (o : w.ownsRow 0 65 3 vL t.L.length xs) (hx : ∀ s, s < t.L.length → ∀ i u, (rowC (t.sh s) (hd s))[i]? = some u → xs[s * 3 + i]? = some u)
    {k g cap : Nat} {ns : List ByteArray} {l : Ld} (hz : w.heap.size ≤ w'.heap.size) (same : ∀ b, b < w.heap.size → b ≠ p → vL.ownBlock ≠ some b → w'.heap[b]? = w.heap[b]?)
    (hp' : Bk w' p #[.slice (some ⟨g, 0, none⟩) (t.L.length + 1) cap, vR, .map (some mb)] 70)
    (hrow : w'.ownsRow 0 65 3 (.slice (some ⟨g, 0, none⟩) (t.L.length + 1) cap) (t.L.length + 1) (xs ++ [.int .i64 k, .slice l.at ns.length l.nc, .int .i64 (-1)]))
    (hg : vL.ownBlock = some g ∨ (w.heap.size ≤ g ∧ g < w'.heap.size)) (hn : SlS w' (fun b => (w.heap.size ≤ b ∧ b < w'.heap.size) ∧ isStr w' b) l.at ns) (hl : l.nA = none → l.nc = 0) :
    CodeAt w' p (t.push k ns) (More F w w') (.slice (some ⟨g, 0, none⟩) (t.L.length + 1) cap) vR mb D (fun s => if s = t.L.length then l else hd s) := by
  have hL : (t.push k ns).L.length = t.L.length + 1 := by simp [Tre.push]
  have S : ∀ r, (t.push k ns).sh r = if r = t.L.length then ⟨k, none, ns, []⟩ else t.sh r := sh_push t _ _
  have sm : ∀ b, F b → b ≠ p → vL.ownBlock ≠ some b → w'.heap[b]? = w.heap[b]? := fun b hb => same b (h.lt b hb)
  refine ⟨fun b hb => ?_, hp', .inl h.fp, ⟨_, by rw [hL]; exact hrow, fun s hs i u hu => ?_⟩, fun b hb => ?_, ?_, fun b hb => .inl (h.fR b hb), fun s hs => ?_, fun s hs => ?_, ?_, fun f nm hf hn => ?_, .inl h.fM⟩
  · rcases hb with hb | hb
    · exact Nat.lt_of_lt_of_le (h.lt b hb) hz
    · exact hb.2
  · rw [hL] at hs
    dsimp only at hu
    rw [S] at hu
    have hlen : xs.length = t.L.length * 3 := o.1
    by_cases e : s = t.L.length
    · subst e
      rw [if_pos rfl, if_pos rfl] at hu
      rw [List.getElem?_append_right (by omega), show t.L.length * 3 + i - xs.length = i by omega]
      exact hu
    · rw [if_neg e, if_neg e] at hu
      have hi : i < 3 := by have := (List.getElem?_eq_some_iff.1 hu).1; exact this
      rw [List.getElem?_append_left (by omega)]
      exact hx s (by omega) i u hu
  · simp only [Value.ownBlock, Option.some.injEq] at hb
    subst hb
    rcases hg with hg | hg
    · exact .inl (h.fL g hg)
    · exact .inr hg
  · refine own_keep h.roots fun b hb => sm b (h.fR b hb) (fun e => ?_) (fun e => ?_)
    · subst e; exact bk_ne h.roots h.hp (by decide) hb
    · exact own_ne o h.roots (by decide) _ e hb
  · rw [hL] at hs
    rw [S]
    by_cases e : s = t.L.length
    · rw [if_pos e, if_pos e]
      exact hn.imp fun b hb => ⟨.inr hb.1, hb.2⟩
    · rw [if_neg e, if_neg e]
      exact (h.names s (by omega)).keep fun b hb => by
        have h3 := sm b hb.1 (str_ne_bk h.hp hb.2 (by decide)) (fun e => str_ne o hb.2 (by decide) e)
        obtain ⟨cs, hc⟩ := hb.2
        exact ⟨⟨.inl hb.1, ⟨cs, by rw [h3]; exact hc⟩⟩, h3⟩
  · rw [hL] at hs
    by_cases e : s = t.L.length
    · rw [if_pos e]; exact hl
    · rw [if_neg e]; exact h.nils s (by omega)
  · exact map_keep h.map (sm mb h.fM (fun e => map_ne_bk h.hp h.map e.symm) (map_ne_own o h.map))
  · rw [lk_push]; exact h.cont f nm hf hn
section
variable {w3 w5 w6 : World} {p : Nat} {t : Tre} {F : Nat → Prop} {vL vR : Value} {mb : Nat} {D : DataW Unit} {hd : Nat → Ld} (h : CodeAt w3 p t F vL vR mb D hd) {xs : List Value}
  (ho : w3.ownsRow 0 65 3 vL t.L.length xs)
  (B5 : Below w3.heap.size w3 w5) {o : Obj} (hgrow : (w5.alloc o).grownBy w6 vL.ownBlock)
include h ho B5 hgrow
omit h ho in
theorem pushC_other (b : Nat) (hb : b < w3.heap.size) (hne : vL.ownBlock ≠ some b) : w6.heap[b]? = w3.heap[b]? := by
  have h1 := B5.size
  rw [hgrow.block b (by rw [World.size_alloc]; omega) (fun e => hne e.symm), Below.heap_alloc _ _ _ (by omega), B5.block b hb]
theorem pushC_hdr : Bk w6 p #[vL, vR, .map (some mb)] 70 := by
  unfold Bk
  rw [pushC_other B5 hgrow p h.hp.lt (bk_ne ho h.hp (by decide))]; exact h.hp
theorem pushC_done (hs : Srt t) (hx : ∀ s, s < t.L.length → ∀ i u, (rowC (t.sh s) (hd s))[i]? = some u → xs[s * 3 + i]? = some u) {k g cap : Nat} {ns : List ByteArray} {l : Ld} (hl : l.nA = none → l.nc = 0)
    (SN : SlS w5 (fun b => (w3.heap.size ≤ b ∧ b < w5.heap.size) ∧ isStr w5 b) l.at ns)
    (hown : w6.ownsRow 0 65 3 (.slice (some ⟨g, 0, none⟩) (t.L.length + 1) cap) (t.L.length + 1) (xs ++ [.int .i64 k, .slice l.at ns.length l.nc, .int .i64 (-1)]))
    (hg : vL.ownBlock = some g ∨ g = w5.heap.size + 1) (hglt : g < w6.heap.size) :
    CodeH (w6.setCell ⟨p, 0, none⟩ (.slice (some ⟨g, 0, none⟩) (t.L.length + 1) cap)) p (t.push k ns) (More F w3 (w6.setCell ⟨p, 0, none⟩ (.slice (some ⟨g, 0, none⟩) (t.L.length + 1) cap))) ∧
    Chg F w3 (w6.setCell ⟨p, 0, none⟩ (.slice (some ⟨g, 0, none⟩) (t.L.length + 1) cap)) := by
  have hp6 := pushC_hdr h ho B5 hgrow
  have h1 := B5.size
  have h2 : w5.heap.size + 1 ≤ w6.heap.size := by have := hgrow.size; rw [World.size_alloc] at this; exact this
  have hz : (w6.setCell ⟨p, 0, none⟩ (.slice (some ⟨g, 0, none⟩) (t.L.length + 1) cap)).heap.size = w6.heap.size := by simp [World.setCell]
  have far : ∀ b, b ≠ p → (w6.setCell ⟨p, 0, none⟩ (.slice (some ⟨g, 0, none⟩) (t.L.length + 1) cap)).heap[b]? = w6.heap[b]? := fun b hb => Below.heap_setCell w6 _ _ b (fun e => hb e)
  have lowL : ∀ b, vL.ownBlock = some b → b < w3.heap.size := fun b hb => (ho.lt b hb).2
  refine ⟨(pushC_at (g := g) (cap := cap) h ho hx (by rw [hz]; omega) (fun b hb hp hgl => ?_) ?_ ?_ ?_ (?_ : SlS _ _ l.at ns) hl).codeH (srt_push hs), ⟨?_, ?_, ?_, by rw [hz]; omega, fun b hb hf => ?_⟩⟩
  · rw [far b hp]; exact pushC_other B5 hgrow b hb hgl
  · exact hp6.set 0 _
  · refine own_keep hown fun b hb => far b fun e => ?_
    subst e
    exact bk_ne hown hp6 (by decide) hb
  · rw [hz]
    rcases hg with hg | hg
    · exact .inl hg
    · right; omega
  · rw [hz]
    refine SN.keep fun b hb => ?_
    have pl := h.hp.lt
    have e1 : (w6.setCell ⟨p, 0, none⟩ (.slice (some ⟨g, 0, none⟩) (t.L.length + 1) cap)).heap[b]? = w5.heap[b]? := by
      rw [far b (by omega), hgrow.block b (by rw [World.size_alloc]; omega) (fun e => by have := lowL b e.symm; omega), Below.heap_alloc _ _ _ hb.1.2]
    obtain ⟨cs, hc⟩ := hb.2
    exact ⟨⟨⟨hb.1.1, by omega⟩, ⟨cs, by rw [e1]; exact hc⟩⟩, e1⟩
  · exact (hgrow.os.trans B5.os : _)
  · exact (hgrow.tape.trans B5.tape : _)
  · exact (hgrow.output.trans B5.output : _)
  · rw [far b (fun e => hf (by rw [e]; exact h.fp))]
    exact pushC_other B5 hgrow b hb (fun e => hf (h.fL b e))
end
end Go.Proofs.YtjodmjadpooipaaGreatDoor.Sh
namespace Go.Proofs.YtjodmjadpooipaaGreatDoor.Sh
open Go Go.RowKit

theorem lk_mem {t : Tre} {f : Int} {nm : ByteArray} {a : Nat} (h : lkC t f nm = some a) : ∃ s : Nat, f = s ∧ s < t.L.length ∧ (t.sh s).ali = none ∧ (nm, a) ∈ (t.sh s).links := by
  unfold lkC at h
  split at h
  · rename_i hf
    refine ⟨f.toNat, by omega, ?_, hf.2, look_mem h⟩
    rcases Nat.lt_or_ge f.toNat t.L.length with h1 | h1
    · exact h1
    · rw [sh_ge h1] at h; cases h
  · cases h
theorem D_entries {w : World} {mb n : Nat} {D : DataW Unit} {t : Tre} (h : w.ownsMap Tryz.prog 77 (plainElem Tryz.prog 3) mb n D) (hc : Cont D t) :
    ∃ es, D = .map es ∧ es.Pairwise (fun p q => p.1 ≠ q.1) ∧ ∀ p ∈ es, ∃ (f : Int) (nm : ByteArray) (a : Nat), I64 f ∧ nm.size ≤ maxLen ∧ p.1 = keyL f nm ∧ lkC t f nm = some a := by
  obtain ⟨es, rfl, hp, hk⟩ := h.entries keyed
  obtain ⟨es', e, hv⟩ := h.keysOf
  obtain rfl : es = es' := by simpa using e
  refine ⟨es, rfl, hp, fun p hpm => ?_⟩
  obtain ⟨v, hv⟩ := hv p hpm
  obtain ⟨f, nm, rfl, hf, hn, e⟩ := keyOf_inv hv
  have hh := (hc f nm hf hn).1
  have : Maps.has (.map es) (keyL f nm) = true := by
    rw [Maps.has_eq, List.any_eq_true]
    exact ⟨p, hpm, by rw [e]; exact WideAt.sameKey_self (keyed.key (keyOf_mk hf hn))⟩
  rw [this] at hh
  obtain ⟨a, ha⟩ := Option.isSome_iff_exists.1 hh.symm
  exact ⟨f, nm, a, hf, hn, e, ha⟩
def allK (t : Tre) (n : Nat) : List Lit := (List.range n).flatMap fun s => (t.sh s).links.map fun q => keyL (s : Int) q.1
theorem allK_len (t : Tre) (h : ∀ s, (t.sh s).links.length ≤ 200) (n : Nat) : (allK t n).length ≤ n * 200 := by
  induction n with
  | zero => exact Nat.le_refl _
  | succ n ih =>
    unfold allK at ih ⊢
    rw [List.range_succ, List.flatMap_append, List.length_append]
    have := h n
    simp
    simp at ih
    omega
theorem D_size {w : World} {mb n : Nat} {D : DataW Unit} {t : Tre} (h : w.ownsMap Tryz.prog 77 (plainElem Tryz.prog 3) mb n D) (hc : Cont D t) (hs : Srt t) (few : t.L.length ≤ 200) :
    w.ownsMap Tryz.prog 77 (plainElem Tryz.prog 3) mb 65536 D := by
  obtain ⟨es, rfl, hp, hk⟩ := D_entries h hc
  have hl : es.length ≤ 40000 := by
    have h1 : (es.map (·.1)).Nodup := List.pairwise_map.2 hp
    have h2 : ∀ x ∈ es.map (·.1), x ∈ allK t t.L.length := by
      intro x hx
      obtain ⟨p, hpm, rfl⟩ := List.mem_map.1 hx
      obtain ⟨f, nm, a, _, _, e, ha⟩ := hk p hpm
      obtain ⟨s, rfl, sl, _, hm⟩ := lk_mem ha
      rw [e]
      exact List.mem_flatMap.2 ⟨s, List.mem_range.2 sl, List.mem_map.2 ⟨_, hm, rfl⟩⟩
    have h3 := @nodup_len' Lit (fun a b => Classical.propDecidable (a = b)) _ _ h1 h2
    have h4 := allK_len t (fun s => Nat.le_trans (hs.lim s) few) t.L.length
    rw [List.length_map] at h3
    omega
  obtain ⟨es', clock, hb, hf, hs', e⟩ := h
  have h5 : es.length = es'.size := by
    have e2 := DataW.map.inj e
    rw [e2, length_sorted]; simp
  exact ⟨es', clock, hb, hf, by omega, e⟩
end Go.Proofs.YtjodmjadpooipaaGreatDoor.Sh
