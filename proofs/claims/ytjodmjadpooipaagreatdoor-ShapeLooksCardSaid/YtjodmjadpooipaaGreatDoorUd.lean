/-
  The reference's New.
  The reference's New: the walk.
-/
import Derived.Test.YtjodmjadpooipaaGreatDoorUa
namespace Go.Proofs.YtjodmjadpooipaaGreatDoor.Sh
open Go Go.RowKit

/-- A tree that is being made: k shapes, j roots. -/
structure NewAt (w : World) (p : Nat) (fl : List (List ByteArray)) (k j : Nat) (F : Nat → Prop) (vL vR : Value) (hd : Nat → Hd) (xs : List Value) : Prop where
  lt : ∀ b, F b → b < w.heap.size
  hp : Bk w p #[vL, vR] 56
  fp : F p
  row : w.ownsRow 0 62 4 vL k xs
  cells : ∀ s, s < k → ∀ i u, (rowOf ((newT fl).sh s) (hd s))[i]? = some u → xs[s * 4 + i]? = some u
  fL : ∀ b, vL.ownBlock = some b → F b
  roots : RootsV w vR (List.range j)
  fR : ∀ b, vR.ownBlock = some b → F b
  names : ∀ s, s < k → SlS w (fun b => F b ∧ isStr w b) (some (hd s).nA) ((newT fl).sh s).names
  lv : ∀ s, s < k → (hd s).lv = .slice none 0 0
theorem newT_row (fl : List (List ByteArray)) {s : Nat} (h : s < fl.length) : (newT fl).sh s = ⟨s, none, fl[s], []⟩ := by
  unfold Tre.sh newT
  rw [List.getD_eq_getElem?_getD, List.getElem?_mapIdx, List.getElem?_eq_getElem h]
  rfl
section
variable {w : World} {p : Nat} {fl : List (List ByteArray)} {k j : Nat} {F : Nat → Prop} {vL vR : Value} {hd : Nat → Hd} {xs : List Value} (h : NewAt w p fl k j F vL vR hd xs)
include h
theorem NewAt.done (hk : k = fl.length) (hj : j = fl.length) (h0 : 0 < k) : RefH w p (newT fl) F := by
  obtain ⟨g, c, rfl, _, _⟩ := h.row.form h0
  have e1 : (newT fl).L.length = k := by simp [newT, hk]
  have e2 : (newT fl).roots = List.range j := by simp [newT, hj]
  refine ⟨g, c, vR, hd, h.lt, by rw [e1]; exact h.hp, h.fp, ⟨xs, by rw [e1]; exact h.row, fun s hs => h.cells s (by omega)⟩, h.fL g rfl, by rw [e2]; exact h.roots, h.fR, fun s hs => h.names s (by omega), fun s hs => ?_, fun s hs b hb => ?_, fun s r hs _ _ b hb => ?_⟩
  · rw [h.lv s (by omega), newT_row fl (by omega)]
    exact ⟨[], World.ownsRow_nil _ _ _ _, fun i q hq => by simp at hq⟩
  · rw [h.lv s (by omega)] at hb; cases hb
  · rw [h.lv s (by omega)] at hb; cases hb
theorem NewAt.shape {w5 w6 : World} {o : Obj} {gN cN g cap : Nat} (hk : k < fl.length) (B5 : Below w.heap.size w w5) (hgrow : (w5.alloc o).grownBy w6 vL.ownBlock)
    (SN : SlS w5 (fun b => (w.heap.size ≤ b ∧ b < w5.heap.size) ∧ isStr w5 b) (some ⟨gN, 0, none⟩) fl[k])
    (hown : w6.ownsRow 0 62 4 (.slice (some ⟨g, 0, none⟩) (k + 1) cap) (k + 1) (xs ++ [.int .i64 (k : Int), .int .i64 (-1), .slice (some ⟨gN, 0, none⟩) fl[k].length cN, .slice none 0 0]))
    (hg : vL.ownBlock = some g ∨ g = w5.heap.size + 1) (hglt : g < w6.heap.size) :
    NewAt (w6.setCell ⟨p, 0, none⟩ (.slice (some ⟨g, 0, none⟩) (k + 1) cap)) p fl (k + 1) j (More F w w6) (.slice (some ⟨g, 0, none⟩) (k + 1) cap) vR (fun s => if s = k then ⟨⟨gN, 0, none⟩, cN, .slice none 0 0⟩ else hd s) (xs ++ [.int .i64 (k : Int), .int .i64 (-1), .slice (some ⟨gN, 0, none⟩) fl[k].length cN, .slice none 0 0]) ∧
      Bk w6 p #[vL, vR] 56 ∧ Chg F w (w6.setCell ⟨p, 0, none⟩ (.slice (some ⟨g, 0, none⟩) (k + 1) cap)) := by
  have h1 := B5.size
  have h2 : w5.heap.size + 1 ≤ w6.heap.size := by have := hgrow.size; rw [World.size_alloc] at this; exact this
  have pl := h.hp.lt
  have hz : (w6.setCell ⟨p, 0, none⟩ (.slice (some ⟨g, 0, none⟩) (k + 1) cap)).heap.size = w6.heap.size := by simp [World.setCell]
  have low : ∀ b, b < w.heap.size → vL.ownBlock ≠ some b → w6.heap[b]? = w.heap[b]? := fun b hb hne =>
    (hgrow.block b (by rw [World.size_alloc]; omega) (fun e => hne e.symm)).trans ((Below.heap_alloc _ _ _ (by omega)).trans (B5.block b hb))
  have pL : vL.ownBlock ≠ some p := bk_ne h.row h.hp (by decide)
  have hp6 : Bk w6 p #[vL, vR] 56 := (low p pl pL).trans h.hp
  have far : ∀ b, b ≠ p → (w6.setCell ⟨p, 0, none⟩ (.slice (some ⟨g, 0, none⟩) (k + 1) cap)).heap[b]? = w6.heap[b]? := fun b hb => Below.heap_setCell w6 _ _ b (fun e => hb e)
  have hlen : xs.length = k * 4 := h.row.1
  refine ⟨⟨fun b hb => ?_, hp6.set 0 _, .inl h.fp, ?_, fun s hs i u hu => ?_, fun b hb => ?_, ?_, fun b hb => .inl (h.fR b hb), fun s hs => ?_, fun s hs => ?_⟩, hp6, ⟨?_, ?_, ?_, by rw [hz]; omega, fun b hb hf => ?_⟩⟩
  · rw [hz]
    rcases hb with hb | hb
    · have := h.lt b hb; omega
    · exact hb.2
  · refine own_keep hown fun b hb => far b fun e => ?_
    subst e
    exact bk_ne hown hp6 (by decide) hb
  · by_cases e : s = k
    · subst e
      rw [if_pos rfl, newT_row fl hk] at hu
      rw [List.getElem?_append_right (by omega), show s * 4 + i - xs.length = i by omega]
      exact hu
    · rw [if_neg e] at hu
      have hi : i < 4 := (List.getElem?_eq_some_iff.1 hu).1
      rw [List.getElem?_append_left (by omega)]
      exact h.cells s (by omega) i u hu
  · have hb' : g = b := by injection hb
    subst hb'
    rcases hg with hg | hg
    · exact .inl (h.fL g hg)
    · exact .inr ⟨by omega, hglt⟩
  · refine own_keep h.roots fun b hb => ?_
    rw [far b (fun e => by subst e; exact bk_ne h.roots h.hp (by decide) hb)]
    exact low b (h.roots.lt b hb).2 (fun e => own_ne h.row h.roots (by decide) b e hb)
  · by_cases e : s = k
    · subst e
      rw [if_pos rfl, newT_row fl hk]
      refine SN.keep fun b hb => ?_
      have e1 : (w6.setCell ⟨p, 0, none⟩ (.slice (some ⟨g, 0, none⟩) (s + 1) cap)).heap[b]? = w5.heap[b]? := by
        rw [far b (by omega), hgrow.block b (by rw [World.size_alloc]; omega) (fun e => by have := (h.row.lt b e.symm).2; omega), Below.heap_alloc _ _ _ hb.1.2]
      obtain ⟨cs, hc⟩ := hb.2
      exact ⟨⟨.inr ⟨hb.1.1, by omega⟩, ⟨cs, by rw [e1]; exact hc⟩⟩, e1⟩
    · rw [if_neg e]
      refine (h.names s (by omega)).keep fun b hb => ?_
      have bl := h.lt b hb.1
      have e1 : (w6.setCell ⟨p, 0, none⟩ (.slice (some ⟨g, 0, none⟩) (k + 1) cap)).heap[b]? = w.heap[b]? := by
        rw [far b (fun e => by subst e; obtain ⟨cs, hc⟩ := hb.2; have h5 := h.hp; unfold Bk at h5; rw [hc] at h5; simp at h5)]
        exact low b bl (str_ne h.row hb.2 (by decide))
      obtain ⟨cs, hc⟩ := hb.2
      exact ⟨⟨.inl hb.1, ⟨cs, by rw [e1]; exact hc⟩⟩, e1⟩
  · by_cases e : s = k
    · rw [if_pos e]
    · rw [if_neg e]; exact h.lv s (by omega)
  · exact (hgrow.os.trans B5.os : _)
  · exact (hgrow.tape.trans B5.tape : _)
  · exact (hgrow.output.trans B5.output : _)
  · rw [far b (fun e => hf (by rw [e]; exact h.fp))]
    exact low b hb (fun e => hf (h.fL b e))
theorem NewAt.root {w8 : World} {o : Obj} {g cap : Nat} (hgrow : (w.alloc o).grownBy w8 vR.ownBlock)
    (hown : w8.ownsRow 0 3 1 (.slice (some ⟨g, 0, none⟩) (j + 1) cap) (j + 1) ((List.range j).map (fun (k : Nat) => Value.int .i64 (k : Int)) ++ [.int .i64 (j : Int)]))
    (hg : vR.ownBlock = some g ∨ g = w.heap.size + 1) (hglt : g < w8.heap.size) :
    NewAt (w8.setCell ⟨p, 1, none⟩ (.slice (some ⟨g, 0, none⟩) (j + 1) cap)) p fl k (j + 1) (More F w w8) vL (.slice (some ⟨g, 0, none⟩) (j + 1) cap) hd xs ∧
      Bk w8 p #[vL, vR] 56 ∧ Chg F w (w8.setCell ⟨p, 1, none⟩ (.slice (some ⟨g, 0, none⟩) (j + 1) cap)) := by
  have h2 : w.heap.size + 1 ≤ w8.heap.size := by have := hgrow.size; rw [World.size_alloc] at this; exact this
  have pl := h.hp.lt
  have hz : (w8.setCell ⟨p, 1, none⟩ (.slice (some ⟨g, 0, none⟩) (j + 1) cap)).heap.size = w8.heap.size := by simp [World.setCell]
  have low : ∀ b, b < w.heap.size → vR.ownBlock ≠ some b → w8.heap[b]? = w.heap[b]? := fun b hb hne =>
    (hgrow.block b (by rw [World.size_alloc]; omega) (fun e => hne e.symm)).trans (Below.heap_alloc _ _ _ (by omega))
  have pR : vR.ownBlock ≠ some p := bk_ne h.roots h.hp (by decide)
  have hp8 : Bk w8 p #[vL, vR] 56 := (low p pl pR).trans h.hp
  have far : ∀ b, b ≠ p → (w8.setCell ⟨p, 1, none⟩ (.slice (some ⟨g, 0, none⟩) (j + 1) cap)).heap[b]? = w8.heap[b]? := fun b hb => Below.heap_setCell w8 _ _ b (fun e => hb e)
  refine ⟨⟨fun b hb => ?_, hp8.set 1 _, .inl h.fp, ?_, h.cells, fun b hb => .inl (h.fL b hb), ?_, fun b hb => ?_, fun s hs => ?_, h.lv⟩, hp8, ⟨hgrow.os, hgrow.tape, hgrow.output, by rw [hz]; omega, fun b hb hf => ?_⟩⟩
  · rw [hz]
    rcases hb with hb | hb
    · have := h.lt b hb; omega
    · exact hb.2
  · refine own_keep h.row fun b hb => ?_
    rw [far b (fun e => by subst e; exact bk_ne h.row h.hp (by decide) hb)]
    exact low b (h.row.lt b hb).2 (fun e => own_ne h.roots h.row (by decide) b e hb)
  · show World.ownsRow _ 0 _ 1 _ (List.range (j + 1)).length ((List.range (j + 1)).map fun (k : Nat) => Value.int .i64 (k : Int))
    rw [List.length_range, List.range_succ, List.map_append]
    refine own_keep hown fun b hb => far b fun e => ?_
    subst e
    exact bk_ne hown hp8 (by decide) hb
  · have hb' : g = b := by injection hb
    subst hb'
    rcases hg with hg | hg
    · exact .inl (h.fR g hg)
    · exact .inr ⟨by omega, hglt⟩
  · refine (h.names s hs).keep fun b hb => ?_
    have bl := h.lt b hb.1
    have e1 : (w8.setCell ⟨p, 1, none⟩ (.slice (some ⟨g, 0, none⟩) (j + 1) cap)).heap[b]? = w.heap[b]? := by
      rw [far b (fun e => by subst e; obtain ⟨cs, hc⟩ := hb.2; have h5 := h.hp; unfold Bk at h5; rw [hc] at h5; simp at h5)]
      exact low b bl (str_ne h.roots hb.2 (by decide))
    obtain ⟨cs, hc⟩ := hb.2
    exact ⟨⟨.inl hb.1, ⟨cs, by rw [e1]; exact hc⟩⟩, e1⟩
  · rw [far b (fun e => hf (by rw [e]; exact h.fp))]
    exact low b hb (fun e => hf (h.fR b e))
end
end Go.Proofs.YtjodmjadpooipaaGreatDoor.Sh
namespace Go.Proofs.YtjodmjadpooipaaGreatDoor.Sh
open Go Go.RowKit

theorem region_plainE {P : Program} {ops : Array Oper} {Q : Exit → Go.Act → World → Prop} (S : World → Prop) (e : Nat) {id : Nat} {a : Go.Act} {w : World} (hm : P.follows .mixedOrders = true)
    (h : anyBut P .any ops Q e S ops.size (Array.replicate ops.size false) a w.drew) : (Code.region id ops true).wp P Q a w :=
  wp_region_any hm (anyBut_plain _ _ _ _ h)
set_option maxRecDepth 100000 in
theorem wp_append_onto {o : Oper} {a : Go.Act} {w : World} {K : Go.Act → World → Prop} {Q : Exit → Go.Act → World → Prop} (s x : Operand)
    (ho : o.op = .call { callee := .builtin .append, args := #[s, x], argTypes := #[41, 41] }) (base g0 c0 : Nat) (xs ns : List ByteArray) (hs : a.eval s = .slice (some ⟨g0, 0, none⟩) xs.length c0) (hown : OwnS w base (.slice (some ⟨g0, 0, none⟩) xs.length c0) xs)
    (P : Nat → Prop) (A : Option Addr) (c : Nat) (hx : a.eval x = .slice A ns.length c) (hS : SlS w P A ns) (hA : A = none → c = 0) (hl : xs.length + ns.length ≤ 2097152) (hb : base ≤ w.heap.size)
    (h : ∀ g cap w', OwnS w' base (.slice (some ⟨g, 0, none⟩) (xs ++ ns).length cap) (xs ++ ns) → w.grownBy w' (some g0) → (g0 = g ∨ g = w.heap.size) → K (a.put o.dst (.slice (some ⟨g, 0, none⟩) (xs ++ ns).length cap)) w') : o.wp Tryz.prog a w K Q := by
  obtain ⟨i0, hi0, hz0, hz1, hz2⟩ := info_parts infoS
  rcases A with _ | ad
  · have e0 : ns = [] := by
      cases ns with
      | nil => rfl
      | cons y l => obtain ⟨ad, e, _⟩ := hS 0 y rfl; cases e
    subst e0
    obtain rfl := hA rfl
    have hrun := run_append_owned_none (P := Tryz.prog) (w := w) base 41 o.type 9 i0 1 Tryz.underlying41 hi0 _ _ _ hown
    unfold Oper.wp
    simp only [execOp, ho, resolve, invoke, builtin, Sem.run_bind, Sem.run_pure, Result.andThen_ok, List.map_toArray, List.map_cons, List.map_nil, hs, hx, List.length_nil, hrun]
    have h' := h g0 c0 w
    simp only [List.append_nil] at h'
    exact h' hown ⟨rfl, rfl, rfl, Nat.le_refl _, fun _ _ _ => rfl⟩ (.inl trivial)
  · obtain ⟨v', w', hr, h2, h3, h4, h5⟩ := run_append_own_at (P := Tryz.prog) w base 41 o.type 9 i0 (.string ⟨#[]⟩) 1 16 Tryz.underlying41 hi0 hz0 hz1 hz2 rfl (by decide) (.slice (some ⟨g0, 0, none⟩) xs.length c0) _ _ hown ad ns.length c (ns.map Value.string) (by rw [List.length_map, Nat.mul_one]) (fun j u hj => by
      rw [List.getElem?_map, Option.map_eq_some_iff] at hj
      obtain ⟨z, hz, rfl⟩ := hj
      obtain ⟨ad', e, _, hc⟩ := hS j z hz
      injection e with e
      subst e
      exact hc) (onesS ns) (by unfold maxLen; omega) (by omega) hb
    have h2' : OwnS w' base v' (xs ++ ns) := by unfold OwnS; rw [List.length_append, List.map_append]; exact h2
    obtain ⟨g, cap, rfl⟩ : ∃ g cap, v' = .slice (some ⟨g, 0, none⟩) (xs ++ ns).length cap := by
      rcases h2'.2 with ⟨e, _⟩ | ⟨g, cap, cur, e, _⟩
      · have := (h4.1 e).1; cases this
      · exact ⟨g, cap, e⟩
    unfold Oper.wp execOp
    simp only [ho, resolve, invoke, builtin, Sem.run_bind, Sem.run_pure, Result.andThen_ok, List.map_toArray, List.map_cons, List.map_nil, hs, hx, hr]
    refine h g cap w' h2' h3 ?_
    rcases h5 with h5 | h5
    · left
      have : g = g0 := by simpa [Value.ownBlock] using h5
      exact this.symm
    · exact .inr (by simpa [Value.ownBlock] using h5)
set_option maxRecDepth 100000 in
set_option maxHeartbeats 8000000 in
theorem ref_new (w : World) (A : Option Addr) (fl : List (List ByteArray)) (c : Nat) (hc : Cls w w.heap.size A fl) (hfl : fl.length ≤ 12) (h64 : ∀ ns ∈ fl, ns.length ≤ 64) (h0 : 0 < fl.length) :
    Calls Tryz.prog 6 #[.slice A fl.length c] w fun e w' => ∃ q G, e = .returned (.pointer (some ⟨q, 0, none⟩)) ∧ RefH w' q (newT fl) G ∧ Below w.heap.size w w' ∧ ∀ b, G b → w.heap.size ≤ b := by
  have HC := Lib.hid hc
  have H64 := Lib.hid h64
  obtain ⟨P, hP⟩ : ∃ P, w.heap.size = P := ⟨_, rfl⟩
  obtain ⟨W0, hW0⟩ : ∃ W0, w.alloc (.cells #[.slice none 0 0, .slice none 0 0] 56) = W0 := ⟨_, rfl⟩
  have z0 : W0.heap.size = P + 1 := by rw [← hW0, World.size_alloc, hP]
  have H0 := Lib.hid (show ∃ F vL vR hd xs, NewAt W0 P fl 0 0 F vL vR hd xs ∧ Below P w W0 ∧ ∀ b, F b → P ≤ b from
    ⟨(· = P), _, _, fun _ => ⟨⟨0, 0, none⟩, 0, .slice none 0 0⟩, [], ⟨fun b hb => by omega, by rw [← hW0, ← hP]; exact Bk.new w _ _, rfl, World.ownsRow_nil _ _ _ _, fun s hs => by omega, (fun b hb => by cases hb), World.ownsRow_nil _ _ _ _, (fun b hb => by cases hb), (fun s hs => by omega), (fun s hs => by omega)⟩,
      by rw [← hW0, ← hP]; exact (Below.refl _ w).alloc (Nat.le_refl _) _, fun b hb => by omega⟩)
  have hmx : Tryz.prog.follows .mixedOrders = true := by kernel_rfl
  obtain ⟨i0, hi0, hz0, hz1, hz2⟩ := info_parts infoI
  obtain ⟨i1, hi1, hy0, hy1, hy2⟩ := info_parts infoSh
  clear hc h64
  go_enter Tryz.func6, Tryz.ntmps6
  go_wp2_with fail
  go_loopw [4] (fun i wr => ∃ k : Nat, k ≤ fl.length ∧ i = .int .i64 k ∧ Hid (∃ F vL vR hd xs, NewAt wr P fl k k F vL vR hd xs ∧ Below P w wr ∧ ∀ b, F b → P ≤ b)) (fun i _ => fl.length - (intOf i).toNat)
  case atStart => exact ⟨0, by omega, rfl, H0⟩
  case round =>
    obtain ⟨k, hk, rfl, hh⟩ := hrel
    obtain ⟨F, vL, vR, hd, xs, hn, hb, hF⟩ := hh.out
    by_cases hlt : k < fl.length
    · have hki : (k : Int) < fl.length := by omega
      have k12 : (k : Int) < 12 := by omega
      obtain ⟨AL, cL, rfl⟩ := own_slice hn.row
      have rr := hn.roots
      unfold RootsV at rr
      rw [List.length_range] at rr
      obtain ⟨AR, cR, rfl⟩ := own_slice rr
      obtain ⟨ad, nm, D, d, M, mn, mc, rfl, hbl, x0, x1, x2, hS, hz, hnd⟩ := HC.out k _ (List.getElem?_eq_getElem hlt)
      have hsp : ad = ⟨ad.block, ad.off, none⟩ := by
        obtain ⟨ad2, nm2, _, _, _, _, _, e, _, y0, _⟩ := HC.out 0 _ (List.getElem?_eq_getElem (show 0 < fl.length by omega))
        injection e with e
        subst e
        have := World.cell?_spot y0
        obtain ⟨b, o, sp⟩ := ad
        simp [Addr.add] at this
        rw [this]
      obtain ⟨g, o, hgo⟩ : ∃ g o, ad = ⟨g, o, none⟩ := ⟨_, _, hsp⟩
      subst hgo
      clear hsp
      obtain ⟨ns, hns⟩ : ∃ ns, fl[k] = ns := ⟨_, rfl⟩
      have NS := Lib.hid hns
      rw [hns] at x1 hS hnd
      have nl : ns.length ≤ 64 := H64.out ns (by rw [← hns]; exact List.getElem_mem hlt)
      have hm2 : min (ns.length : Int) 64 = ns.length := by omega
      have y1 : wr.cell? ⟨g, o + k * 3 + 1, none⟩ = some (.slice D ns.length d) := (hb.cell (p := ⟨g, o + k * 3 + 1, none⟩) (by rw [← hP]; exact hbl)).trans (by rw [← add_flat2 g o (3 * k + 1) (o + k * 3 + 1) (by omega)]; exact x1)
      have cP := hn.hp.cell 0 _ rfl
      have hsz := hb.size
      have glw : g < wr.heap.size := by have : g < w.heap.size := hbl; omega
      have Pl : P < wr.heap.size := hn.hp.lt
      have GW := Lib.hid (show g < w.heap.size from hbl)
      have SD := Lib.hid (show SlS wr (· < wr.heap.size) D ns from (hS.low' (fun _ h => h) (hP ▸ hb)).imp fun b (hb : b < w.heap.size) => by omega)
      have HN := Lib.hid hn
      have HB := Lib.hid hb
      have HF := Lib.hid hF
      have DZ := Lib.hid hz
      have S1 := Lib.hid (show wr.drew.cell? ⟨P, 0, none⟩ = some (.slice AL k cL) ∧ wr.drew.cell? ⟨g, o + k * 3 + 1, none⟩ = some (.slice D ns.length d) from ⟨cP, y1⟩)
      clear hh hn hb hF x0 x1 x2 hS hz hbl rr hns
      go_wp2_with fail
      refine region_plainE (fun v => v.cell? ⟨P, 0, none⟩ = some (.slice AL k cL) ∧ v.cell? ⟨g, o + k * 3 + 1, none⟩ = some (.slice D ns.length d)) 26 hmx ?_
      refine anyBut_take (i := 0) (u := ?_) rfl (by kernel_rfl) (by kernel_rfl) (by kernel_rfl) (by kernel_rfl) (fun _ _ _ h => h) (.inl ⟨by kernel_rfl, fun v hS => ?_⟩) S1.out ?_
      rotate_left
      · obtain ⟨h0, h1⟩ := hS
        go_simp
        with_reducible rfl
      refine anyBut_take (i := 1) (u := ?_) rfl (by kernel_rfl) (by kernel_rfl) (by kernel_rfl) (by kernel_rfl) (fun _ _ _ h => h) (.inl ⟨by kernel_rfl, fun v hS => ?_⟩) S1.out ?_
      rotate_left
      · obtain ⟨h0, h1⟩ := hS
        go_simp
        with_reducible rfl
      refine anyBut_take (i := 2) (u := ?_) rfl (by kernel_rfl) (by kernel_rfl) (by kernel_rfl) (by kernel_rfl) (fun _ _ _ h => h) (.inl ⟨by kernel_rfl, fun v hS => ?_⟩) S1.out ?_
      rotate_left
      · obtain ⟨h0, h1⟩ := hS
        go_simp
        with_reducible rfl
      refine anyBut_take (i := 3) (u := ?_) rfl (by kernel_rfl) (by kernel_rfl) (by kernel_rfl) (by kernel_rfl) (fun _ _ _ h => h) (.inl ⟨by kernel_rfl, fun v hS => ?_⟩) S1.out ?_
      rotate_left
      · obtain ⟨h0, h1⟩ := hS
        go_simp
        with_reducible rfl
      refine anyBut_take (i := 4) (u := ?_) rfl (by kernel_rfl) (by kernel_rfl) (by kernel_rfl) (by kernel_rfl) (fun _ _ _ h => h) (.inl ⟨by kernel_rfl, fun v hS => ?_⟩) S1.out ?_
      rotate_left
      · obtain ⟨h0, h1⟩ := hS
        go_simp
        with_reducible rfl
      refine anyBut_take (i := 5) (u := ?_) rfl (by kernel_rfl) (by kernel_rfl) (by kernel_rfl) (by kernel_rfl) (fun _ _ _ h => h) (.inl ⟨by kernel_rfl, fun v hS => ?_⟩) S1.out ?_
      rotate_left
      · obtain ⟨h0, h1⟩ := hS
        go_simp
        with_reducible rfl
      refine anyBut_take (i := 7) (u := ?_) rfl (by kernel_rfl) (by kernel_rfl) (by kernel_rfl) (by kernel_rfl) (fun _ _ _ h => h) (.inl ⟨by kernel_rfl, fun v hS => ?_⟩) S1.out ?_
      rotate_left
      · obtain ⟨h0, h1⟩ := hS
        go_simp
        with_reducible rfl
      refine anyBut_take (i := 8) (u := ?_) rfl (by kernel_rfl) (by kernel_rfl) (by kernel_rfl) (by kernel_rfl) (fun _ _ _ h => h) (.inl ⟨by kernel_rfl, fun v hS => ?_⟩) S1.out ?_
      rotate_left
      · obtain ⟨h0, h1⟩ := hS
        go_simp
        with_reducible rfl
      refine anyBut_take (i := 9) (u := ?_) rfl (by kernel_rfl) (by kernel_rfl) (by kernel_rfl) (by kernel_rfl) (fun _ _ _ h => h) (.inl ⟨by kernel_rfl, fun v hS => ?_⟩) S1.out ?_
      rotate_left
      · obtain ⟨h0, h1⟩ := hS
        go_simp
        with_reducible rfl
      refine anyBut_take (i := 10) (u := ?_) rfl (by kernel_rfl) (by kernel_rfl) (by kernel_rfl) (by kernel_rfl) (fun _ _ _ h => h) (.inl ⟨by kernel_rfl, fun v hS => ?_⟩) S1.out ?_
      rotate_left
      · obtain ⟨h0, h1⟩ := hS
        go_simp
        with_reducible rfl
      refine anyBut_take (i := 11) (u := ?_) rfl (by kernel_rfl) (by kernel_rfl) (by kernel_rfl) (by kernel_rfl) (fun _ _ _ h => h) (.inl ⟨by kernel_rfl, fun v hS => ?_⟩) S1.out ?_
      rotate_left
      · obtain ⟨h0, h1⟩ := hS
        go_simp
        with_reducible rfl
      refine anyBut_take (i := 12) (u := ?_) rfl (by kernel_rfl) (by kernel_rfl) (by kernel_rfl) (by kernel_rfl) (fun _ _ _ h => h) (.inl ⟨by kernel_rfl, fun v hS => ?_⟩) S1.out ?_
      rotate_left
      · obtain ⟨h0, h1⟩ := hS
        go_simp
        with_reducible rfl
      refine anyBut_take (i := 13) (u := ?_) rfl (by kernel_rfl) (by kernel_rfl) (by kernel_rfl) (by kernel_rfl) (fun _ _ _ h => h) (.inl ⟨by kernel_rfl, fun v hS => ?_⟩) S1.out ?_
      rotate_left
      · obtain ⟨h0, h1⟩ := hS
        go_simp
        with_reducible rfl
      refine anyBut_take (i := 14) (u := ?_) rfl (by kernel_rfl) (by kernel_rfl) (by kernel_rfl) (by kernel_rfl) (fun _ _ _ h => h) (.inl ⟨by kernel_rfl, fun v hS => ?_⟩) S1.out ?_
      rotate_left
      · obtain ⟨h0, h1⟩ := hS
        go_simp
        with_reducible rfl
      refine anyBut_take (i := 15) (u := ?_) rfl (by kernel_rfl) (by kernel_rfl) (by kernel_rfl) (by kernel_rfl) (fun _ _ _ h => h) (.inl ⟨by kernel_rfl, fun v hS => ?_⟩) S1.out ?_
      rotate_left
      · obtain ⟨h0, h1⟩ := hS
        go_simp
        with_reducible rfl
      refine anyBut_take (i := 16) (u := ?_) rfl (by kernel_rfl) (by kernel_rfl) (by kernel_rfl) (by kernel_rfl) (fun _ _ _ h => h) (.inl ⟨by kernel_rfl, fun v hS => ?_⟩) S1.out ?_
      rotate_left
      · obtain ⟨h0, h1⟩ := hS
        go_simp
        with_reducible rfl
      refine anyBut_take (i := 17) (u := ?_) rfl (by kernel_rfl) (by kernel_rfl) (by kernel_rfl) (by kernel_rfl) (fun _ _ _ h => h) (.inl ⟨by kernel_rfl, fun v hS => ?_⟩) S1.out ?_
      rotate_left
      · obtain ⟨h0, h1⟩ := hS
        go_simp
        with_reducible rfl
      refine anyBut_take (i := 18) (u := ?_) rfl (by kernel_rfl) (by kernel_rfl) (by kernel_rfl) (by kernel_rfl) (fun _ _ _ h => h) (.inl ⟨by kernel_rfl, fun v hS => ?_⟩) S1.out ?_
      rotate_left
      · obtain ⟨h0, h1⟩ := hS
        go_simp
        with_reducible rfl
      refine anyBut_take (i := 19) (u := ?_) rfl (by kernel_rfl) (by kernel_rfl) (by kernel_rfl) (by kernel_rfl) (fun _ _ _ h => h) (.inl ⟨by kernel_rfl, fun v hS => ?_⟩) S1.out ?_
      rotate_left
      · obtain ⟨h0, h1⟩ := hS
        go_simp
        with_reducible rfl
      obtain ⟨V1, hV1⟩ : ∃ V1, wr.drew.alloc (.cells #[] 9) = V1 := ⟨_, rfl⟩
      have B1 := Lib.hid (show Below wr.heap.size wr V1 by rw [← hV1]; exact ((Below.refl _ wr).drew.alloc (Nat.le_refl _) _))
      have zV1 : V1.heap.size = wr.heap.size + 1 := by rw [← hV1, World.size_alloc]; rfl
      have O1 := Lib.hid (show OwnS V1 wr.heap.size (.slice (some ⟨wr.heap.size, 0, none⟩) 0 0) [] by rw [← hV1]; exact World.ownsRow_made wr.drew #[] 0 (Nat.le_refl _) (Nat.zero_le _) (by simp))
      have keepS := Lib.hid (show ∀ Y : World, Below wr.heap.size wr Y → Y.cell? ⟨P, 0, none⟩ = some (.slice AL k cL) ∧ Y.cell? ⟨g, o + k * 3 + 1, none⟩ = some (.slice D ns.length d) from fun Y hY => ⟨(hY.cell (p := ⟨P, 0, none⟩) Pl).trans cP, (hY.cell (p := ⟨g, o + k * 3 + 1, none⟩) glw).trans y1⟩)
      refine anyBut_one 6 rfl (by kernel_rfl) (by kernel_rfl) ?_
      go_simp
      refine ⟨by first | exact keepS.out _ B1.out | exact .inr (keepS.out _ B1.out), ?_⟩
      refine anyBut_one 20 rfl (by kernel_rfl) (by kernel_rfl) ?_
      refine wp_append_onto _ _ rfl wr.heap.size wr.heap.size 0 [] ns rfl O1.out (fun b => b < wr.heap.size) D d rfl (SD.out.keep fun b hb => ⟨hb, B1.out.block b hb⟩) DZ.out (by simp; omega) (by omega) ?_
      intro g5 c5 w5 o5 g15 h5
      rw [List.nil_append] at o5 ⊢
      have B5 := Lib.hid (B1.out.grown g15 (by omega) (fun j e => by injection e with e; omega))
      have SN := Lib.hid (show SlS w5 (fun b => (wr.heap.size ≤ b ∧ b < w5.heap.size) ∧ isStr w5 b) (some ⟨g5, 0, none⟩) ns from fun j x hj =>
        ⟨⟨g5, 0, none⟩, rfl, ⟨o5.lt g5 rfl, own_cells o5 rfl⟩, World.ownsRow.cells o5 (g := g5) rfl j _ (by rw [List.getElem?_map, hj]; rfl)⟩)
      clear o5 g15 h5
      refine ⟨.inr (keepS.out _ B5.out), ?_⟩
      refine anyBut_one 21 rfl (by kernel_rfl) (by kernel_rfl) ?_
      go_simp
      refine ⟨by first | exact keepS.out _ B5.out | exact .inr (keepS.out _ B5.out), ?_⟩
      obtain ⟨V6, hV6⟩ : ∃ V6, w5.alloc (.cells #[.int .i64 k, .int .i64 (-1), .slice (some ⟨g5, 0, none⟩) ns.length c5, .slice none 0 0] 62) = V6 := ⟨_, rfl⟩
      have z5 := B5.out.size
      have B6 := Lib.hid (show Below wr.heap.size wr V6 by rw [← hV6]; exact B5.out.alloc (by omega) _)
      have N6 := Lib.hid (show Bk V6 w5.heap.size #[.int .i64 k, .int .i64 (-1), .slice (some ⟨g5, 0, none⟩) ns.length c5, .slice none 0 0] 62 by rw [← hV6]; exact Bk.new w5 _ _)
      have zV6 : V6.heap.size = w5.heap.size + 1 := by rw [← hV6, World.size_alloc]
      have O6 := Lib.hid (own_keep HN.out.row fun b hb => B6.out.block b (HN.out.row.lt b hb).2)
      refine anyBut_one 22 rfl (by kernel_rfl) (by kernel_rfl) ?_
      go_simp
      refine ⟨by first | exact keepS.out _ B6.out | exact .inr (keepS.out _ B6.out), ?_⟩
      refine anyBut_one 23 rfl (by kernel_rfl) (by kernel_rfl) ?_
      refine wp_append_lies _ _ _ 53 rfl 0 62 i1 _ 4 64 Tryz.underlying53 hi1 hy0 hy1 hy2 rfl (by omega) (.slice AL k cL) k _ rfl O6.out ⟨w5.heap.size, 0, none⟩ 1 1 [.int .i64 k, .int .i64 (-1), .slice (some ⟨g5, 0, none⟩) ns.length c5, .slice none 0 0] rfl rfl (World.news_of_block (cs := #[.int .i64 k, .int .i64 (-1), .slice (some ⟨g5, 0, none⟩) ns.length c5, .slice none 0 0]) (t := 62) (fr := (0, 0)) N6.out) (by simp [Value.oneCell']) (by omega) (by unfold maxLen; omega) (by omega) (by omega) (w5.heap.size + 1) zV6 ?_
      intro g6 c6 w6 o6 g56 h6 h6l
      obtain ⟨na, hp6, ch6⟩ := HN.out.shape (o := .cells #[.int .i64 k, .int .i64 (-1), .slice (some ⟨g5, 0, none⟩) ns.length c5, .slice none 0 0] 62) (gN := g5) (cN := c5) hlt B5.out (hV6 ▸ g56) (by rw [NS.out]; exact SN.out) (by rw [NS.out]; exact o6) h6 h6l
      rw [NS.out] at na
      obtain ⟨W7, hW7⟩ : ∃ W7, w6.setCell ⟨P, 0, none⟩ (.slice (some ⟨g6, 0, none⟩) (k + 1) c6) = W7 := ⟨_, rfl⟩
      rw [hW7] at na ch6
      have NA := Lib.hid na
      have CH := Lib.hid ch6
      have p6 := hp6.cell 0 _ rfl
      have f6 := hp6.frozen 0
      have y6 : w6.cell? ⟨g, o + k * 3 + 1, none⟩ = some (.slice D ns.length d) := by
        have hg : some g ≠ (Value.slice AL k cL).ownBlock := fun e => by
          have h1 := HF.out g (HN.out.fL g e.symm)
          have h2 : g < w.heap.size := GW.out
          omega
        exact (World.cell?_of_block ((g56.block g (by have := B6.out.size; omega) hg).trans (B6.out.block g glw))).trans y1
      have S6 := Lib.hid (show w6.cell? ⟨P, 0, none⟩ = some (.slice AL k cL) ∧ w6.cell? ⟨g, o + k * 3 + 1, none⟩ = some (.slice D ns.length d) from ⟨p6, y6⟩)
      clear o6 g56 h6 na hp6 ch6
      refine ⟨.inr S6.out, ?_⟩
      refine anyBut_one 24 rfl (by kernel_rfl) (by kernel_rfl) ?_
      go_simp
      first
        | refine ⟨.inr S6.out, ?_⟩
        | refine ⟨S6.out, ?_⟩
        | skip
      refine anyBut_one 25 rfl (by kernel_rfl) (by kernel_rfl) ?_
      go_simp
      first
        | refine ⟨.inr S6.out, ?_⟩
        | refine ⟨S6.out, ?_⟩
        | skip
      refine anyBut_one 26 rfl (by kernel_rfl) (by kernel_rfl) ?_
      go_simp
      first
        | refine ⟨.inl rfl, rfl, ?_⟩
        | refine ⟨rfl, ?_⟩
      have r7 := NA.out.hp.cell 1 _ rfl
      have rr7 := Lib.hid (show W7.ownsRow 0 3 1 (.slice AR k cR) k ((List.range k).map fun (k : Nat) => Value.int .i64 (k : Int)) by
        have h := NA.out.roots
        unfold RootsV at h
        rw [List.length_range] at h
        exact h)
      have BW7 := Lib.hid (show Below P w W7 from HB.out.trans (CH.out.below HF.out (by omega)))
      have F7 := Lib.hid (show ∀ b, More F wr w6 b → P ≤ b from fun b hb => hb.elim (HF.out b) (fun h => by omega))
      clear p6 f6 y6 cP y1
      go_wp2_with (at_builtin; refine wpList_append_lies _ rfl _ _ 54 rfl 0 3 i0 (.int .i64 0) 1 8 Tryz.underlying54 hi0 hz0 hz1 hz2 rfl (by decide) (.slice AR k cR) k _ rfl (World.ownsRow.alloc rr7.out _) ⟨W7.heap.size, 0, none⟩ 1 1 [.int .i64 k] rfl rfl (World.news_of_block (cs := #[.int .i64 k]) (t := 3) (fr := (0, 0)) (heap_alloc_new W7 _)) (by simp [Value.oneCell']) (by omega) (by unfold maxLen; omega) (by omega) (by omega) (W7.heap.size + 1) (by simp) ?_)
      intro g8 c8 w8 o8 g78 h8 h8l
      obtain ⟨na2, hp8, ch8⟩ := NA.out.root g78 o8 h8 h8l
      have G := Lib.hid (show ∃ F vL vR hd xs, NewAt (w8.setCell ⟨P, 1, none⟩ (.slice (some ⟨g8, 0, none⟩) (k + 1) c8)) P fl (k + 1) (k + 1) F vL vR hd xs ∧ Below P w (w8.setCell ⟨P, 1, none⟩ (.slice (some ⟨g8, 0, none⟩) (k + 1) c8)) ∧ ∀ b, F b → P ≤ b from
        ⟨_, _, _, _, _, na2, BW7.out.trans (ch8.below F7.out (by have := BW7.out.size; omega)), fun b hb => hb.elim (F7.out b) (fun h => by have := BW7.out.size; omega)⟩)
      have p8 := hp8.cell 1 _ rfl
      have f8 := hp8.frozen 1
      clear o8 g78 h8 h8l na2 hp8 ch8
      go_wp2_with fail
      go_roundw
      case rel => exact ⟨k + 1, by omega, by go_num, G⟩
      case measure => simp [intOf]; omega
    · obtain rfl : k = fl.length := by omega
      have FIN := Lib.hid (show RefH wr P (newT fl) F from hn.done rfl rfl h0)
      have HB := Lib.hid hb
      have HF := Lib.hid hF
      clear hh hn hb hF
      go_wp2_with fail
      go_ret
      exact ⟨P, F, rfl, FIN.out, by first | exact HB.out | (rw [hP]; exact HB.out), by first | exact HF.out | (rw [hP]; exact HF.out)⟩
end Go.Proofs.YtjodmjadpooipaaGreatDoor.Sh
