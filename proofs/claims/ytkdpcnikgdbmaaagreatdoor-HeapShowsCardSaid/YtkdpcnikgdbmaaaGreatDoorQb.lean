/-
  Entries of a heap.
-/
import Derived.Test.YtkdpcnikgdbmaaaGreatDoorQa
import Derived.Test.YtkdpcnikgdbmaaaGreatDoorIi
namespace Go.Proofs.YtkdpcnikgdbmaaaGreatDoor.Hp
open Go Go.RowKit Go.Maps Va

theorem wpList_append_ent {rest : List Oper} {ops : Array Oper} {o : Oper} {a : Go.Act} {w : World} {Q : Exit → Go.Act → World → Prop} (hgd : o.guard = none) (s x : Operand)
    (ho : o.op = .call { callee := .builtin .append, args := #[s, x], argTypes := #[33, 33] }) (base : Nat) (v : Value) (es : List Ac.En) (e : Ac.En) (hs : a.eval s = v) (hown : Ac.OwnE w base v es)
    (b c : Nat) (hx : a.eval x = .slice (some ⟨b, 0, none⟩) 1 c) (hc : Bk w b e.cells.toArray 49) (hl : es.length ≤ 8000) (hb : base ≤ w.heap.size)
    (h : ∀ v' w', Ac.OwnE w' base v' (es ++ [e]) → w.grownBy w' v.ownBlock → (v'.ownBlock = v.ownBlock ∨ v'.ownBlock = some w.heap.size) → wpList Tryz.prog ops Q rest (a.put o.dst v') w') : wpList Tryz.prog ops Q (o :: rest) a w :=
  wpList_plain hgd fun _ hK => wp_append_ent s x ho base v es e hs hown b c hx hc hl hb fun v' w' h1 h2 h3 => hK _ _ (h v' w' h1 h2 h3)
theorem own_nil {w : World} {base : Nat} {T : TypeId} {size m n d : Nat} {D : Option Addr} {xs : List Value} (h : w.ownsRow base T size (.slice D n d) m xs) : D = none → n = 0 ∧ d = 0 := by
  rintro rfl
  rcases h.2 with ⟨e, _⟩ | ⟨g, cap, cur, e, _⟩
  · injection e with _ e1 e2
    exact ⟨e1, e2⟩
  · injection e with e1
    cases e1
theorem rows_ent {w : World} {b1 b2 : Nat} {c : Cel} {D E : Option Addr} {n d m e : Nat} {id : Int} (h1 : w.ownsRow b1 9 1 (.slice D n d) n (c.names.map Value.string)) (h2 : w.ownsRow b2 64 3 (.slice E m e) m (flatV c.items)) (hn : c.names.length = n) (hm : c.items.length = m) (P : Nat → Prop) (hP1 : ∀ g, b1 ≤ g → g < w.heap.size → P g) (hP2 : ∀ g, b2 ≤ g → g < w.heap.size → P g) :
    EntAt w P ⟨id, c.kind, c.cls, c.fn, c.ten, D, n, d, E, m, e⟩ (id, c) := by
  subst hn hm
  refine ⟨rfl, rfl, rfl, rfl, rfl, rfl, rfl, ?_, ?_⟩
  · obtain ⟨A, c', e1, h6⟩ := own_names h1
    simp only [Value.slice.injEq] at e1
    rw [e1.1]
    exact h6.keep fun g hg => ⟨hP1 g (h1.lt g hg).1 (h1.lt g hg).2, rfl⟩
  · obtain ⟨A, c', e1, h6⟩ := own_vals h2
    simp only [Value.slice.injEq] at e1
    rw [e1.1]
    exact h6.keep fun g hg => ⟨hP2 g (h2.lt g hg).1 (h2.lt g hg).2, rfl⟩
theorem ownC_ent {w : World} {base M : Nat} {c : Cel} {D E : Option Addr} {n d m e : Nat} {id : Int} (h : OwnC w base M c (.slice D n d) (.slice E m e)) (hn : c.names.length = n) (hm : c.items.length = m) (P : Nat → Prop) (hP : ∀ g, base ≤ g → g < w.heap.size → P g) :
    EntAt w P ⟨id, c.kind, c.cls, c.fn, c.ten, D, n, d, E, m, e⟩ (id, c) := by
  subst hn hm
  exact rows_ent h.2.1 h.2.2.2 rfl rfl P hP fun g hg => hP g (Nat.le_trans h.1 hg)
set_option maxRecDepth 100000 in
set_option maxHeartbeats 2000000 in
theorem entries_any (F : Nat → Prop) (p : Nat) (mb : Option Nat) (f : Int → Hd) (l : List Ent) (next : Int) (w : World) (hcnt : l.length ≤ 8000) (hid : ∀ i ∈ ids l, I64 i) (H : HeapA w F p mb f l next) (hF : ∀ g, F g → g < w.heap.size) (hcl : ∀ e ∈ l, e.2.names.length ≤ 4398046511104 ∧ e.2.items.length ≤ 4398046511104) :
    Calls Tryz.prog 14 #[.pointer (some ⟨p, 0, none⟩)] w fun e w' => ∃ v es, e = .returned v ∧ Hid (Cps w' w.heap.size v es l ∧ Below w.heap.size w w') := by
  have IDS := Lib.hid (ids_any F p mb f l next w (by omega) hid H)
  have HH := Lib.hid H
  have HF := Lib.hid hF
  have ID := Lib.hid hid
  have CL := Lib.hid hcl
  clear H hF hid hcl
  go_enter Tryz.func14, Tryz.ntmps14
  go_wp2_with fail
  refine IDS.out.mono ?_
  rintro e w1 ⟨vI, rfl, hh⟩
  have RI := Lib.hid hh.out.1
  have B1 := Lib.hid hh.out.2
  clear hh IDS
  obtain ⟨AI, cI, rfl⟩ := own_slice RI.out
  have LI := ids_len l
  rw [LI] at RI ⊢
  have HLI := Lib.hid LI
  clear LI
  go_wp2_with fail
  go_loopw [3, 5, 9] (fun o _ i wr => ∃ (k : Nat) (vA : Option Addr) (vn vc : Nat) (fs : List Ac.En), k ≤ l.length ∧ i = .int .i64 k ∧ o = .slice vA vn vc ∧ Hid (Cps wr w.heap.size (.slice vA vn vc) fs (l.take k)) ∧ Hid (IdsAt wr w.heap.size (.slice AI l.length cI) (ids l)) ∧ Hid (Below w.heap.size w wr)) (fun _ _ i _ => l.length - (intOf i).toNat)
  case atStart => exact ⟨0, none, 0, 0, [], by omega, rfl, rfl, Lib.hid (Cps.start _ _), RI, B1⟩
  case round =>
    obtain ⟨k, vA, vn, vc, fs, hk, rfl, rfl, hC, hI, hB⟩ := hrel
    by_cases hlt : k < l.length
    · have hxl := List.getElem?_eq_getElem hlt
      have MX := Lib.hid (List.getElem_mem hlt)
      have TK := Lib.hid (List.take_succ_eq_append_getElem hlt)
      have hI' := hI.out
      unfold IdsAt at hI'
      have ix : (ids l)[k]? = some l[k].1 := by unfold ids; rw [List.getElem?_map, hxl]; rfl
      obtain ⟨gI, capI, eI, _, _⟩ := World.ownsRow.form hI' (by rw [HLI.out]; omega)
      simp only [Value.slice.injEq] at eI
      obtain ⟨rfl, hz, rfl⟩ := eI
      clear hz
      rw [HLI.out] at hI'
      have i0 := World.ownsRow.cellAt hI' k (by omega)
      rw [List.getElem?_map, ix] at i0
      replace i0 : wr.cell? ⟨gI, k, none⟩ = some (.int .i64 l[k].1) := i0
      obtain ⟨x, hx⟩ : ∃ x, l[k] = x := ⟨_, rfl⟩
      rw [hx] at i0 MX TK
      have I6 := Lib.hid (ID.out x.1 (List.mem_map.2 ⟨x, MX.out, rfl⟩))
      clear hxl ix hx hI'
      obtain ⟨id, c⟩ := x
      simp only at i0 I6
      have Hr := Lib.hid (HH.out.low HF.out hB.out)
      have ki : (k : Int) < l.length := by omega
      have c0 := Hr.out.top.cell 0 _ rfl
      have LK := Hr.out.map.look I6.out
      obtain ⟨hp, hc⟩ := Hr.out.of MX.out
      rw [hp] at LK
      obtain ⟨A, nc, B, ic, e1, e2, hS, hV⟩ := hc.rows
      have hb := hc.blk
      unfold rowC at hb
      rw [e1, e2] at hb
      have LT := Lib.hid (fun g (hg : (f id).has g) => Hd.lt_of hc hg)
      have CLX := Lib.hid (CL.out _ MX.out)
      simp only at CLX
      have DU := Lib.hid (dup_any (f id).has c A B c.names.length nc c.items.length ic wr rfl rfl hS hV (fun b hb => LT.out b hb) CLX.out.1 CLX.out.2)
      generalize (f id).b = cb at *
      clear hp hc hS hV e1 e2
      obtain ⟨kind, cls, fn, ten, names, items⟩ := c
      unfold celV at DU
      simp only at DU hb
      have k0 := hb.cell 0 (.int .i64 kind) rfl
      have k1 := hb.cell 1 (.int .i64 cls) rfl
      have k2 := hb.cell 2 (.int .i64 fn) rfl
      have k3 := hb.cell 3 (.int .i64 ten) rfl
      have k4 := hb.cell 4 (.slice A names.length nc) rfl
      have k5 := hb.cell 5 (.slice B items.length ic) rfl
      clear hb
      go_wp2_with fail
      refine DU.out.mono ?_
      rintro e w2 ⟨D, d, E, e', rfl, hh⟩
      obtain ⟨⟨M, oc⟩, hb2⟩ := hh.out
      have zr := hB.out.size
      have B2 := Lib.hid (hB.out.trans (hb2.mono zr))
      have C2 := Lib.hid (hC.out.below hb2 (Nat.le_refl _))
      have I2 := Lib.hid (show IdsAt w2 w.heap.size (.slice (some ⟨gI, 0, none⟩) l.length cI) (ids l) from own_keep hI.out fun g _ hg => hb2.block g hg)
      have EN := Lib.hid (ownC_ent (id := id) oc rfl rfl (Near w.heap.size (.slice vA vn vc) w2) fun g h1 h2 => ⟨by omega, h2, fun e => by have := (hC.out.row.lt g e).2; omega⟩)
      have NL := Lib.hid (show (D = none → names.length = 0 ∧ d = 0) ∧ (E = none → items.length = 0 ∧ e' = 0) from ⟨own_nil oc.2.1, own_nil oc.2.2.2⟩)
      have z2 := B2.out.size
      clear oc hb2 hh DU LK c0 i0 k0 k1 k2 k3 k4 k5
      simp only at EN NL
      obtain ⟨W4, hW4⟩ : ∃ W4, w2.alloc (.cells #[.int .i64 id, .int .i64 kind, .int .i64 cls, .int .i64 fn, .int .i64 ten, .slice D names.length d, .slice E items.length e'] 49) = W4 := ⟨_, rfl⟩
      have b24 := (Below.refl w2.heap.size w2).alloc (Nat.le_refl _) (.cells #[.int .i64 id, .int .i64 kind, .int .i64 cls, .int .i64 fn, .int .i64 ten, .slice D names.length d, .slice E items.length e'] 49)
      rw [hW4] at b24
      have BE := Lib.hid (show Bk W4 w2.heap.size (#[.int .i64 id, .int .i64 kind, .int .i64 cls, .int .i64 fn, .int .i64 ten, .slice D names.length d, .slice E items.length e'] : Array Value) 49 by rw [← hW4]; exact Bk.new w2 _ _)
      have B4 := Lib.hid (B2.out.trans (b24.mono z2))
      have C4 := Lib.hid (C2.out.below b24 (Nat.le_refl _))
      have I4 := Lib.hid (show IdsAt W4 w.heap.size (.slice (some ⟨gI, 0, none⟩) l.length cI) (ids l) from own_keep I2.out fun g _ hg => b24.block g hg)
      have EN4 := Lib.hid (EN.out.keep (w' := W4) (Q := Near w.heap.size (.slice vA vn vc) W4) fun b hb => ⟨⟨hb.1, Nat.lt_of_lt_of_le hb.2.1 b24.size, hb.2.2⟩, b24.block b hb.2.1⟩)
      have z4 := B4.out.size
      have HW4 := Lib.hid hW4
      clear b24 hW4
      go_wp2_with (at_builtin; rw [HW4.out]; refine wpList_append_ent rfl _ _ rfl w.heap.size (.slice vA vn vc) fs (⟨id, kind, cls, fn, ten, D, names.length, d, E, items.length, e'⟩ : Ac.En) rfl C4.out.row w2.heap.size 1 rfl BE.out (by rw [C4.out.len, List.length_take]; omega) z4 ?_)
      intro v5 w5 ho hg hv
      have C5 := Lib.hid (C4.out.add EN4.out NL.out ho hg hv)
      obtain ⟨A5, c5, rfl⟩ := own_slice ho
      have B5 := Lib.hid (B4.out.grown hg z4 (fun b hb => (C4.out.row.lt b hb).1))
      have I5 := Lib.hid (show IdsAt w5 w.heap.size (.slice (some ⟨gI, 0, none⟩) l.length cI) (ids l) from Ac.own_kept I4.out hg fun g hg' => by
        rcases C4.out.row.2 with ⟨e, _⟩ | ⟨g', cap, cur, e, _, hh, _⟩
        · rw [e] at hg'; cases hg'
        · rw [e] at hg'
          obtain rfl : g' = g := by simpa [Value.ownBlock] using hg'
          exact ⟨_, _, hh, by decide⟩)
      have TK5 := Lib.hid (show Cps w5 w.heap.size (.slice A5 (fs ++ [(⟨id, kind, cls, fn, ten, D, names.length, d, E, items.length, e'⟩ : Ac.En)]).length c5) (fs ++ [(⟨id, kind, cls, fn, ten, D, names.length, d, E, items.length, e'⟩ : Ac.En)]) (l.take (k + 1)) by rw [TK.out]; exact C5.out)
      clear ho hg hv
      go_wp2_with fail
      go_roundw
      case rel => exact ⟨k + 1, _, _, _, _, by omega, by go_num, rfl, TK5, I5, B5⟩
      case measure => simp [intOf]; omega
    · obtain rfl : k = l.length := by omega
      have hC2 := hC.out
      rw [List.take_length] at hC2
      go_wp2_with fail
      go_ret
      exact ⟨_, _, rfl, Lib.hid ⟨hC2, hB.out⟩⟩
end Go.Proofs.YtkdpcnikgdbmaaaGreatDoor.Hp
