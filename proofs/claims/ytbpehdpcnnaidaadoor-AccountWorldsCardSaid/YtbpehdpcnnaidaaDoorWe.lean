/-
  The reference's CopyWorld.
-/
import Derived.Test.YtbpehdpcnnaidaaDoorWd
namespace Go.Proofs.YtbpehdpcnnaidaaDoor.Ac
open Go Go.RowKit Va

theorem wpOp_of {P : Program} {ops : Array Oper} {Q : Exit → Act → World → Prop} {i : Nat} {K : Act → World → Prop} {a : Act} {w : World} {o : Oper} (ho : ops[i]? = some o) (hw : Region.wanted o (yielded ops a.tmps) = true) (h : o.wp P a w K Q) : wpOp P ops Q i K a w := by
  unfold wpOp
  simp only [ho, hw, if_true]
  exact .inl h
/-- append of a nil slice. -/
theorem wp_append_nil {P : Program} {w : World} {o : Oper} {a : Act} {K : Act → World → Prop} {Q : Exit → Act → World → Prop} (s x : Operand) (t : TypeId)
    (ho : o.op = .call { callee := .builtin .append, args := #[s, x], argTypes := #[t, t] }) (base : Nat) (e : TypeId) (i : TypeInfo) (size : Nat) (ht : P.underlying t = some (.slice e)) (hi : P.info? e = some i)
    (v : Value) (n : Nat) (xs : List Value) (hs : a.eval s = v) (hown : w.ownsRow base e size v n xs) (hx : a.eval x = .slice none 0 0) (h : K (a.put o.dst v) w) : o.wp P a w K Q := by
  have hrun := run_append_owned_none (P := P) (w := w) base t o.type e i size ht hi v n xs hown
  unfold Oper.wp
  simp [execOp, ho, resolve, invoke, builtin, hs, hx, hrun, Result.andThen]
  exact h
/-- The slice of a row without a block is empty. -/
theorem row_none {w : World} {base : Nat} {e : TypeId} {size n c : Nat} {xs : List Value} (h : w.ownsRow base e size (.slice none n c) n xs) : n = 0 ∧ c = 0 ∧ xs = [] := by
  rcases h.2 with ⟨h', h0⟩ | ⟨g, cap, cur, h', _⟩
  · injection h' with _ h1 h2
    subst h0
    exact ⟨rfl, h2, List.eq_nil_of_length_eq_zero (by simpa using h.1)⟩
  · cases h'
theorem row_ones (d : Wd) (k : Nat) : ∀ u ∈ (rowsOf d k).xs, u.oneCell' = true := by
  have hI : ∀ (v : Value) (zs : List Int), ∀ u ∈ (intRow v zs).xs, u.oneCell' = true := fun v zs u hu => ones zs u hu
  have hV : ∀ u ∈ (rowsOf d 0).xs, u.oneCell' = true := fun u hu => by
    obtain ⟨v, _, hv⟩ := List.mem_flatMap.1 hu
    simp [vcells] at hv
    rcases hv with rfl | rfl | rfl <;> rfl
  rcases k with _ | _ | _ | _ | k
  · exact hV
  · exact hI _ _
  · exact hI _ _
  · exact hI _ _
  · exact hI _ _
/-- append of a row that is read onto an empty one. -/
theorem copy_row {o : Oper} {a : Act} {K : Act → World → Prop} {Q : Exit → Act → World → Prop} {W v : World} {n0 base0 : Nat} (s x : Operand) (t : TypeId)
    (ho : o.op = .call { callee := .builtin .append, args := #[s, x], argTypes := #[t, t] }) (e : TypeId) (i : TypeInfo) (z : Value) (size bytes : Nat) (ht : Tryd.prog.underlying t = some (.slice e)) (hi : Tryd.prog.info? e = some i) (hz : i.zero = some z)
    (hsize : i.size = size) (hby : i.bytes = bytes) (hzs : z.cells.size = size) (hsz : 0 < size) (hb : bytes ≤ 32)
    (g n c : Nat) (A : Option Addr) (xs : List Value) (hs : a.eval s = .slice (some ⟨g, 0, none⟩) 0 0) (hx : a.eval x = .slice A n c) (hown : v.ownsRow n0 e size (.slice (some ⟨g, 0, none⟩) 0 0) 0 [])
    (hsrc : W.ownsRow base0 e size (.slice A n c) n xs) (hW : Below W.heap.size W v) (h1 : ∀ u ∈ xs, u.oneCell' = true) (hn : n ≤ 100000) (hn0 : n0 ≤ v.heap.size)
    (h : ∀ A' c' w', w'.ownsRow n0 e size (.slice A' n c') n xs → v.grownBy w' (some g) → ((Value.slice A' n c').ownBlock = some g ∨ (Value.slice A' n c').ownBlock = some v.heap.size) → K (a.put o.dst (.slice A' n c')) w') : o.wp Tryd.prog a v K Q := by
  rcases A with _ | ad
  · obtain ⟨rfl, rfl, rfl⟩ := row_none hsrc
    exact wp_append_nil s x t ho n0 e i size ht hi _ 0 [] hs hown hx (h _ _ _ hown (World.grownBy.refl v _) (.inl rfl))
  · obtain ⟨hl, hlt, hc⟩ := row_cells hsrc
    refine wp_append_at s x t ho n0 e i z size bytes ht hi hz hsize hby hzs hsz _ 0 [] hs hown ad n c xs hx hl (fun j u hu => ?_) h1 (by unfold maxLen; omega) ?_ hn0 (fun A' c' w' k1 k2 k3 => ?_)
    · rw [hW.cell (show (ad.add j).block < W.heap.size by rw [blk_add]; exact hlt)]; exact hc j u hu
    · have : (0 + n) * bytes ≤ 100000 * 32 := Nat.mul_le_mul (by omega) hb
      omega
    · rw [Nat.zero_add] at k1 k3 ⊢
      exact h A' c' w' k1 k2 k3

def CpF : List Nat := [1, 2, 5, 6, 9, 10, 13, 14, 17, 18, 20, 21]
def CpMid (d : Wd) (w : World) (W0 : World) (n0 : Nat) (l : Array Bool) (a : Act) (v : World) : Prop :=
  ∃ (b x : Nat → Value) (y : Value), a = { tmps := #[.agg #[.slice d.iA d.vs.length d.ic, .slice d.cA d.cs.length d.cc, .slice d.hA d.hs.length d.hc, .slice d.fA d.fs.length d.fc, .slice d.lA d.ls.length d.lc, .int .i64 d.ep], .pointer (some ⟨w.heap.size, 0, none⟩), .pointer (some ⟨w.heap.size + 1, 0, none⟩), b 0, .pointer (some ⟨w.heap.size, 0, none⟩), .slice d.iA d.vs.length d.ic, x 0, b 1, .pointer (some ⟨w.heap.size, 1, none⟩), .slice d.cA d.cs.length d.cc, x 1, b 2, .pointer (some ⟨w.heap.size, 2, none⟩), .slice d.hA d.hs.length d.hc, x 2, b 3, .pointer (some ⟨w.heap.size, 3, none⟩), .slice d.fA d.fs.length d.fc, x 3, b 4, .pointer (some ⟨w.heap.size, 4, none⟩), .slice d.lA d.ls.length d.lc, x 4, .pointer (some ⟨w.heap.size, 5, none⟩), .int .i64 d.ep, y], defers := [] } ∧
    (l.getD 22 true = true → (∀ c, c < 5 → l.getD (4 * c + 3) true = true) ∧ y = .agg #[x 0, x 1, x 2, x 3, x 4, .int .i64 d.ep]) ∧ Below n0 W0 v ∧ ∃ r, Rows5 r v n0 ∧ ∀ c, c < 5 → Ch (l.getD (4 * c) true) (l.getD (4 * c + 3) true) (b c) (x c) (rowsOf d c) (r c)
def CpJ (d : Wd) (w : World) (W0 : World) (n0 : Nat) (S : World → Prop) (Q : Exit → Act → World → Prop) (l : Array Bool) (a : Act) (v : World) : Prop :=
  l.size = 24 ∧ (∀ j ∈ CpF, l.getD j false = true) ∧ S v ∧ ((l.getD 23 true = false ∧ CpMid d w W0 n0 l a v) ∨ ((∀ i, l.getD i true = true) ∧ Q .normal a v))

set_option maxRecDepth 100000 in
set_option maxHeartbeats 8000000 in
theorem copyWorld_any (d : Wd) (base0 K : Nat) (w : World) (h : d.Ok w base0 K) (hK : K ≤ 100000) :
    Calls Tryd.prog 17 #[.agg #[.slice d.iA d.vs.length d.ic, .slice d.cA d.cs.length d.cc, .slice d.hA d.hs.length d.hc, .slice d.fA d.fs.length d.fc, .slice d.lA d.ls.length d.lc, .int .i64 d.ep]] w fun e w' => ∃ d' : Wd, e = .returned (.agg #[.slice d'.iA d'.vs.length d'.ic, .slice d'.cA d'.cs.length d'.cc, .slice d'.hA d'.hs.length d'.hc, .slice d'.fA d'.fs.length d'.fc, .slice d'.lA d'.ls.length d'.lc, .int .i64 d'.ep]) ∧ Hid (d'.vs = d.vs ∧ d'.cs = d.cs ∧ d'.hs = d.hs ∧ d'.fs = d.fs ∧ d'.ls = d.ls ∧ d'.ep = d.ep) ∧ Hid (d'.Ok w' w.heap.size K) ∧ Hid (Below w.heap.size w w') := by
  have H := Lib.hid h
  clear h
  have hb0 : Below w.heap.size w ((w.alloc (.cells #[.slice d.iA d.vs.length d.ic, .slice d.cA d.cs.length d.cc, .slice d.hA d.hs.length d.hc, .slice d.fA d.fs.length d.fc, .slice d.lA d.ls.length d.lc, .int .i64 d.ep] 28)).alloc (.cells #[.slice none 0 0, .slice none 0 0, .slice none 0 0, .slice none 0 0, .slice none 0 0, .int .i64 0] 28)) := ((Below.refl _ w).alloc (Nat.le_refl _) _).alloc (by simp) _
  have x0 := (Bk.new w #[.slice d.iA d.vs.length d.ic, .slice d.cA d.cs.length d.cc, .slice d.hA d.hs.length d.hc, .slice d.fA d.fs.length d.fc, .slice d.lA d.ls.length d.lc, .int .i64 d.ep] 28).alloc (.cells #[.slice none 0 0, .slice none 0 0, .slice none 0 0, .slice none 0 0, .slice none 0 0, .int .i64 0] 28)
  have x1 := Bk.new (w.alloc (.cells #[.slice d.iA d.vs.length d.ic, .slice d.cA d.cs.length d.cc, .slice d.hA d.hs.length d.hc, .slice d.fA d.fs.length d.fc, .slice d.lA d.ls.length d.lc, .int .i64 d.ep] 28)) #[.slice none 0 0, .slice none 0 0, .slice none 0 0, .slice none 0 0, .slice none 0 0, .int .i64 0] 28
  rw [World.size_alloc] at x1
  have hsz : ((w.alloc (.cells #[.slice d.iA d.vs.length d.ic, .slice d.cA d.cs.length d.cc, .slice d.hA d.hs.length d.hc, .slice d.fA d.fs.length d.fc, .slice d.lA d.ls.length d.lc, .int .i64 d.ep] 28)).alloc (.cells #[.slice none 0 0, .slice none 0 0, .slice none 0 0, .slice none 0 0, .slice none 0 0, .int .i64 0] 28)).heap.size = w.heap.size + 2 := by simp
  go_enter Tryd.func17, Tryd.ntmps17
  go_wp2_with fail
  obtain ⟨W0, hW0⟩ : ∃ W0, (w.alloc (.cells #[.slice d.iA d.vs.length d.ic, .slice d.cA d.cs.length d.cc, .slice d.hA d.hs.length d.hc, .slice d.fA d.fs.length d.fc, .slice d.lA d.ls.length d.lc, .int .i64 d.ep] 28)).alloc (.cells #[.slice none 0 0, .slice none 0 0, .slice none 0 0, .slice none 0 0, .slice none 0 0, .int .i64 0] 28) = W0 := ⟨_, rfl⟩
  rw [hW0] at hb0 x0 x1 hsz ⊢
  clear hW0
  have HB0 := Lib.hid hb0
  have X0 := Lib.hid x0
  have X1 := Lib.hid x1
  have HSZ := Lib.hid hsz
  have SW := Lib.hid (show (fun v => v.cell? ⟨w.heap.size, 0, none⟩ = some (.slice d.iA d.vs.length d.ic) ∧ v.cell? ⟨w.heap.size, 1, none⟩ = some (.slice d.cA d.cs.length d.cc) ∧ v.cell? ⟨w.heap.size, 2, none⟩ = some (.slice d.hA d.hs.length d.hc) ∧ v.cell? ⟨w.heap.size, 3, none⟩ = some (.slice d.fA d.fs.length d.fc) ∧ v.cell? ⟨w.heap.size, 4, none⟩ = some (.slice d.lA d.ls.length d.lc) ∧ v.cell? ⟨w.heap.size, 5, none⟩ = some (.int .i64 d.ep)) W0.drew from ⟨x0.cell 0 _ rfl, x0.cell 1 _ rfl, x0.cell 2 _ rfl, x0.cell 3 _ rfl, x0.cell 4 _ rfl, x0.cell 5 _ rfl⟩)
  have SB := Lib.hid (show ∀ v, Below W0.heap.size W0.drew v → (fun v => v.cell? ⟨w.heap.size, 0, none⟩ = some (.slice d.iA d.vs.length d.ic) ∧ v.cell? ⟨w.heap.size, 1, none⟩ = some (.slice d.cA d.cs.length d.cc) ∧ v.cell? ⟨w.heap.size, 2, none⟩ = some (.slice d.hA d.hs.length d.hc) ∧ v.cell? ⟨w.heap.size, 3, none⟩ = some (.slice d.fA d.fs.length d.fc) ∧ v.cell? ⟨w.heap.size, 4, none⟩ = some (.slice d.lA d.ls.length d.lc) ∧ v.cell? ⟨w.heap.size, 5, none⟩ = some (.int .i64 d.ep)) v from fun v hb => ⟨(hb.cell (p := ⟨w.heap.size, 0, none⟩) (by simp; omega)).trans SW.out.1, (hb.cell (p := ⟨w.heap.size, 1, none⟩) (by simp; omega)).trans SW.out.2.1, (hb.cell (p := ⟨w.heap.size, 2, none⟩) (by simp; omega)).trans SW.out.2.2.1, (hb.cell (p := ⟨w.heap.size, 3, none⟩) (by simp; omega)).trans SW.out.2.2.2.1, (hb.cell (p := ⟨w.heap.size, 4, none⟩) (by simp; omega)).trans SW.out.2.2.2.2.1, (hb.cell (p := ⟨w.heap.size, 5, none⟩) (by simp; omega)).trans SW.out.2.2.2.2.2⟩)
  have HBD := Lib.hid (show Below w.heap.size w W0.drew from ⟨hb0.os, hb0.tape, hb0.output, hb0.size, hb0.block⟩)
  obtain ⟨i0, hi0, hz0, hz1, hz2⟩ := info_parts infoI
  obtain ⟨j0, hj0, hy0, hy1, hy2⟩ := info_parts infoV
  clear hb0 x0 x1 hsz
  refine wp_region_held (S := fun v => v.cell? ⟨w.heap.size, 0, none⟩ = some (.slice d.iA d.vs.length d.ic) ∧ v.cell? ⟨w.heap.size, 1, none⟩ = some (.slice d.cA d.cs.length d.cc) ∧ v.cell? ⟨w.heap.size, 2, none⟩ = some (.slice d.hA d.hs.length d.hc) ∧ v.cell? ⟨w.heap.size, 3, none⟩ = some (.slice d.fA d.fs.length d.fc) ∧ v.cell? ⟨w.heap.size, 4, none⟩ = some (.slice d.lA d.ls.length d.lc) ∧ v.cell? ⟨w.heap.size, 5, none⟩ = some (.int .i64 d.ep)) (by kernel_rfl) ?_
  refine wpAnyH_take (i := 1) (v := ?_) rfl (by kernel_rfl) (by kernel_rfl) (by kernel_rfl) (fun _ _ _ h => h) (.inl ⟨by kernel_rfl, fun v hS => ?_⟩) SW.out ?_
  rotate_left
  · obtain ⟨c0, c1, c2, c3, c4, c5⟩ := hS
    go_simp
    with_reducible rfl
  refine wpAnyH_take (i := 2) (v := ?_) rfl (by kernel_rfl) (by kernel_rfl) (by kernel_rfl) (fun _ _ _ h => h) (.inl ⟨by kernel_rfl, fun v hS => ?_⟩) SW.out ?_
  rotate_left
  · obtain ⟨c0, c1, c2, c3, c4, c5⟩ := hS
    go_simp
    with_reducible rfl
  refine wpAnyH_take (i := 5) (v := ?_) rfl (by kernel_rfl) (by kernel_rfl) (by kernel_rfl) (fun _ _ _ h => h) (.inl ⟨by kernel_rfl, fun v hS => ?_⟩) SW.out ?_
  rotate_left
  · obtain ⟨c0, c1, c2, c3, c4, c5⟩ := hS
    go_simp
    with_reducible rfl
  refine wpAnyH_take (i := 6) (v := ?_) rfl (by kernel_rfl) (by kernel_rfl) (by kernel_rfl) (fun _ _ _ h => h) (.inl ⟨by kernel_rfl, fun v hS => ?_⟩) SW.out ?_
  rotate_left
  · obtain ⟨c0, c1, c2, c3, c4, c5⟩ := hS
    go_simp
    with_reducible rfl
  refine wpAnyH_take (i := 9) (v := ?_) rfl (by kernel_rfl) (by kernel_rfl) (by kernel_rfl) (fun _ _ _ h => h) (.inl ⟨by kernel_rfl, fun v hS => ?_⟩) SW.out ?_
  rotate_left
  · obtain ⟨c0, c1, c2, c3, c4, c5⟩ := hS
    go_simp
    with_reducible rfl
  refine wpAnyH_take (i := 10) (v := ?_) rfl (by kernel_rfl) (by kernel_rfl) (by kernel_rfl) (fun _ _ _ h => h) (.inl ⟨by kernel_rfl, fun v hS => ?_⟩) SW.out ?_
  rotate_left
  · obtain ⟨c0, c1, c2, c3, c4, c5⟩ := hS
    go_simp
    with_reducible rfl
  refine wpAnyH_take (i := 13) (v := ?_) rfl (by kernel_rfl) (by kernel_rfl) (by kernel_rfl) (fun _ _ _ h => h) (.inl ⟨by kernel_rfl, fun v hS => ?_⟩) SW.out ?_
  rotate_left
  · obtain ⟨c0, c1, c2, c3, c4, c5⟩ := hS
    go_simp
    with_reducible rfl
  refine wpAnyH_take (i := 14) (v := ?_) rfl (by kernel_rfl) (by kernel_rfl) (by kernel_rfl) (fun _ _ _ h => h) (.inl ⟨by kernel_rfl, fun v hS => ?_⟩) SW.out ?_
  rotate_left
  · obtain ⟨c0, c1, c2, c3, c4, c5⟩ := hS
    go_simp
    with_reducible rfl
  refine wpAnyH_take (i := 17) (v := ?_) rfl (by kernel_rfl) (by kernel_rfl) (by kernel_rfl) (fun _ _ _ h => h) (.inl ⟨by kernel_rfl, fun v hS => ?_⟩) SW.out ?_
  rotate_left
  · obtain ⟨c0, c1, c2, c3, c4, c5⟩ := hS
    go_simp
    with_reducible rfl
  refine wpAnyH_take (i := 18) (v := ?_) rfl (by kernel_rfl) (by kernel_rfl) (by kernel_rfl) (fun _ _ _ h => h) (.inl ⟨by kernel_rfl, fun v hS => ?_⟩) SW.out ?_
  rotate_left
  · obtain ⟨c0, c1, c2, c3, c4, c5⟩ := hS
    go_simp
    with_reducible rfl
  refine wpAnyH_take (i := 20) (v := ?_) rfl (by kernel_rfl) (by kernel_rfl) (by kernel_rfl) (fun _ _ _ h => h) (.inl ⟨by kernel_rfl, fun v hS => ?_⟩) SW.out ?_
  rotate_left
  · obtain ⟨c0, c1, c2, c3, c4, c5⟩ := hS
    go_simp
    with_reducible rfl
  refine wpAnyH_take (i := 21) (v := ?_) rfl (by kernel_rfl) (by kernel_rfl) (by kernel_rfl) (fun _ _ _ h => h) (.inl ⟨by kernel_rfl, fun v hS => ?_⟩) SW.out ?_
  rotate_left
  · obtain ⟨c0, c1, c2, c3, c4, c5⟩ := hS
    go_simp
    with_reducible rfl
  refine anyH_invQ (fun Q => CpJ d w W0.drew W0.heap.size (fun v => v.cell? ⟨w.heap.size, 0, none⟩ = some (.slice d.iA d.vs.length d.ic) ∧ v.cell? ⟨w.heap.size, 1, none⟩ = some (.slice d.cA d.cs.length d.cc) ∧ v.cell? ⟨w.heap.size, 2, none⟩ = some (.slice d.hA d.hs.length d.hc) ∧ v.cell? ⟨w.heap.size, 3, none⟩ = some (.slice d.fA d.fs.length d.fc) ∧ v.cell? ⟨w.heap.size, 4, none⟩ = some (.slice d.lA d.ls.length d.lc) ∧ v.cell? ⟨w.heap.size, 5, none⟩ = some (.int .i64 d.ep)) Q) _ _ _ _ (by decide +kernel) ?init ?hJS ?hstep ?hdone
  case hJS => exact fun l a v h => h.2.2.1
  case init =>
    refine ⟨by kernel_rfl, by decide +kernel, SW.out, .inl ⟨by kernel_rfl, fun _ => undef, fun _ => undef, undef, by kernel_rfl, fun h => absurd h (by decide +kernel), ⟨rfl, rfl, rfl, Nat.le_refl _, fun _ _ => rfl⟩, fun c => ⟨(rowsOf d c).e, (rowsOf d c).size, .slice none 0 0, 0, []⟩, ⟨fun c _ => World.ownsRow_nil _ _ _ _, fun _ _ _ _ _ _ hb => by cases hb⟩, fun c hc => ?_⟩⟩
    refine .inl ⟨?_, ?_, rfl⟩
    · rcases (show c = 0 ∨ c = 1 ∨ c = 2 ∨ c = 3 ∨ c = 4 by omega) with rfl | rfl | rfl | rfl | rfl <;> kernel_rfl
    · rcases (show c = 0 ∨ c = 1 ∨ c = 2 ∨ c = 3 ∨ c = 4 by omega) with rfl | rfl | rfl | rfl | rfl <;> kernel_rfl
  case hdone =>
    rintro l a v ⟨hs, hF, hS, hM⟩ hr
    rcases hM with ⟨h23, _⟩ | ⟨_, hq⟩
    · exfalso
      have hF' := fun j hj => hF j hj
      have g1 := hF 1 (by decide)
      have g2 := hF 2 (by decide)
      have g5 := hF 5 (by decide)
      have g6 := hF 6 (by decide)
      have g9 := hF 9 (by decide)
      have g10 := hF 10 (by decide)
      have g13 := hF 13 (by decide)
      have g14 := hF 14 (by decide)
      have g17 := hF 17 (by decide)
      have g18 := hF 18 (by decide)
      have g20 := hF 20 (by decide)
      have g21 := hF 21 (by decide)
      have g0 := not_ready_on hr 0 rfl [] (by kernel_rfl) (fun j hj => by cases hj) (by omega)
      have g4 := not_ready_on hr 4 rfl [] (by kernel_rfl) (fun j hj => by cases hj) (by omega)
      have g8 := not_ready_on hr 8 rfl [] (by kernel_rfl) (fun j hj => by cases hj) (by omega)
      have g12 := not_ready_on hr 12 rfl [] (by kernel_rfl) (fun j hj => by cases hj) (by omega)
      have g16 := not_ready_on hr 16 rfl [] (by kernel_rfl) (fun j hj => by cases hj) (by omega)
      have g3 := not_ready_on hr 3 rfl [0, 2] (by kernel_rfl) (fun j hj => by
        simp only [List.mem_cons, List.not_mem_nil, or_false] at hj
        rcases hj with rfl | rfl <;> assumption) (by omega)
      have g7 := not_ready_on hr 7 rfl [4, 6, 3] (by kernel_rfl) (fun j hj => by
        simp only [List.mem_cons, List.not_mem_nil, or_false] at hj
        rcases hj with rfl | rfl | rfl <;> assumption) (by omega)
      have g11 := not_ready_on hr 11 rfl [8, 10, 7] (by kernel_rfl) (fun j hj => by
        simp only [List.mem_cons, List.not_mem_nil, or_false] at hj
        rcases hj with rfl | rfl | rfl <;> assumption) (by omega)
      have g15 := not_ready_on hr 15 rfl [12, 14, 11] (by kernel_rfl) (fun j hj => by
        simp only [List.mem_cons, List.not_mem_nil, or_false] at hj
        rcases hj with rfl | rfl | rfl <;> assumption) (by omega)
      have g19 := not_ready_on hr 19 rfl [16, 18, 15] (by kernel_rfl) (fun j hj => by
        simp only [List.mem_cons, List.not_mem_nil, or_false] at hj
        rcases hj with rfl | rfl | rfl <;> assumption) (by omega)
      have g22 := not_ready_on hr 22 rfl [3, 7, 11, 15, 19, 21] (by kernel_rfl) (fun j hj => by
        simp only [List.mem_cons, List.not_mem_nil, or_false] at hj
        rcases hj with rfl | rfl | rfl | rfl | rfl | rfl <;> assumption) (by omega)
      have g23 := not_ready_on hr 23 rfl [22, 19, 0, 1, 2, 3, 4, 5, 6, 7, 8, 9, 10, 11, 12, 13, 14, 15, 16, 17, 18, 19, 20, 21, 22] (by kernel_rfl) (fun j hj => by
        simp only [List.mem_cons, List.not_mem_nil, or_false] at hj
        rcases hj with rfl | rfl | rfl | rfl | rfl | rfl | rfl | rfl | rfl | rfl | rfl | rfl | rfl | rfl | rfl | rfl | rfl | rfl | rfl | rfl | rfl | rfl | rfl | rfl | rfl <;> assumption) (by omega)
      have := getD_both g23
      rw [h23] at this; cases this
    · exact hq
  case hstep =>
    rintro l a v i o ⟨hs, hF, hS, hM⟩ ho hi hd
    have hi24 : i < 24 := by
      rcases Nat.lt_or_ge i 24 with h' | h'
      · exact h'
      · rw [Array.getElem?_eq_none (by simpa using h')] at ho; cases ho
    rcases hM with ⟨h23, b, x, y, rfl, hy, hB, r, hr, hch⟩ | ⟨hall, _⟩
    · obtain ⟨c0, c1, c2, c3, c4, c5⟩ := hS
      have HF := Lib.hid hF
      have HD := Lib.hid hd
      have HR := Lib.hid hr
      have HC := Lib.hid hch
      have HB := Lib.hid hB
      have HY := Lib.hid hy
      have HS := Lib.hid hs
      have H23 := Lib.hid h23
      have HI := Lib.hid hi
      clear hF hd hr hch hB hy hs h23 hi
      rcases (show i = 0 ∨ i = 1 ∨ i = 2 ∨ i = 3 ∨ i = 4 ∨ i = 5 ∨ i = 6 ∨ i = 7 ∨ i = 8 ∨ i = 9 ∨ i = 10 ∨ i = 11 ∨ i = 12 ∨ i = 13 ∨ i = 14 ∨ i = 15 ∨ i = 16 ∨ i = 17 ∨ i = 18 ∨ i = 19 ∨ i = 20 ∨ i = 21 ∨ i = 22 ∨ i = 23 by omega) with rfl | rfl | rfl | rfl | rfl | rfl | rfl | rfl | rfl | rfl | rfl | rfl | rfl | rfl | rfl | rfl | rfl | rfl | rfl | rfl | rfl | rfl | rfl | rfl
      · -- 0
        cases ho
        obtain ⟨r', hr', hch'⟩ := ch_build HR.out HB.out.size HS.out HC.out 0 (by omega) HI.out
        refine wpOp_of rfl rfl ?_
        go_simp
        have HB' := HB.out.alloc HB.out.size (.cells #[] 52)
        exact ⟨by rw [Array.size_setIfInBounds]; exact HS.out, fun j hj => set_mono (HF.out j hj), SB.out _ HB', .inl ⟨by rw [set_off (by decide)]; exact H23.out, updf b 0 (.slice (some ⟨v.heap.size, 0, none⟩) 0 0), x, y, rfl, fun h => by
          rw [set_off (by decide)] at h
          exact ⟨fun c' hc' => by rw [set_off (by omega)]; exact (HY.out h).1 c' hc', (HY.out h).2⟩, HB', r', hr', hch'⟩⟩
      · -- 1
        exact absurd (getD_both (HF.out 1 (by decide))) (by rw [HI.out]; decide)
      · -- 2
        exact absurd (getD_both (HF.out 2 (by decide))) (by rw [HI.out]; decide)
      · -- 3
        cases ho
        have hp := getD_both (HD.out { on := 0, ground := .data } (by simp) rfl)
        obtain ⟨g, hbg, hown⟩ := ch_row (HC.out 0 (by omega)) hp HI.out (HR.out.own 0 (by omega))
        have hn := H.out.n
        refine wpOp_of rfl rfl ?_
        refine copy_row (W := w) (base0 := base0) (n0 := W0.heap.size) _ _ _ rfl 52 j0 _ 3 32 Tryd.underlying26 hj0 hy0 hy1 hy2 rfl (by omega) (by omega) g d.vs.length d.ic d.iA (rowsOf d 0).xs hbg rfl hown (H.out.rows.own 0 (by omega)) (HBD.out.trans (HB.out.mono HBD.out.size)) (row_ones d 0) (by omega) HB.out.size (fun A' c' w' k1 k2 k3 => ?_)
        have hg0 : W0.heap.size ≤ g := (hown.lt g rfl).1
        have HB' := HB.out.grown k2 HB.out.size (fun k e => by cases e; exact hg0)
        obtain ⟨r', hr', hch'⟩ := ch_append HR.out HS.out HC.out 0 (by omega) hp HI.out (.slice A' d.vs.length c') ⟨A', c', rfl⟩ (by rw [hbg]; exact k2) k1 (by rw [hbg]; exact k3)
        exact ⟨by rw [Array.size_setIfInBounds]; exact HS.out, fun j hj => set_mono (HF.out j hj), SB.out _ HB', .inl ⟨by rw [set_off (by decide)]; exact H23.out, b, updf x 0 (.slice A' d.vs.length c'), y, rfl, (fun h => absurd ((HY.out (by rw [set_off (by decide)] at h; exact h)).1 0 (by omega)) (by rw [HI.out]; decide)), HB', r', hr', hch'⟩⟩
      · -- 4
        cases ho
        obtain ⟨r', hr', hch'⟩ := ch_build HR.out HB.out.size HS.out HC.out 1 (by omega) HI.out
        refine wpOp_of rfl rfl ?_
        go_simp
        have HB' := HB.out.alloc HB.out.size (.cells #[] 3)
        exact ⟨by rw [Array.size_setIfInBounds]; exact HS.out, fun j hj => set_mono (HF.out j hj), SB.out _ HB', .inl ⟨by rw [set_off (by decide)]; exact H23.out, updf b 1 (.slice (some ⟨v.heap.size, 0, none⟩) 0 0), x, y, rfl, fun h => by
          rw [set_off (by decide)] at h
          exact ⟨fun c' hc' => by rw [set_off (by omega)]; exact (HY.out h).1 c' hc', (HY.out h).2⟩, HB', r', hr', hch'⟩⟩
      · -- 5
        exact absurd (getD_both (HF.out 5 (by decide))) (by rw [HI.out]; decide)
      · -- 6
        exact absurd (getD_both (HF.out 6 (by decide))) (by rw [HI.out]; decide)
      · -- 7
        cases ho
        have hp := getD_both (HD.out { on := 4, ground := .data } (by simp) rfl)
        obtain ⟨g, hbg, hown⟩ := ch_row (HC.out 1 (by omega)) hp HI.out (HR.out.own 1 (by omega))
        have hn := H.out.n
        refine wpOp_of rfl rfl ?_
        refine copy_row (W := w) (base0 := base0) (n0 := W0.heap.size) _ _ _ rfl 3 i0 _ 1 8 Tryd.underlying22 hi0 hz0 hz1 hz2 rfl (by omega) (by omega) g d.cs.length d.cc d.cA (rowsOf d 1).xs hbg rfl hown (H.out.rows.own 1 (by omega)) (HBD.out.trans (HB.out.mono HBD.out.size)) (row_ones d 1) (by omega) HB.out.size (fun A' c' w' k1 k2 k3 => ?_)
        have hg0 : W0.heap.size ≤ g := (hown.lt g rfl).1
        have HB' := HB.out.grown k2 HB.out.size (fun k e => by cases e; exact hg0)
        obtain ⟨r', hr', hch'⟩ := ch_append HR.out HS.out HC.out 1 (by omega) hp HI.out (.slice A' d.cs.length c') ⟨A', c', rfl⟩ (by rw [hbg]; exact k2) k1 (by rw [hbg]; exact k3)
        exact ⟨by rw [Array.size_setIfInBounds]; exact HS.out, fun j hj => set_mono (HF.out j hj), SB.out _ HB', .inl ⟨by rw [set_off (by decide)]; exact H23.out, b, updf x 1 (.slice A' d.cs.length c'), y, rfl, (fun h => absurd ((HY.out (by rw [set_off (by decide)] at h; exact h)).1 1 (by omega)) (by rw [HI.out]; decide)), HB', r', hr', hch'⟩⟩
      · -- 8
        cases ho
        obtain ⟨r', hr', hch'⟩ := ch_build HR.out HB.out.size HS.out HC.out 2 (by omega) HI.out
        refine wpOp_of rfl rfl ?_
        go_simp
        have HB' := HB.out.alloc HB.out.size (.cells #[] 3)
        exact ⟨by rw [Array.size_setIfInBounds]; exact HS.out, fun j hj => set_mono (HF.out j hj), SB.out _ HB', .inl ⟨by rw [set_off (by decide)]; exact H23.out, updf b 2 (.slice (some ⟨v.heap.size, 0, none⟩) 0 0), x, y, rfl, fun h => by
          rw [set_off (by decide)] at h
          exact ⟨fun c' hc' => by rw [set_off (by omega)]; exact (HY.out h).1 c' hc', (HY.out h).2⟩, HB', r', hr', hch'⟩⟩
      · -- 9
        exact absurd (getD_both (HF.out 9 (by decide))) (by rw [HI.out]; decide)
      · -- 10
        exact absurd (getD_both (HF.out 10 (by decide))) (by rw [HI.out]; decide)
      · -- 11
        cases ho
        have hp := getD_both (HD.out { on := 8, ground := .data } (by simp) rfl)
        obtain ⟨g, hbg, hown⟩ := ch_row (HC.out 2 (by omega)) hp HI.out (HR.out.own 2 (by omega))
        have hn := H.out.n
        refine wpOp_of rfl rfl ?_
        refine copy_row (W := w) (base0 := base0) (n0 := W0.heap.size) _ _ _ rfl 3 i0 _ 1 8 Tryd.underlying22 hi0 hz0 hz1 hz2 rfl (by omega) (by omega) g d.hs.length d.hc d.hA (rowsOf d 2).xs hbg rfl hown (H.out.rows.own 2 (by omega)) (HBD.out.trans (HB.out.mono HBD.out.size)) (row_ones d 2) (by omega) HB.out.size (fun A' c' w' k1 k2 k3 => ?_)
        have hg0 : W0.heap.size ≤ g := (hown.lt g rfl).1
        have HB' := HB.out.grown k2 HB.out.size (fun k e => by cases e; exact hg0)
        obtain ⟨r', hr', hch'⟩ := ch_append HR.out HS.out HC.out 2 (by omega) hp HI.out (.slice A' d.hs.length c') ⟨A', c', rfl⟩ (by rw [hbg]; exact k2) k1 (by rw [hbg]; exact k3)
        exact ⟨by rw [Array.size_setIfInBounds]; exact HS.out, fun j hj => set_mono (HF.out j hj), SB.out _ HB', .inl ⟨by rw [set_off (by decide)]; exact H23.out, b, updf x 2 (.slice A' d.hs.length c'), y, rfl, (fun h => absurd ((HY.out (by rw [set_off (by decide)] at h; exact h)).1 2 (by omega)) (by rw [HI.out]; decide)), HB', r', hr', hch'⟩⟩
      · -- 12
        cases ho
        obtain ⟨r', hr', hch'⟩ := ch_build HR.out HB.out.size HS.out HC.out 3 (by omega) HI.out
        refine wpOp_of rfl rfl ?_
        go_simp
        have HB' := HB.out.alloc HB.out.size (.cells #[] 3)
        exact ⟨by rw [Array.size_setIfInBounds]; exact HS.out, fun j hj => set_mono (HF.out j hj), SB.out _ HB', .inl ⟨by rw [set_off (by decide)]; exact H23.out, updf b 3 (.slice (some ⟨v.heap.size, 0, none⟩) 0 0), x, y, rfl, fun h => by
          rw [set_off (by decide)] at h
          exact ⟨fun c' hc' => by rw [set_off (by omega)]; exact (HY.out h).1 c' hc', (HY.out h).2⟩, HB', r', hr', hch'⟩⟩
      · -- 13
        exact absurd (getD_both (HF.out 13 (by decide))) (by rw [HI.out]; decide)
      · -- 14
        exact absurd (getD_both (HF.out 14 (by decide))) (by rw [HI.out]; decide)
      · -- 15
        cases ho
        have hp := getD_both (HD.out { on := 12, ground := .data } (by simp) rfl)
        obtain ⟨g, hbg, hown⟩ := ch_row (HC.out 3 (by omega)) hp HI.out (HR.out.own 3 (by omega))
        have hn := H.out.n
        refine wpOp_of rfl rfl ?_
        refine copy_row (W := w) (base0 := base0) (n0 := W0.heap.size) _ _ _ rfl 3 i0 _ 1 8 Tryd.underlying22 hi0 hz0 hz1 hz2 rfl (by omega) (by omega) g d.fs.length d.fc d.fA (rowsOf d 3).xs hbg rfl hown (H.out.rows.own 3 (by omega)) (HBD.out.trans (HB.out.mono HBD.out.size)) (row_ones d 3) (by omega) HB.out.size (fun A' c' w' k1 k2 k3 => ?_)
        have hg0 : W0.heap.size ≤ g := (hown.lt g rfl).1
        have HB' := HB.out.grown k2 HB.out.size (fun k e => by cases e; exact hg0)
        obtain ⟨r', hr', hch'⟩ := ch_append HR.out HS.out HC.out 3 (by omega) hp HI.out (.slice A' d.fs.length c') ⟨A', c', rfl⟩ (by rw [hbg]; exact k2) k1 (by rw [hbg]; exact k3)
        exact ⟨by rw [Array.size_setIfInBounds]; exact HS.out, fun j hj => set_mono (HF.out j hj), SB.out _ HB', .inl ⟨by rw [set_off (by decide)]; exact H23.out, b, updf x 3 (.slice A' d.fs.length c'), y, rfl, (fun h => absurd ((HY.out (by rw [set_off (by decide)] at h; exact h)).1 3 (by omega)) (by rw [HI.out]; decide)), HB', r', hr', hch'⟩⟩
      · -- 16
        cases ho
        obtain ⟨r', hr', hch'⟩ := ch_build HR.out HB.out.size HS.out HC.out 4 (by omega) HI.out
        refine wpOp_of rfl rfl ?_
        go_simp
        have HB' := HB.out.alloc HB.out.size (.cells #[] 3)
        exact ⟨by rw [Array.size_setIfInBounds]; exact HS.out, fun j hj => set_mono (HF.out j hj), SB.out _ HB', .inl ⟨by rw [set_off (by decide)]; exact H23.out, updf b 4 (.slice (some ⟨v.heap.size, 0, none⟩) 0 0), x, y, rfl, fun h => by
          rw [set_off (by decide)] at h
          exact ⟨fun c' hc' => by rw [set_off (by omega)]; exact (HY.out h).1 c' hc', (HY.out h).2⟩, HB', r', hr', hch'⟩⟩
      · -- 17
        exact absurd (getD_both (HF.out 17 (by decide))) (by rw [HI.out]; decide)
      · -- 18
        exact absurd (getD_both (HF.out 18 (by decide))) (by rw [HI.out]; decide)
      · -- 19
        cases ho
        have hp := getD_both (HD.out { on := 16, ground := .data } (by simp) rfl)
        obtain ⟨g, hbg, hown⟩ := ch_row (HC.out 4 (by omega)) hp HI.out (HR.out.own 4 (by omega))
        have hn := H.out.n
        refine wpOp_of rfl rfl ?_
        refine copy_row (W := w) (base0 := base0) (n0 := W0.heap.size) _ _ _ rfl 3 i0 _ 1 8 Tryd.underlying22 hi0 hz0 hz1 hz2 rfl (by omega) (by omega) g d.ls.length d.lc d.lA (rowsOf d 4).xs hbg rfl hown (H.out.rows.own 4 (by omega)) (HBD.out.trans (HB.out.mono HBD.out.size)) (row_ones d 4) (by omega) HB.out.size (fun A' c' w' k1 k2 k3 => ?_)
        have hg0 : W0.heap.size ≤ g := (hown.lt g rfl).1
        have HB' := HB.out.grown k2 HB.out.size (fun k e => by cases e; exact hg0)
        obtain ⟨r', hr', hch'⟩ := ch_append HR.out HS.out HC.out 4 (by omega) hp HI.out (.slice A' d.ls.length c') ⟨A', c', rfl⟩ (by rw [hbg]; exact k2) k1 (by rw [hbg]; exact k3)
        exact ⟨by rw [Array.size_setIfInBounds]; exact HS.out, fun j hj => set_mono (HF.out j hj), SB.out _ HB', .inl ⟨by rw [set_off (by decide)]; exact H23.out, b, updf x 4 (.slice A' d.ls.length c'), y, rfl, (fun h => absurd ((HY.out (by rw [set_off (by decide)] at h; exact h)).1 4 (by omega)) (by rw [HI.out]; decide)), HB', r', hr', hch'⟩⟩
      · -- 20
        exact absurd (getD_both (HF.out 20 (by decide))) (by rw [HI.out]; decide)
      · -- 21
        exact absurd (getD_both (HF.out 21 (by decide))) (by rw [HI.out]; decide)
      · -- 22
        cases ho
        have q0 := getD_both (HD.out { on := 3, ground := .data } (by simp) rfl)
        have q1 := getD_both (HD.out { on := 7, ground := .data } (by simp) rfl)
        have q2 := getD_both (HD.out { on := 11, ground := .data } (by simp) rfl)
        have q3 := getD_both (HD.out { on := 15, ground := .data } (by simp) rfl)
        have q4 := getD_both (HD.out { on := 19, ground := .data } (by simp) rfl)
        obtain ⟨A0, k0, e0⟩ := ch_done (HC.out 0 (by omega)) q0
        obtain ⟨A1, k1, e1⟩ := ch_done (HC.out 1 (by omega)) q1
        obtain ⟨A2, k2, e2⟩ := ch_done (HC.out 2 (by omega)) q2
        obtain ⟨A3, k3, e3⟩ := ch_done (HC.out 3 (by omega)) q3
        obtain ⟨A4, k4, e4⟩ := ch_done (HC.out 4 (by omega)) q4
        have hx : ∀ c, c < 5 → l.getD (4 * c + 3) true = true := fun c hc => by
          rcases (show c = 0 ∨ c = 1 ∨ c = 2 ∨ c = 3 ∨ c = 4 by omega) with rfl | rfl | rfl | rfl | rfl <;> assumption
        have HX := Lib.hid hx
        clear hx q0 q1 q2 q3 q4
        refine wpOp_of rfl rfl ?_
        go_simp
        refine ⟨by rw [Array.size_setIfInBounds]; exact HS.out, fun j hj => set_mono (HF.out j hj), SB.out _ HB.out, .inl ⟨by rw [set_off (by decide)]; exact H23.out, b, x, _, by simp only [e0, e1, e2, e3, e4]; rfl, (fun _ => ⟨fun c hc => by rw [set_off (by omega)]; exact HX.out c hc, by simp only [e0, e1, e2, e3, e4]⟩), HB.out, r, HR.out, fun c hc => by rw [set_off (by omega), set_off (by omega)]; exact HC.out c hc⟩⟩
      · -- 23
        cases ho
        have q22 := getD_both (HD.out { on := 22, ground := .data } (by simp) rfl)
        obtain ⟨hq, rfl⟩ := HY.out q22
        have hall : ∀ i, (l.setIfInBounds 23 true).getD i true = true := by
          intro i
          by_cases e : i = 23
          · subst e; exact set_at (by rw [HS.out]; omega)
          · rw [set_off (fun e' => e e'.symm)]
            rcases Nat.lt_or_ge i 23 with h' | h'
            · refine getD_both (HD.out ⟨i, .phase⟩ ?_ rfl)
              rcases (show i = 0 ∨ i = 1 ∨ i = 2 ∨ i = 3 ∨ i = 4 ∨ i = 5 ∨ i = 6 ∨ i = 7 ∨ i = 8 ∨ i = 9 ∨ i = 10 ∨ i = 11 ∨ i = 12 ∨ i = 13 ∨ i = 14 ∨ i = 15 ∨ i = 16 ∨ i = 17 ∨ i = 18 ∨ i = 19 ∨ i = 20 ∨ i = 21 ∨ i = 22 by omega) with rfl | rfl | rfl | rfl | rfl | rfl | rfl | rfl | rfl | rfl | rfl | rfl | rfl | rfl | rfl | rfl | rfl | rfl | rfl | rfl | rfl | rfl | rfl <;> simp
            · rw [Array.getD_eq_getD_getElem?, Array.getElem?_eq_none (by have := HS.out; omega)]; rfl
        have row : ∀ c, c < 5 → (∃ A k, x c = .slice A (rowsOf d c).n k) ∧ r c = ⟨(rowsOf d c).e, (rowsOf d c).size, x c, (rowsOf d c).n, (rowsOf d c).xs⟩ := fun c hc => by
          rcases HC.out c hc with ⟨_, h', _⟩ | ⟨_, h', _⟩ | ⟨_, h1, h2⟩
          · rw [hq c hc] at h'; cases h'
          · rw [hq c hc] at h'; cases h'
          · exact ⟨h1, h2⟩
        obtain ⟨⟨A0, k0, e0⟩, r0⟩ := row 0 (by omega)
        have e0 : x 0 = .slice A0 d.vs.length k0 := e0
        obtain ⟨⟨A1, k1, e1⟩, r1⟩ := row 1 (by omega)
        have e1 : x 1 = .slice A1 d.cs.length k1 := e1
        obtain ⟨⟨A2, k2, e2⟩, r2⟩ := row 2 (by omega)
        have e2 : x 2 = .slice A2 d.hs.length k2 := e2
        obtain ⟨⟨A3, k3, e3⟩, r3⟩ := row 3 (by omega)
        have e3 : x 3 = .slice A3 d.fs.length k3 := e3
        obtain ⟨⟨A4, k4, e4⟩, r4⟩ := row 4 (by omega)
        have e4 : x 4 = .slice A4 d.ls.length k4 := e4
        have HRR := Lib.hid (show Rows5 (rowsOf (⟨A0, d.vs, k0, A1, d.cs, k1, A2, d.hs, k2, A3, d.fs, k3, A4, d.ls, k4, d.ep⟩ : Wd)) v W0.heap.size from Rows5.congr HR.out (fun c hc => by
          rcases (show c = 0 ∨ c = 1 ∨ c = 2 ∨ c = 3 ∨ c = 4 by omega) with rfl | rfl | rfl | rfl | rfl
          · rw [r0, e0]; rfl
          · rw [r1, e1]; rfl
          · rw [r2, e2]; rfl
          · rw [r3, e3]; rfl
          · rw [r4, e4]; rfl))
        have XD := Lib.hid (show Bk v (w.heap.size + 1) #[.slice none 0 0, .slice none 0 0, .slice none 0 0, .slice none 0 0, .slice none 0 0, .int .i64 0] 28 from X1.out.below (C := W0.heap.size) ⟨HB.out.os, HB.out.tape, HB.out.output, HB.out.size, HB.out.block⟩ X1.out.lt) 
        rw [e0, e1, e2, e3, e4]
        clear row r0 r1 r2 r3 r4 e0 e1 e2 e3 e4 hq q22
        have HALL := Lib.hid hall
        clear hall
        have XS := Lib.hid (show Bk v w.heap.size #[.slice d.iA d.vs.length d.ic, .slice d.cA d.cs.length d.cc, .slice d.hA d.hs.length d.hc, .slice d.fA d.fs.length d.fc, .slice d.lA d.ls.length d.lc, .int .i64 d.ep] 28 from X0.out.below (C := W0.heap.size) ⟨HB.out.os, HB.out.tape, HB.out.output, HB.out.size, HB.out.block⟩ X0.out.lt)
        have d0 : v.cell? ⟨w.heap.size + 1, 0, none⟩ = some (.slice none 0 0) := XD.out.cell 0 _ rfl
        have f0 := XD.out.frozen 0
        have d1 : v.cell? ⟨w.heap.size + 1, 1, none⟩ = some (.slice none 0 0) := XD.out.cell 1 _ rfl
        have f1 := XD.out.frozen 1
        have d2 : v.cell? ⟨w.heap.size + 1, 2, none⟩ = some (.slice none 0 0) := XD.out.cell 2 _ rfl
        have f2 := XD.out.frozen 2
        have d3 : v.cell? ⟨w.heap.size + 1, 3, none⟩ = some (.slice none 0 0) := XD.out.cell 3 _ rfl
        have f3 := XD.out.frozen 3
        have d4 : v.cell? ⟨w.heap.size + 1, 4, none⟩ = some (.slice none 0 0) := XD.out.cell 4 _ rfl
        have f4 := XD.out.frozen 4
        have d5 : v.cell? ⟨w.heap.size + 1, 5, none⟩ = some (.int .i64 0) := XD.out.cell 5 _ rfl
        have f5 := XD.out.frozen 5
        refine wpOp_of rfl rfl ?_
        go_simp
        clear d0 d1 d2 d3 d4 d5 f0 f1 f2 f3 f4 f5 c0 c1 c2 c3 c4 c5
        have XZ := Lib.hid ((((((XD.out.set 0 (.slice A0 d.vs.length k0)).set 1 (.slice A1 d.cs.length k1)).set 2 (.slice A2 d.hs.length k2)).set 3 (.slice A3 d.fs.length k3)).set 4 (.slice A4 d.ls.length k4)).set 5 (.int .i64 d.ep))
        have XT := Lib.hid ((((((XS.out.far (p := ⟨w.heap.size + 1, 0, none⟩) (by simp) (.slice A0 d.vs.length k0)).far (p := ⟨w.heap.size + 1, 1, none⟩) (by simp) (.slice A1 d.cs.length k1)).far (p := ⟨w.heap.size + 1, 2, none⟩) (by simp) (.slice A2 d.hs.length k2)).far (p := ⟨w.heap.size + 1, 3, none⟩) (by simp) (.slice A3 d.fs.length k3)).far (p := ⟨w.heap.size + 1, 4, none⟩) (by simp) (.slice A4 d.ls.length k4)).far (p := ⟨w.heap.size + 1, 5, none⟩) (by simp) (.int .i64 d.ep))
        have RZ := Lib.hid (show Rows5 (rowsOf (⟨A0, d.vs, k0, A1, d.cs, k1, A2, d.hs, k2, A3, d.fs, k3, A4, d.ls, k4, d.ep⟩ : Wd)) ((((((v.setCell ⟨w.heap.size + 1, 0, none⟩ (.slice A0 d.vs.length k0)).setCell ⟨w.heap.size + 1, 1, none⟩ (.slice A1 d.cs.length k1)).setCell ⟨w.heap.size + 1, 2, none⟩ (.slice A2 d.hs.length k2)).setCell ⟨w.heap.size + 1, 3, none⟩ (.slice A3 d.fs.length k3)).setCell ⟨w.heap.size + 1, 4, none⟩ (.slice A4 d.ls.length k4)).setCell ⟨w.heap.size + 1, 5, none⟩ (.int .i64 d.ep)) W0.heap.size from by
          have hT := rowsOf_T (⟨A0, d.vs, k0, A1, d.cs, k1, A2, d.hs, k2, A3, d.fs, k3, A4, d.ls, k4, d.ep⟩ : Wd) 28 (by decide) (by decide)
          have rz0 := HRR.out.bk XD.out (fun k _ => hT k) (grownBy_set v (w.heap.size + 1) 0 (.slice A0 d.vs.length k0))
          have rz1 := rz0.bk (XD.out.set 0 (.slice A0 d.vs.length k0)) (fun k _ => hT k) (grownBy_set _ (w.heap.size + 1) 1 (.slice A1 d.cs.length k1))
          have rz2 := rz1.bk ((XD.out.set 0 (.slice A0 d.vs.length k0)).set 1 (.slice A1 d.cs.length k1)) (fun k _ => hT k) (grownBy_set _ (w.heap.size + 1) 2 (.slice A2 d.hs.length k2))
          have rz3 := rz2.bk (((XD.out.set 0 (.slice A0 d.vs.length k0)).set 1 (.slice A1 d.cs.length k1)).set 2 (.slice A2 d.hs.length k2)) (fun k _ => hT k) (grownBy_set _ (w.heap.size + 1) 3 (.slice A3 d.fs.length k3))
          have rz4 := rz3.bk ((((XD.out.set 0 (.slice A0 d.vs.length k0)).set 1 (.slice A1 d.cs.length k1)).set 2 (.slice A2 d.hs.length k2)).set 3 (.slice A3 d.fs.length k3)) (fun k _ => hT k) (grownBy_set _ (w.heap.size + 1) 4 (.slice A4 d.ls.length k4))
          exact rz4.bk (((((XD.out.set 0 (.slice A0 d.vs.length k0)).set 1 (.slice A1 d.cs.length k1)).set 2 (.slice A2 d.hs.length k2)).set 3 (.slice A3 d.fs.length k3)).set 4 (.slice A4 d.ls.length k4)) (fun k _ => hT k) (grownBy_set _ (w.heap.size + 1) 5 (.int .i64 d.ep)))
        have BZ := Lib.hid (show Below w.heap.size w ((((((v.setCell ⟨w.heap.size + 1, 0, none⟩ (.slice A0 d.vs.length k0)).setCell ⟨w.heap.size + 1, 1, none⟩ (.slice A1 d.cs.length k1)).setCell ⟨w.heap.size + 1, 2, none⟩ (.slice A2 d.hs.length k2)).setCell ⟨w.heap.size + 1, 3, none⟩ (.slice A3 d.fs.length k3)).setCell ⟨w.heap.size + 1, 4, none⟩ (.slice A4 d.ls.length k4)).setCell ⟨w.heap.size + 1, 5, none⟩ (.int .i64 d.ep)) from
          ((((((HBD.out.trans (HB.out.mono HBD.out.size)).setCell (p := ⟨w.heap.size + 1, 0, none⟩) (by simp) _).setCell (p := ⟨w.heap.size + 1, 1, none⟩) (by simp) _).setCell (p := ⟨w.heap.size + 1, 2, none⟩) (by simp) _).setCell (p := ⟨w.heap.size + 1, 3, none⟩) (by simp) _).setCell (p := ⟨w.heap.size + 1, 4, none⟩) (by simp) _).setCell (p := ⟨w.heap.size + 1, 5, none⟩) (by simp) _)
        obtain ⟨wz, hwz⟩ : ∃ wz, ((((((v.setCell ⟨w.heap.size + 1, 0, none⟩ (.slice A0 d.vs.length k0)).setCell ⟨w.heap.size + 1, 1, none⟩ (.slice A1 d.cs.length k1)).setCell ⟨w.heap.size + 1, 2, none⟩ (.slice A2 d.hs.length k2)).setCell ⟨w.heap.size + 1, 3, none⟩ (.slice A3 d.fs.length k3)).setCell ⟨w.heap.size + 1, 4, none⟩ (.slice A4 d.ls.length k4)).setCell ⟨w.heap.size + 1, 5, none⟩ (.int .i64 d.ep)) = wz := ⟨_, rfl⟩
        rw [hwz] at XZ XT RZ BZ ⊢
        clear hwz HRR XD XS
        refine ⟨by rw [Array.size_setIfInBounds]; exact HS.out, fun j hj => set_mono (HF.out j hj), ⟨XT.out.cell 0 _ rfl, XT.out.cell 1 _ rfl, XT.out.cell 2 _ rfl, XT.out.cell 3 _ rfl, XT.out.cell 4 _ rfl, XT.out.cell 5 _ rfl⟩, .inr ⟨HALL.out, ?_⟩⟩
        have e0 := XZ.out.cell 0 _ rfl
        have e1 := XZ.out.cell 1 _ rfl
        have e2 := XZ.out.cell 2 _ rfl
        have e3 := XZ.out.cell 3 _ rfl
        have e4 := XZ.out.cell 4 _ rfl
        have e5 := XZ.out.cell 5 _ rfl
        go_wp2_with fail
        exact bodyPost_ret (v := .agg #[.slice A0 d.vs.length k0, .slice A1 d.cs.length k1, .slice A2 d.hs.length k2, .slice A3 d.fs.length k3, .slice A4 d.ls.length k4, .int .i64 d.ep]) (by simp [results, Tryd.results17, go_sem, e0, e1, e2, e3, e4, e5]) rfl ⟨(⟨A0, d.vs, k0, A1, d.cs, k1, A2, d.hs, k2, A3, d.fs, k3, A4, d.ls, k4, d.ep⟩ : Wd), rfl, Lib.hid ⟨rfl, rfl, rfl, rfl, rfl, rfl⟩, Lib.hid ⟨RZ.out.base (by have := HSZ.out; omega), H.out.small, H.out.n, H.out.one⟩, BZ⟩
    · rw [hall] at hi; cases hi
end Go.Proofs.YtbpehdpcnnaidaaDoor.Ac
