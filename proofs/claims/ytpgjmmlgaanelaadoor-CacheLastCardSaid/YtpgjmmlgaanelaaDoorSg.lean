/-
  The landed site: Text.
-/
import Derived.Test.YtpgjmmlgaanelaaDoorSf
import Derived.Test.YtpgjmmlgaanelaaDoorRt
import Derived.Test.YtpgjmmlgaanelaaDoorSc
import Derived.Test.YtpgjmmlgaanelaaDoorShelf
import Derived.Lib.LaidTab
import Derived.Maps.AppendAt
import Derived.Lib.AppendIntMem
namespace Go.Proofs.YtpgjmmlgaanelaaDoor.Ch
open Go Go.RowKit

def Pw (w : World) : Prop := Lib.TabIs Tryd.prog w "internal/strconv.uint64pow10" .u64 Lib.pow10Tab
theorem Pw.below {w w' : World} (h : Pw w) (hb : Below w.heap.size w w') : Pw w' := (Lib.tabBelow_of_tabIs h).on hb |>.here
theorem itoa_c (n : Nat) (hn : n ≤ 9223372036854775807) (w : World) (hG : Pw w) : Calls Tryd.prog 34 #[.int .i64 (n : Int)] w fun e w' => e = .returned (.string (bsL (digits n))) ∧ Below w.heap.size w w' :=
  (Tryd.strconv_Itoa (n : Int) (by omega) (by omega) w hG).mono fun _ _ ⟨h, k, os, hw⟩ => ⟨by rw [h, ← digits_dec]; unfold Lib.itoa; rw [if_neg (by omega)]; rfl, by rw [hw]; exact Lib.below_grow _ _ (Nat.le_refl _) _ _⟩
def OwnB (w : World) (base : Nat) (v : Value) (xs : List ByteArray) : Prop := w.ownsRow base 9 1 v xs.length (xs.map Value.string)
theorem infoB : (Tryd.prog.info? 9).map (fun i => (i.zero, i.size, i.bytes)) = some (some (.string ⟨#[]⟩), 1, 16) := by kernel_rfl
def wordT (p : Int × Int) : ByteArray := bsL (itemT p)
theorem join_words (l : List (Int × Int)) : Lib.join ((l.map wordT).map (·.data.toList)) [32] = joinT l := by
  cases l with
  | nil => rfl
  | cons p l =>
    rw [List.map_cons, List.map_cons, Lib.join_cons]
    unfold Lib.joinTail joinT wordT
    show _ = itemT p ++ l.flatMap fun q => 32 :: itemT q
    rw [List.flatMap_def, List.map_map, List.map_map, bs_list]
    congr 2
theorem wp_append_str {o : Oper} {a : Go.Act} {w : World} {K : Go.Act → World → Prop} {Q : Exit → Go.Act → World → Prop} (s x : Operand)
    (ho : o.op = .call { callee := .builtin .append, args := #[s, x], argTypes := #[64, 64] }) (base : Nat) (v : Value) (xs : List ByteArray) (y : ByteArray) (hs : a.eval s = v) (hown : OwnB w base v xs)
    (ad : Addr) (c : Nat) (hx : a.eval x = .slice (some ad) 1 c) (hc : ∀ j u, [Value.string y][j]? = some u → w.cell? (ad.add j) = some u) (hl : xs.length ≤ 100) (hb : base ≤ w.heap.size)
    (h : ∀ v' w', OwnB w' base v' (xs ++ [y]) → w.grownBy w' v.ownBlock → K (a.put o.dst v') w') : o.wp Tryd.prog a w K Q := by
  obtain ⟨i0, hi0, hz0, hz1, hz2⟩ := info_parts infoB
  obtain ⟨v', w', hr, h2, h3, h4, h5⟩ := run_append_own_at (P := Tryd.prog) w base 64 o.type 9 i0 (.string ⟨#[]⟩) 1 16 Tryd.underlying64 hi0 hz0 hz1 hz2 rfl (by decide) v _ _ hown ad 1 c [.string y] rfl hc (by intro u hu; simp at hu; subst hu; rfl) (by unfold maxLen; omega) (by omega) hb
  unfold Oper.wp execOp
  simp only [ho, resolve, invoke, builtin, Sem.run_bind, Sem.run_pure, Result.andThen_ok, List.map_toArray, List.map_cons, List.map_nil, hs, hx, hr]
  refine h v' w' ?_ h3
  unfold OwnB
  rw [List.length_append, List.map_append]
  exact h2
/-- A row of another type is not a block that is known. -/
theorem bk_apart {w : World} {base : Nat} {v : Value} {xs : List ByteArray} {B : Nat} {c : Array Value} {T : TypeId} (h : OwnB w base v xs) (hb : Bk w B c T) (hT : T ≠ 9) (e : v.ownBlock = some B) : False := by
  rcases h.2 with ⟨rfl, _⟩ | ⟨g, cap, cur, rfl, _, hg, _⟩
  · cases e
  · obtain rfl : g = B := by simpa [Value.ownBlock] using e
    unfold Bk at hb
    rw [hb] at hg
    injection hg with hg
    injection hg with _ h2
    exact hT h2
theorem OwnB.ge {w : World} {base : Nat} {v : Value} {xs : List ByteArray} (h : OwnB w base v xs) : ∀ k, v.ownBlock = some k → base ≤ k := fun k hk => (h.lt k hk).1
theorem OwnB.below {w w' : World} {base C : Nat} {v : Value} {xs : List ByteArray} (h : OwnB w base v xs) (hb : Below C w w') (hC : w.heap.size ≤ C) : OwnB w' base v xs :=
  h.kept (row := none) ⟨hb.os, hb.tape, hb.output, hb.size, fun i hi _ => hb.block i (by omega)⟩ (by cases hv : v.ownBlock <;> simp)
section
variable {p : Nat} {t : Ste} {F : Nat → Prop}
set_option maxRecDepth 100000 in
set_option maxHeartbeats 4000000 in
theorem code_text (w : World) (h : SiteAt w p t F) (hG : Pw w) {n : Nat} (hk : t.Ok n) :
    Calls Tryd.prog 20 #[.pointer (some ⟨p, 0, none⟩)] w fun e w' => e = .returned (.string (bsL t.text)) ∧ Below w.heap.size w w' := by
  have H := Lib.hid h
  have ST := Lib.hid (code_state w h hk)
  have PW := Lib.hid hG
  have pl := Lib.hid h.c.lt
  have l4 := hk.len
  have PS := Lib.hid hk.pos
  have hmx : Tryd.prog.follows .mixedOrders = true := by kernel_rfl
  clear h hk hG
  cases hf : t.full
  case true =>
    have S3 := Lib.hid (show t.state = 3 by unfold Ste.state; rw [hf]; rfl)
    have TX := Lib.hid (show bsL t.text = ⟨#[102, 117, 108, 108]⟩ by unfold Ste.text; rw [if_pos hf]; rfl)
    rw [S3.out] at ST
    clear hf
    go_enter Tryd.func20, Tryd.ntmps20
    go_wp2_with fail
    refine ST.out.mono ?_
    rintro e w1 ⟨rfl, hb⟩
    have HB := Lib.hid hb
    clear hb
    go_wp2_with fail
    go_ret
    exact ⟨by rw [TX.out]; rfl, HB.out⟩
  case false =>
    have TX := Lib.hid (show t.text = joinT t.l by unfold Ste.text; rw [if_neg (by rw [hf]; decide)])
    obtain ⟨m, hm⟩ : ∃ m, t.state = m := ⟨_, rfl⟩
    have m3 : (m == 3) = false := by
      have : m ≠ 3 := by rw [← hm]; unfold Ste.state; rw [if_neg (by rw [hf]; decide)]; omega
      simpa using this
    rw [hm] at ST
    clear hf hm
    go_enter Tryd.func20, Tryd.ntmps20
    go_wp2_with fail
    refine ST.out.mono ?_
    rintro e w1 ⟨rfl, hb⟩
    have HB := Lib.hid hb
    have KN := Lib.hid (code_known w1 (H.out.below hb) l4)
    have H1 := Lib.hid (H.out.below hb)
    clear hb
    go_wp2_with fail
    refine KN.out.mono ?_
    rintro e w2 ⟨rfl, rfl⟩
    go_wp2_with fail
    go_loopw [3, 12] (fun o i wr => ∃ j : Nat, j ≤ t.l.length ∧ i = .int .i64 j ∧ Hid (OwnB wr w.heap.size o ((t.l.take j).map wordT)) ∧ Hid (Below w.heap.size w wr)) (fun _ i _ => t.l.length - (intOf i).toNat)
    case atStart => exact ⟨0, by omega, rfl, Lib.hid (World.ownsRow_nil _ _ _ _), Lib.hid HB.out.drew⟩
    case round =>
      obtain ⟨j, hj, rfl, ho, hw⟩ := hrel
      by_cases hlt : j < t.l.length
      · have hg := List.getElem?_eq_getElem hlt
        obtain ⟨r0, r1⟩ := row_at hg
        have r0 : wr.cell? ⟨p, j * 2, none⟩ = some (.int .i64 t.l[j].1) := (hw.out.cell (p := ⟨p, j * 2, none⟩) pl.out).trans (H.out.c.cell _ _ r0)
        have r1 : wr.cell? ⟨p, j * 2 + 1, none⟩ = some (.int .i64 t.l[j].2) := (hw.out.cell (p := ⟨p, j * 2 + 1, none⟩) pl.out).trans (H.out.c.cell _ _ r1)
        have hjl : (j : Int) < t.l.length := by omega
        have zw := hw.out.size
        obtain ⟨p1, p2, p3, p4⟩ := PS.out _ (List.getElem_mem hlt)
        have TN := Lib.hid (show (t.l.take (j + 1)).map wordT = (t.l.take j).map wordT ++ [wordT t.l[j]] by rw [take_next _ _ hlt, List.map_append]; rfl)
        have TL := Lib.hid (show ((t.l.take j).map wordT).length ≤ 4 by rw [List.length_map, List.length_take]; omega)
        obtain ⟨q, hq⟩ : ∃ q, t.l[j] = q := ⟨_, rfl⟩
        rw [hq] at r0 r1 TN p1 p2 p3 p4
        clear hg hq
        obtain ⟨x, y⟩ := q
        simp only at r0 r1 p1 p2 p3 p4
        obtain ⟨x, rfl⟩ := Int.eq_ofNat_of_zero_le p1
        obtain ⟨y, rfl⟩ := Int.eq_ofNat_of_zero_le p3
        have TW := Lib.hid (show wordT ((x : Int), (y : Int)) = bsL (digits x) ++ ⟨#[58]⟩ ++ bsL (digits y) from (congrArg bsL (itemT_nat x y)).trans (bytes_of_list (by simp [bs_list])))
        have DX := Lib.hid (digits_len x (by omega))
        have DY := Lib.hid (digits_len y (by omega))
        have X0 := Lib.hid (show x ≤ 9223372036854775807 by omega)
        have Y0 := Lib.hid (show y ≤ 9223372036854775807 by omega)
        obtain ⟨X, hX⟩ : ∃ X, bsL (digits x) = X := ⟨_, rfl⟩
        obtain ⟨Y, hY⟩ : ∃ Y, bsL (digits y) = Y := ⟨_, rfl⟩
        have dx : X.size ≤ 21 := by rw [← hX, bsL_size]; exact DX.out
        have dy : Y.size ≤ 21 := by rw [← hY, bsL_size]; exact DY.out
        have n1 : ¬ 9223372036854775807 < X.size + 1 := by omega
        have n2 : ¬ 9223372036854775807 < X.size + 1 + Y.size := by omega
        have RX := Lib.hid (fun w hG => (show Calls Tryd.prog 34 #[.int .i64 (x : Int)] w fun e w' => e = .returned (.string X) ∧ Below w.heap.size w w' by rw [← hX]; exact itoa_c x X0.out w hG))
        have RY := Lib.hid (fun w hG => (show Calls Tryd.prog 34 #[.int .i64 (y : Int)] w fun e w' => e = .returned (.string Y) ∧ Below w.heap.size w w' by rw [← hY]; exact itoa_c y Y0.out w hG))
        rw [hX, hY] at TW
        rw [TW.out] at TN
        clear hX hY DX DY TW p1 p2 p3 p4
        obtain ⟨zs, hzs⟩ : ∃ zs, (t.l.take j).map wordT = zs := ⟨_, rfl⟩
        rw [hzs] at ho TN TL
        clear hzs
        go_wp2_with fail
        obtain ⟨W0, hW0⟩ : ∃ W0, wr.alloc (.cells #[.int .i64 (x : Int), .int .i64 (y : Int)] 54) = W0 := ⟨_, rfl⟩
        have BE := Lib.hid (show Bk W0 wr.heap.size #[.int .i64 (x : Int), .int .i64 (y : Int)] 54 by rw [← hW0]; exact Bk.new wr _ _)
        have HW0 := Lib.hid (show Below w.heap.size w W0 by rw [← hW0]; exact hw.out.alloc hw.out.size _)
        have HO0 := Lib.hid (show OwnB W0 w.heap.size u3 zs by rw [← hW0]; exact World.ownsRow.alloc ho.out _)
        rw [hW0]
        clear hW0 hw ho r0 r1
        obtain ⟨B, hB⟩ : ∃ B, wr.heap.size = B := ⟨_, rfl⟩
        rw [hB] at BE zw ⊢
        clear hB
        have S1 := Lib.hid (show (fun v => v.cell? ⟨B, 0, none⟩ = some (.int .i64 (x : Int)) ∧ v.cell? ⟨B, 1, none⟩ = some (.int .i64 (y : Int))) W0.drew from ⟨BE.out.cell 0 _ rfl, BE.out.cell 1 _ rfl⟩)
        refine region_plain (fun v => v.cell? ⟨B, 0, none⟩ = some (.int .i64 (x : Int)) ∧ v.cell? ⟨B, 1, none⟩ = some (.int .i64 (y : Int))) hmx ?_
        refine wpAnyH_take (i := 0) (v := ?_) rfl (by kernel_rfl) (by kernel_rfl) (by kernel_rfl) (fun _ _ _ h => h) (.inl ⟨by kernel_rfl, fun v hS => ?_⟩) S1.out ?_
        rotate_left
        · obtain ⟨e0, e1⟩ := hS
          go_simp
          with_reducible rfl
        refine wpAnyH_take (i := 1) (v := ?_) rfl (by kernel_rfl) (by kernel_rfl) (by kernel_rfl) (fun _ _ _ h => h) (.inl ⟨by kernel_rfl, fun v hS => ?_⟩) S1.out ?_
        rotate_left
        · obtain ⟨e0, e1⟩ := hS
          go_simp
          with_reducible rfl
        refine wpAnyH_take (i := 2) (v := ?_) rfl (by kernel_rfl) (by kernel_rfl) (by kernel_rfl) (fun _ _ _ h => h) (.inl ⟨by kernel_rfl, fun v hS => ?_⟩) S1.out ?_
        rotate_left
        · obtain ⟨e0, e1⟩ := hS
          go_simp
          with_reducible rfl
        refine wpAnyH_take (i := 5) (v := ?_) rfl (by kernel_rfl) (by kernel_rfl) (by kernel_rfl) (fun _ _ _ h => h) (.inl ⟨by kernel_rfl, fun v hS => ?_⟩) S1.out ?_
        rotate_left
        · obtain ⟨e0, e1⟩ := hS
          go_simp
          with_reducible rfl
        refine wpAnyH_take (i := 6) (v := ?_) rfl (by kernel_rfl) (by kernel_rfl) (by kernel_rfl) (fun _ _ _ h => h) (.inl ⟨by kernel_rfl, fun v hS => ?_⟩) S1.out ?_
        rotate_left
        · obtain ⟨e0, e1⟩ := hS
          go_simp
          with_reducible rfl
        refine one_ready 3 rfl (by kernel_rfl) (by kernel_rfl) ?_
        go_simp
        refine (RX.out _ (PW.out.below HW0.out.drew)).mono ?_
        rintro e w4 ⟨rfl, hb⟩
        have BE4 := Lib.hid (BE.out.low hb)
        have S2 := Lib.hid (show (fun v => v.cell? ⟨B, 0, none⟩ = some (.int .i64 (x : Int)) ∧ v.cell? ⟨B, 1, none⟩ = some (.int .i64 (y : Int))) w4 from ⟨BE4.out.cell 0 _ rfl, BE4.out.cell 1 _ rfl⟩)
        have HW4 := Lib.hid (HW0.out.drew.trans (hb.mono HW0.out.size))
        have HO4 := Lib.hid (OwnB.below (w := W0.drew) (show OwnB W0.drew w.heap.size u3 zs from HO0.out) hb (Nat.le_refl _))
        clear hb
        refine ⟨S2.out, ?_⟩
        refine wpAnyH_take (i := 4) (v := ?_) rfl (by kernel_rfl) (by kernel_rfl) (by kernel_rfl) (fun _ _ _ h => h) (.inl ⟨by kernel_rfl, fun v hS => ?_⟩) S2.out ?_
        rotate_left
        · obtain ⟨e0, e1⟩ := hS
          go_simp
          with_reducible rfl
        refine one_ready 7 rfl (by kernel_rfl) (by kernel_rfl) ?_
        go_simp
        refine (RY.out _ (PW.out.below HW4.out)).mono ?_
        rintro e w5 ⟨rfl, hb⟩
        have BE5 := Lib.hid (BE4.out.low hb)
        have S3 := Lib.hid (show (fun v => v.cell? ⟨B, 0, none⟩ = some (.int .i64 (x : Int)) ∧ v.cell? ⟨B, 1, none⟩ = some (.int .i64 (y : Int))) w5 from ⟨BE5.out.cell 0 _ rfl, BE5.out.cell 1 _ rfl⟩)
        have HW5 := Lib.hid (HW4.out.trans (hb.mono HW4.out.size))
        have HO5 := Lib.hid (OwnB.below HO4.out hb (Nat.le_refl _))
        clear hb
        refine ⟨S3.out, ?_⟩
        refine one_ready 8 rfl (by kernel_rfl) (by kernel_rfl) ?_
        go_simp
        refine ⟨S3.out, ?_⟩
        obtain ⟨Z, hZ⟩ : ∃ Z, X ++ ⟨#[58]⟩ ++ Y = Z := ⟨_, rfl⟩
        rw [hZ] at TN ⊢
        refine one_ready 9 rfl (by kernel_rfl) (by kernel_rfl) ?_
        go_simp
        have z5 := HW5.out.size
        have BE6 := Lib.hid (BE5.out.alloc (.cells #[.string Z] 9))
        have S4 := Lib.hid (show (fun v => v.cell? ⟨B, 0, none⟩ = some (.int .i64 (x : Int)) ∧ v.cell? ⟨B, 1, none⟩ = some (.int .i64 (y : Int))) (w5.alloc (.cells #[.string Z] 9)) from ⟨BE6.out.cell 0 _ rfl, BE6.out.cell 1 _ rfl⟩)
        refine ⟨S4.out, ?_⟩
        refine one_ready 10 rfl (by kernel_rfl) (by kernel_rfl) ?_
        refine wp_append_str _ _ rfl w.heap.size u3 zs Z rfl (World.ownsRow.alloc HO5.out _) ⟨w5.heap.size, 0, none⟩ 1 rfl (World.news_of_block (cs := #[.string Z]) (t := 9) (fr := (0, 0)) (heap_alloc_new w5 _)) (by have := TL.out; omega) (by rw [World.size_alloc]; omega) ?_
        intro v6 w6 ho6 hg6
        have g1 := fun k hk => OwnB.ge HO5.out k hk
        have z6 := hg6.size
        rw [World.size_alloc] at z6
        have BE7 := Lib.hid (show Bk w6 B #[.int .i64 (x : Int), .int .i64 (y : Int)] 54 from (hg6.block B (by rw [World.size_alloc]; have := BE5.out.lt; omega) (fun e => bk_apart HO5.out BE5.out (by decide) e.symm)).trans BE6.out)
        have S5 := Lib.hid (show (fun v => v.cell? ⟨B, 0, none⟩ = some (.int .i64 (x : Int)) ∧ v.cell? ⟨B, 1, none⟩ = some (.int .i64 (y : Int))) w6 from ⟨BE7.out.cell 0 _ rfl, BE7.out.cell 1 _ rfl⟩)
        have HW6 := Lib.hid ((HW5.out.alloc z5 (.cells #[.string Z] 9)).grown hg6 (by rw [World.size_alloc]; omega) g1)
        have HO6 := Lib.hid ho6
        clear ho6 hg6 g1
        refine ⟨S5.out, ?_⟩
        refine one_ready 11 rfl (by kernel_rfl) (by kernel_rfl) ?_
        go_simp
        refine ⟨S5.out, rfl, ?_⟩
        go_wp2_with fail
        go_roundw
        case rel => exact ⟨j + 1, by omega, by go_num, by rw [TN.out]; exact HO6, HW6⟩
        case measure => simp [intOf]; omega
      · obtain rfl : j = t.l.length := by omega
        have ho := ho.out
        rw [List.take_length] at ho
        have TJ := Lib.hid (show bsL t.text = ⟨(Lib.join ((t.l.map wordT).map (·.data.toList)) ((⟨#[32]⟩ : ByteArray).data.toList)).toArray⟩ by rw [TX.out]; exact congrArg bsL (join_words t.l).symm)
        have JL := Lib.hid (show (Lib.join ((t.l.map wordT).map (·.data.toList)) ((⟨#[32]⟩ : ByteArray).data.toList)).length ≤ 200 by
          have h1 := joinT_len PS.out
          have h2 := join_words t.l
          show (Lib.join ((t.l.map wordT).map (·.data.toList)) [32]).length ≤ 200
          rw [h2]; omega)
        obtain ⟨zs, hzs⟩ : ∃ zs, t.l.map wordT = zs := ⟨_, rfl⟩
        have ZL : zs.length ≤ 4 := by rw [← hzs, List.length_map]; exact l4
        rw [hzs] at ho TJ JL
        clear hzs
        rcases ho.2 with ⟨rfl, h0⟩ | ⟨g, cap, cur, rfl, hgb, hg, hn, hm, hs, ht⟩
        · obtain rfl : zs = [] := List.eq_nil_of_length_eq_zero h0
          clear ho
          go_wp2_with fail
          refine (Tryd.strings_Join_none none 0 ⟨#[32]⟩ wr).mono ?_
          rintro e w7 ⟨rfl, rfl⟩
          go_wp2_with fail
          go_ret
          exact ⟨by rw [TJ.out]; rfl, hw.out⟩
        · have SJ := Lib.hid (Tryd.strings_Join g 0 cap zs ⟨#[32]⟩ wr (fun i z hz => by
            have e := World.ownsRow.cellAt ho i (by have := (List.getElem?_eq_some_iff.1 hz).1; omega)
            rw [List.getElem?_map, hz] at e
            rw [Nat.zero_add]; exact e) (ho.lt g rfl).2 (by omega) hn (by have := JL.out; omega))
          clear ho hg hgb hs ht hm
          go_wp2_with fail
          refine SJ.out.mono ?_
          rintro e w7 ⟨rfl, hb⟩
          have HW7 := Lib.hid (hw.out.trans (hb.mono hw.out.size))
          clear hb
          go_wp2_with fail
          go_ret
          exact ⟨by rw [TJ.out]; rfl, HW7.out⟩
end
end Go.Proofs.YtpgjmmlgaanelaaDoor.Ch
