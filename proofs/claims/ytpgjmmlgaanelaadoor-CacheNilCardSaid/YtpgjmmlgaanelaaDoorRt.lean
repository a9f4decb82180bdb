/-
  The reference's Text.
-/
import Derived.Test.YtpgjmmlgaanelaaDoorRi
import Derived.Test.YtpgjmmlgaanelaaDoorRd
import Derived.Deep.RegionLaw
import Derived.Deep.RegionHeld3
import Derived.OrdersHeld
namespace Go.Proofs.YtpgjmmlgaanelaaDoor.Ch
open Go Go.RowKit

theorem one_ready {P : Program} {ops : Array Oper} {Q : Exit → Go.Act → World → Prop} {S : World → Prop} {md : Region.Mode} {fuel : Nat} {listed : Array Bool} {a : Go.Act} {w : World} (i : Nat) {o : Oper} (ho : ops[i]? = some o) (hr : Region.ready md ops listed = [i]) (hw : Region.wanted o (yielded ops a.tmps) = true)
    (h : o.wp P a w (fun a' w' => S w' ∧ wpAnyH P md ops Q S fuel (listed.setIfInBounds i true) a' w') Q) : wpAnyH P md ops Q S (fuel + 1) listed a w := by
  refine wpAnyH_all hr (by simp) (fun j hj => ?_)
  obtain rfl : j = i := by simpa using hj
  unfold wpOp
  simp only [ho, hw, if_true]
  exact .inl h
theorem region_plain {P : Program} {ops : Array Oper} {Q : Exit → Go.Act → World → Prop} (S : World → Prop) {id : Nat} {a : Go.Act} {w : World} (hm : P.follows .mixedOrders = true)
    (h : wpAnyH P .any ops Q S ops.size (Array.replicate ops.size false) a w.drew) : (Code.region id ops true).wp P Q a w :=
  wp_region_any hm (wpAny_of_held _ _ _ _ h)
theorem itemT_nat (x y : Nat) : itemT ((x : Int), (y : Int)) = digits x ++ [58] ++ digits y := by unfold itemT; simp
theorem joinT_len : ∀ {l : List (Int × Int)}, (∀ p ∈ l, 0 ≤ p.1 ∧ p.1 ≤ 9223372036854775807 ∧ 0 ≤ p.2 ∧ p.2 ≤ 9223372036854775807) → (joinT l).length ≤ l.length * 50
  | [], _ => Nat.zero_le _
  | p :: l, h => by
    have hi : ∀ q : Int × Int, (0 ≤ q.1 ∧ q.1 ≤ 9223372036854775807 ∧ 0 ≤ q.2 ∧ q.2 ≤ 9223372036854775807) → (itemT q).length ≤ 43 := fun q hq => by
      unfold itemT
      have h1 := digits_len q.1.toNat (by omega)
      have h2 := digits_len q.2.toNat (by omega)
      simp only [List.length_append, List.length_cons, List.length_nil]
      omega
    have h1 := hi p (h p (.head _))
    have h2 : ∀ m : List (Int × Int), (∀ q ∈ m, q ∈ l) → (m.flatMap fun q => 32 :: itemT q).length ≤ m.length * 50 := by
      intro m
      induction m with
      | nil => intro _; exact Nat.zero_le _
      | cons q m ih =>
        intro hm
        have h3 := hi q (h q (.tail _ (hm q (.head _))))
        have h4 := ih fun r hr => hm r (.tail _ hr)
        rw [List.flatMap_cons, List.length_append, List.length_cons, List.length_cons]
        omega
    have h3 := h2 l fun _ h => h
    show (itemT p ++ _).length ≤ _
    rw [List.length_append, List.length_cons]
    omega
set_option maxRecDepth 100000 in
set_option maxHeartbeats 4000000 in
theorem ref_text (w : World) (q : Nat) (t : Ste) (G : Nat → Prop) (n : Nat) (h : RefS w q t G) (hk : t.Ok n) :
    Calls Tryd.prog 31 #[.pointer (some ⟨q, 0, none⟩)] w fun e w' => e = .returned (.string (bsL t.text)) ∧ Below w.heap.size w w' := by
  obtain ⟨v, h⟩ := h
  obtain ⟨A, c, hv, hA, hc, hrow⟩ := h.form
  have H := Lib.hid h
  have ROW := Lib.hid hrow
  have c0 := h.c0
  have c1 := h.c1
  have hmx : Tryd.prog.follows .mixedOrders = true := by kernel_rfl
  have ql := Lib.hid h.c.lt
  have LT := Lib.hid h.ownLt
  have l4 := hk.len
  have PS := Lib.hid hk.pos
  rw [hv] at c0
  clear h hrow hk hv
  cases hf : t.full
  case true =>
    rw [hf] at c1
    have TX := Lib.hid (show bsL t.text = ⟨#[102, 117, 108, 108]⟩ by unfold Ste.text; rw [if_pos hf]; rfl)
    clear hf
    go_enter Tryd.func31, Tryd.ntmps31
    go_wp2_with fail
    go_ret
    exact ⟨by rw [TX.out]; rfl, Below.refl _ _⟩
  case false =>
    rw [hf] at c1
    have TX := Lib.hid (show t.text = joinT t.l by unfold Ste.text; rw [if_neg (by rw [hf]; decide)])
    clear hf
    go_enter Tryd.func31, Tryd.ntmps31
    go_wp2_with fail
    go_loopw [3, 4] (fun o i wr => ∃ j : Nat, j ≤ t.l.length ∧ i = .int .i64 j ∧ o = .string (bsL (joinT (t.l.take j))) ∧ Hid (Below w.heap.size w wr)) (fun _ i _ => t.l.length - (intOf i).toNat)
    case atStart => exact ⟨0, by omega, rfl, by simp [joinT]; rfl, Lib.hid (Below.refl _ _)⟩
    case round =>
      obtain ⟨j, hj, rfl, rfl, hw⟩ := hrel
      have c0 : wr.cell? ⟨q, 0, none⟩ = some (.slice A t.l.length c) := (hw.out.cell (p := ⟨q, 0, none⟩) ql.out).trans c0
      by_cases hlt : j < t.l.length
      · have hg := List.getElem?_eq_getElem hlt
        obtain ⟨g, rfl, hown, r0, r1⟩ := ROW.out j _ hg
        have gl := LT.out g hown
        have r0 : wr.cell? ⟨g, j * 2, none⟩ = some (.int .i64 t.l[j].1) := (hw.out.cell (p := ⟨g, j * 2, none⟩) gl).trans r0
        have r1 : wr.cell? ⟨g, j * 2 + 1, none⟩ = some (.int .i64 t.l[j].2) := (hw.out.cell (p := ⟨g, j * 2 + 1, none⟩) gl).trans r1
        have hjl : (j : Int) < t.l.length := by omega
        have TN := Lib.hid (show joinT (t.l.take (j + 1)) = joinT (t.l.take j) ++ (if t.l.take j = [] then [] else [32]) ++ itemT t.l[j] by
          rw [take_next _ _ hlt, joinT_snoc])
        have TL := Lib.hid (show (bsL (joinT (t.l.take j))).size ≤ 200 by
          rw [bsL_size]
          have h1 := joinT_len (l := t.l.take j) fun p hp => PS.out p (List.mem_of_mem_take hp)
          rw [List.length_take] at h1
          omega)
        have TE := Lib.hid (show t.l.take j = [] ↔ j = 0 by rw [List.take_eq_nil_iff]; constructor; rintro (h | h); exact h; rw [h] at hlt; simp at hlt; exact fun h => .inl h)
        obtain ⟨p1, p2, p3, p4⟩ := PS.out _ (List.getElem_mem hlt)
        obtain ⟨ts, hts⟩ : ∃ ts, joinT (t.l.take j) = ts := ⟨_, rfl⟩
        obtain ⟨p, hp⟩ : ∃ p, t.l[j] = p := ⟨_, rfl⟩
        rw [hts] at TN TL ⊢
        rw [hp] at r0 r1 TN p1 p2 p3 p4
        clear hg hown hts hp
        obtain ⟨x, y⟩ := p
        simp only at r0 r1 p1 p2 p3 p4
        obtain ⟨x, rfl⟩ := Int.eq_ofNat_of_zero_le p1
        obtain ⟨y, rfl⟩ := Int.eq_ofNat_of_zero_le p3
        have DX := Lib.hid (digits_len x (by omega))
        have DY := Lib.hid (digits_len y (by omega))
        have QL := Lib.hid (Nat.lt_of_lt_of_le ql.out hw.out.size)
        have GL := Lib.hid (Nat.lt_of_lt_of_le gl hw.out.size)
        clear gl
        have X0 := Lib.hid (show x ≤ 9223372036854775807 by omega)
        have Y0 := Lib.hid (show y ≤ 9223372036854775807 by omega)
        obtain ⟨S, hS⟩ : ∃ S, bsL ts = S := ⟨_, rfl⟩
        obtain ⟨X, hX⟩ : ∃ X, bsL (digits x) = X := ⟨_, rfl⟩
        obtain ⟨Y, hY⟩ : ∃ Y, bsL (digits y) = Y := ⟨_, rfl⟩
        have tl : S.size ≤ 200 := by rw [← hS]; exact TL.out
        have dx : X.size ≤ 21 := by rw [← hX, bsL_size]; exact DX.out
        have dy : Y.size ≤ 21 := by rw [← hY, bsL_size]; exact DY.out
        have RX := Lib.hid (fun w => (show Calls Tryd.prog 38 #[.int .i64 (x : Int)] w fun e w' => e = .returned (.string X) ∧ Below w.heap.size w w' by rw [← hX]; exact ref_decimal x X0.out w))
        have RY := Lib.hid (fun w => (show Calls Tryd.prog 38 #[.int .i64 (y : Int)] w fun e w' => e = .returned (.string Y) ∧ Below w.heap.size w w' by rw [← hY]; exact ref_decimal y Y0.out w))
        have ES := Lib.hid hS
        have EX := Lib.hid hX
        have EY := Lib.hid hY
        rw [hS]
        clear hS hX hY
        by_cases hz : j = 0
        · have T2 := Lib.hid (show joinT (t.l.take (j + 1)) = ts ++ itemT ((x : Int), (y : Int)) by rw [TN.out, if_pos (TE.out.2 hz), List.append_nil])
          have hj0 : ¬ (0 < (j : Int)) := by omega
          have n1 : ¬ 9223372036854775807 < S.size + X.size := by omega
          have n2 : ¬ 9223372036854775807 < S.size + X.size + 1 := by omega
          have n3 : ¬ 9223372036854775807 < S.size + X.size + 1 + Y.size := by omega
          clear TN TE hz
          go_wp2_with fail
          have S1 := Lib.hid (show (fun v => v.cell? ⟨q, 0, none⟩ = some (.slice (some ⟨g, 0, none⟩) t.l.length c) ∧ v.cell? ⟨g, j * 2, none⟩ = some (.int .i64 (x : Int)) ∧ v.cell? ⟨g, j * 2 + 1, none⟩ = some (.int .i64 (y : Int))) wr.drew from ⟨c0, r0, r1⟩)
          refine region_plain (fun v => v.cell? ⟨q, 0, none⟩ = some (.slice (some ⟨g, 0, none⟩) t.l.length c) ∧ v.cell? ⟨g, j * 2, none⟩ = some (.int .i64 (x : Int)) ∧ v.cell? ⟨g, j * 2 + 1, none⟩ = some (.int .i64 (y : Int))) hmx ?_
          refine wpAnyH_take (i := 0) (v := ?_) rfl (by kernel_rfl) (by kernel_rfl) (by kernel_rfl) (fun _ _ _ h => h) (.inl ⟨by kernel_rfl, fun v hS => ?_⟩) S1.out ?_
          rotate_left
          · obtain ⟨e0, e1, e2⟩ := hS
            go_simp
            with_reducible rfl
          refine wpAnyH_take (i := 1) (v := ?_) rfl (by kernel_rfl) (by kernel_rfl) (by kernel_rfl) (fun _ _ _ h => h) (.inl ⟨by kernel_rfl, fun v hS => ?_⟩) S1.out ?_
          rotate_left
          · obtain ⟨e0, e1, e2⟩ := hS
            go_simp
            with_reducible rfl
          refine wpAnyH_take (i := 2) (v := ?_) rfl (by kernel_rfl) (by kernel_rfl) (by kernel_rfl) (fun _ _ _ h => h) (.inl ⟨by kernel_rfl, fun v hS => ?_⟩) S1.out ?_
          rotate_left
          · obtain ⟨e0, e1, e2⟩ := hS
            go_simp
            with_reducible rfl
          refine wpAnyH_take (i := 3) (v := ?_) rfl (by kernel_rfl) (by kernel_rfl) (by kernel_rfl) (fun _ _ _ h => h) (.inl ⟨by kernel_rfl, fun v hS => ?_⟩) S1.out ?_
          rotate_left
          · obtain ⟨e0, e1, e2⟩ := hS
            go_simp
            with_reducible rfl
          refine wpAnyH_take (i := 4) (v := ?_) rfl (by kernel_rfl) (by kernel_rfl) (by kernel_rfl) (fun _ _ _ h => h) (.inl ⟨by kernel_rfl, fun v hS => ?_⟩) S1.out ?_
          rotate_left
          · obtain ⟨e0, e1, e2⟩ := hS
            go_simp
            with_reducible rfl
          refine wpAnyH_take (i := 5) (v := ?_) rfl (by kernel_rfl) (by kernel_rfl) (by kernel_rfl) (fun _ _ _ h => h) (.inl ⟨by kernel_rfl, fun v hS => ?_⟩) S1.out ?_
          rotate_left
          · obtain ⟨e0, e1, e2⟩ := hS
            go_simp
            with_reducible rfl
          refine wpAnyH_take (i := 6) (v := ?_) rfl (by kernel_rfl) (by kernel_rfl) (by kernel_rfl) (fun _ _ _ h => h) (.inl ⟨by kernel_rfl, fun v hS => ?_⟩) S1.out ?_
          rotate_left
          · obtain ⟨e0, e1, e2⟩ := hS
            go_simp
            with_reducible rfl
          refine wpAnyH_take (i := 7) (v := ?_) rfl (by kernel_rfl) (by kernel_rfl) (by kernel_rfl) (fun _ _ _ h => h) (.inl ⟨by kernel_rfl, fun v hS => ?_⟩) S1.out ?_
          rotate_left
          · obtain ⟨e0, e1, e2⟩ := hS
            go_simp
            with_reducible rfl
          refine wpAnyH_take (i := 8) (v := ?_) rfl (by kernel_rfl) (by kernel_rfl) (by kernel_rfl) (fun _ _ _ h => h) (.inl ⟨by kernel_rfl, fun v hS => ?_⟩) S1.out ?_
          rotate_left
          · obtain ⟨e0, e1, e2⟩ := hS
            go_simp
            with_reducible rfl
          refine wpAnyH_take (i := 12) (v := ?_) rfl (by kernel_rfl) (by kernel_rfl) (by kernel_rfl) (fun _ _ _ h => h) (.inl ⟨by kernel_rfl, fun v hS => ?_⟩) S1.out ?_
          rotate_left
          · obtain ⟨e0, e1, e2⟩ := hS
            go_simp
            with_reducible rfl
          refine wpAnyH_take (i := 13) (v := ?_) rfl (by kernel_rfl) (by kernel_rfl) (by kernel_rfl) (fun _ _ _ h => h) (.inl ⟨by kernel_rfl, fun v hS => ?_⟩) S1.out ?_
          rotate_left
          · obtain ⟨e0, e1, e2⟩ := hS
            go_simp
            with_reducible rfl
          refine wpAnyH_take (i := 14) (v := ?_) rfl (by kernel_rfl) (by kernel_rfl) (by kernel_rfl) (fun _ _ _ h => h) (.inl ⟨by kernel_rfl, fun v hS => ?_⟩) S1.out ?_
          rotate_left
          · obtain ⟨e0, e1, e2⟩ := hS
            go_simp
            with_reducible rfl
          refine wpAnyH_take (i := 15) (v := ?_) rfl (by kernel_rfl) (by kernel_rfl) (by kernel_rfl) (fun _ _ _ h => h) (.inl ⟨by kernel_rfl, fun v hS => ?_⟩) S1.out ?_
          rotate_left
          · obtain ⟨e0, e1, e2⟩ := hS
            go_simp
            with_reducible rfl
          refine wpAnyH_take (i := 16) (v := ?_) rfl (by kernel_rfl) (by kernel_rfl) (by kernel_rfl) (fun _ _ _ h => h) (.inl ⟨by kernel_rfl, fun v hS => ?_⟩) S1.out ?_
          rotate_left
          · obtain ⟨e0, e1, e2⟩ := hS
            go_simp
            with_reducible rfl
          refine wpAnyH_take (i := 17) (v := ?_) rfl (by kernel_rfl) (by kernel_rfl) (by kernel_rfl) (fun _ _ _ h => h) (.inl ⟨by kernel_rfl, fun v hS => ?_⟩) S1.out ?_
          rotate_left
          · obtain ⟨e0, e1, e2⟩ := hS
            go_simp
            with_reducible rfl
          refine wpAnyH_take (i := 18) (v := ?_) rfl (by kernel_rfl) (by kernel_rfl) (by kernel_rfl) (fun _ _ _ h => h) (.inl ⟨by kernel_rfl, fun v hS => ?_⟩) S1.out ?_
          rotate_left
          · obtain ⟨e0, e1, e2⟩ := hS
            go_simp
            with_reducible rfl
          refine wpAnyH_take (i := 19) (v := ?_) rfl (by kernel_rfl) (by kernel_rfl) (by kernel_rfl) (fun _ _ _ h => h) (.inl ⟨by kernel_rfl, fun v hS => ?_⟩) S1.out ?_
          rotate_left
          · obtain ⟨e0, e1, e2⟩ := hS
            go_simp
            with_reducible rfl
          refine one_ready 9 rfl (by kernel_rfl) (by kernel_rfl) ?_
          go_simp
          refine (RX.out _).mono ?_
          rintro e w4 ⟨rfl, hb⟩
          have S2 := Lib.hid (show (fun v => v.cell? ⟨q, 0, none⟩ = some (.slice (some ⟨g, 0, none⟩) t.l.length c) ∧ v.cell? ⟨g, j * 2, none⟩ = some (.int .i64 (x : Int)) ∧ v.cell? ⟨g, j * 2 + 1, none⟩ = some (.int .i64 (y : Int))) w4 from ⟨(hb.cell (p := ⟨q, 0, none⟩) QL.out).trans c0, (hb.cell (p := ⟨g, j * 2, none⟩) GL.out).trans r0, (hb.cell (p := ⟨g, j * 2 + 1, none⟩) GL.out).trans r1⟩)
          have H4 := Lib.hid (hw.out.drew.trans (hb.mono hw.out.size))
          have Q4 := Lib.hid (Nat.lt_of_lt_of_le QL.out hb.size)
          have G4 := Lib.hid (Nat.lt_of_lt_of_le GL.out hb.size)
          clear hb
          refine ⟨S2.out, ?_⟩
          refine wpAnyH_take (i := 10) (v := ?_) rfl (by kernel_rfl) (by kernel_rfl) (by kernel_rfl) (fun _ _ _ h => h) (.inl ⟨by kernel_rfl, fun v hS => ?_⟩) S2.out ?_
          rotate_left
          · obtain ⟨e0, e1, e2⟩ := hS
            go_simp
            with_reducible rfl
          refine wpAnyH_take (i := 11) (v := ?_) rfl (by kernel_rfl) (by kernel_rfl) (by kernel_rfl) (fun _ _ _ h => h) (.inl ⟨by kernel_rfl, fun v hS => ?_⟩) S2.out ?_
          rotate_left
          · obtain ⟨e0, e1, e2⟩ := hS
            go_simp
            with_reducible rfl
          refine one_ready 20 rfl (by kernel_rfl) (by kernel_rfl) ?_
          go_simp
          refine (RY.out _).mono ?_
          rintro e w5 ⟨rfl, hb⟩
          have S3 := Lib.hid (show (fun v => v.cell? ⟨q, 0, none⟩ = some (.slice (some ⟨g, 0, none⟩) t.l.length c) ∧ v.cell? ⟨g, j * 2, none⟩ = some (.int .i64 (x : Int)) ∧ v.cell? ⟨g, j * 2 + 1, none⟩ = some (.int .i64 (y : Int))) w5 from ⟨(hb.cell (p := ⟨q, 0, none⟩) Q4.out).trans S2.out.1, (hb.cell (p := ⟨g, j * 2, none⟩) G4.out).trans S2.out.2.1, (hb.cell (p := ⟨g, j * 2 + 1, none⟩) G4.out).trans S2.out.2.2⟩)
          replace hw := Lib.hid (H4.out.trans (hb.mono H4.out.size))
          clear hb
          refine ⟨S3.out, ?_⟩
          refine one_ready 21 rfl (by kernel_rfl) (by kernel_rfl) ?_
          go_simp
          refine ⟨S3.out, ?_⟩
          refine one_ready 22 rfl (by kernel_rfl) (by kernel_rfl) ?_
          go_simp
          refine ⟨S3.out, rfl, ?_⟩
          go_wp2_with fail
          go_roundw
          case rel => exact ⟨j + 1, by omega, by go_num, by rw [T2.out, itemT_nat, ← ES.out, ← EX.out, ← EY.out]; exact congrArg Value.string (bytes_of_list (by simp [bs_list])), hw⟩
          case measure => simp [intOf]; omega
        · have T2 := Lib.hid (show joinT (t.l.take (j + 1)) = ts ++ [32] ++ itemT ((x : Int), (y : Int)) by rw [TN.out, if_neg (fun h => hz (TE.out.1 h))])
          have hj0 : 0 < (j : Int) := by omega
          have n0 : ¬ 9223372036854775807 < S.size + 1 := by omega
          have n1 : ¬ 9223372036854775807 < S.size + 1 + X.size := by omega
          have n2 : ¬ 9223372036854775807 < S.size + 1 + X.size + 1 := by omega
          have n3 : ¬ 9223372036854775807 < S.size + 1 + X.size + 1 + Y.size := by omega
          clear TN TE hz
          go_wp2_with fail
          have S1 := Lib.hid (show (fun v => v.cell? ⟨q, 0, none⟩ = some (.slice (some ⟨g, 0, none⟩) t.l.length c) ∧ v.cell? ⟨g, j * 2, none⟩ = some (.int .i64 (x : Int)) ∧ v.cell? ⟨g, j * 2 + 1, none⟩ = some (.int .i64 (y : Int))) wr.drew from ⟨c0, r0, r1⟩)
          refine region_plain (fun v => v.cell? ⟨q, 0, none⟩ = some (.slice (some ⟨g, 0, none⟩) t.l.length c) ∧ v.cell? ⟨g, j * 2, none⟩ = some (.int .i64 (x : Int)) ∧ v.cell? ⟨g, j * 2 + 1, none⟩ = some (.int .i64 (y : Int))) hmx ?_
          refine wpAnyH_take (i := 0) (v := ?_) rfl (by kernel_rfl) (by kernel_rfl) (by kernel_rfl) (fun _ _ _ h => h) (.inl ⟨by kernel_rfl, fun v hS => ?_⟩) S1.out ?_
          rotate_left
          · obtain ⟨e0, e1, e2⟩ := hS
            go_simp
            with_reducible rfl
          refine wpAnyH_take (i := 1) (v := ?_) rfl (by kernel_rfl) (by kernel_rfl) (by kernel_rfl) (fun _ _ _ h => h) (.inl ⟨by kernel_rfl, fun v hS => ?_⟩) S1.out ?_
          rotate_left
          · obtain ⟨e0, e1, e2⟩ := hS
            go_simp
            with_reducible rfl
          refine wpAnyH_take (i := 2) (v := ?_) rfl (by kernel_rfl) (by kernel_rfl) (by kernel_rfl) (fun _ _ _ h => h) (.inl ⟨by kernel_rfl, fun v hS => ?_⟩) S1.out ?_
          rotate_left
          · obtain ⟨e0, e1, e2⟩ := hS
            go_simp
            with_reducible rfl
          refine wpAnyH_take (i := 3) (v := ?_) rfl (by kernel_rfl) (by kernel_rfl) (by kernel_rfl) (fun _ _ _ h => h) (.inl ⟨by kernel_rfl, fun v hS => ?_⟩) S1.out ?_
          rotate_left
          · obtain ⟨e0, e1, e2⟩ := hS
            go_simp
            with_reducible rfl
          refine wpAnyH_take (i := 4) (v := ?_) rfl (by kernel_rfl) (by kernel_rfl) (by kernel_rfl) (fun _ _ _ h => h) (.inl ⟨by kernel_rfl, fun v hS => ?_⟩) S1.out ?_
          rotate_left
          · obtain ⟨e0, e1, e2⟩ := hS
            go_simp
            with_reducible rfl
          refine wpAnyH_take (i := 5) (v := ?_) rfl (by kernel_rfl) (by kernel_rfl) (by kernel_rfl) (fun _ _ _ h => h) (.inl ⟨by kernel_rfl, fun v hS => ?_⟩) S1.out ?_
          rotate_left
          · obtain ⟨e0, e1, e2⟩ := hS
            go_simp
            with_reducible rfl
          refine wpAnyH_take (i := 6) (v := ?_) rfl (by kernel_rfl) (by kernel_rfl) (by kernel_rfl) (fun _ _ _ h => h) (.inl ⟨by kernel_rfl, fun v hS => ?_⟩) S1.out ?_
          rotate_left
          · obtain ⟨e0, e1, e2⟩ := hS
            go_simp
            with_reducible rfl
          refine wpAnyH_take (i := 7) (v := ?_) rfl (by kernel_rfl) (by kernel_rfl) (by kernel_rfl) (fun _ _ _ h => h) (.inl ⟨by kernel_rfl, fun v hS => ?_⟩) S1.out ?_
          rotate_left
          · obtain ⟨e0, e1, e2⟩ := hS
            go_simp
            with_reducible rfl
          refine wpAnyH_take (i := 8) (v := ?_) rfl (by kernel_rfl) (by kernel_rfl) (by kernel_rfl) (fun _ _ _ h => h) (.inl ⟨by kernel_rfl, fun v hS => ?_⟩) S1.out ?_
          rotate_left
          · obtain ⟨e0, e1, e2⟩ := hS
            go_simp
            with_reducible rfl
          refine wpAnyH_take (i := 12) (v := ?_) rfl (by kernel_rfl) (by kernel_rfl) (by kernel_rfl) (fun _ _ _ h => h) (.inl ⟨by kernel_rfl, fun v hS => ?_⟩) S1.out ?_
          rotate_left
          · obtain ⟨e0, e1, e2⟩ := hS
            go_simp
            with_reducible rfl
          refine wpAnyH_take (i := 13) (v := ?_) rfl (by kernel_rfl) (by kernel_rfl) (by kernel_rfl) (fun _ _ _ h => h) (.inl ⟨by kernel_rfl, fun v hS => ?_⟩) S1.out ?_
          rotate_left
          · obtain ⟨e0, e1, e2⟩ := hS
            go_simp
            with_reducible rfl
          refine wpAnyH_take (i := 14) (v := ?_) rfl (by kernel_rfl) (by kernel_rfl) (by kernel_rfl) (fun _ _ _ h => h) (.inl ⟨by kernel_rfl, fun v hS => ?_⟩) S1.out ?_
          rotate_left
          · obtain ⟨e0, e1, e2⟩ := hS
            go_simp
            with_reducible rfl
          refine wpAnyH_take (i := 15) (v := ?_) rfl (by kernel_rfl) (by kernel_rfl) (by kernel_rfl) (fun _ _ _ h => h) (.inl ⟨by kernel_rfl, fun v hS => ?_⟩) S1.out ?_
          rotate_left
          · obtain ⟨e0, e1, e2⟩ := hS
            go_simp
            with_reducible rfl
          refine wpAnyH_take (i := 16) (v := ?_) rfl (by kernel_rfl) (by kernel_rfl) (by kernel_rfl) (fun _ _ _ h => h) (.inl ⟨by kernel_rfl, fun v hS => ?_⟩) S1.out ?_
          rotate_left
          · obtain ⟨e0, e1, e2⟩ := hS
            go_simp
            with_reducible rfl
          refine wpAnyH_take (i := 17) (v := ?_) rfl (by kernel_rfl) (by kernel_rfl) (by kernel_rfl) (fun _ _ _ h => h) (.inl ⟨by kernel_rfl, fun v hS => ?_⟩) S1.out ?_
          rotate_left
          · obtain ⟨e0, e1, e2⟩ := hS
            go_simp
            with_reducible rfl
          refine wpAnyH_take (i := 18) (v := ?_) rfl (by kernel_rfl) (by kernel_rfl) (by kernel_rfl) (fun _ _ _ h => h) (.inl ⟨by kernel_rfl, fun v hS => ?_⟩) S1.out ?_
          rotate_left
          · obtain ⟨e0, e1, e2⟩ := hS
            go_simp
            with_reducible rfl
          refine wpAnyH_take (i := 19) (v := ?_) rfl (by kernel_rfl) (by kernel_rfl) (by kernel_rfl) (fun _ _ _ h => h) (.inl ⟨by kernel_rfl, fun v hS => ?_⟩) S1.out ?_
          rotate_left
          · obtain ⟨e0, e1, e2⟩ := hS
            go_simp
            with_reducible rfl
          refine one_ready 9 rfl (by kernel_rfl) (by kernel_rfl) ?_
          go_simp
          refine (RX.out _).mono ?_
          rintro e w4 ⟨rfl, hb⟩
          have S2 := Lib.hid (show (fun v => v.cell? ⟨q, 0, none⟩ = some (.slice (some ⟨g, 0, none⟩) t.l.length c) ∧ v.cell? ⟨g, j * 2, none⟩ = some (.int .i64 (x : Int)) ∧ v.cell? ⟨g, j * 2 + 1, none⟩ = some (.int .i64 (y : Int))) w4 from ⟨(hb.cell (p := ⟨q, 0, none⟩) QL.out).trans c0, (hb.cell (p := ⟨g, j * 2, none⟩) GL.out).trans r0, (hb.cell (p := ⟨g, j * 2 + 1, none⟩) GL.out).trans r1⟩)
          have H4 := Lib.hid (hw.out.drew.trans (hb.mono hw.out.size))
          have Q4 := Lib.hid (Nat.lt_of_lt_of_le QL.out hb.size)
          have G4 := Lib.hid (Nat.lt_of_lt_of_le GL.out hb.size)
          clear hb
          refine ⟨S2.out, ?_⟩
          refine wpAnyH_take (i := 10) (v := ?_) rfl (by kernel_rfl) (by kernel_rfl) (by kernel_rfl) (fun _ _ _ h => h) (.inl ⟨by kernel_rfl, fun v hS => ?_⟩) S2.out ?_
          rotate_left
          · obtain ⟨e0, e1, e2⟩ := hS
            go_simp
            with_reducible rfl
          refine wpAnyH_take (i := 11) (v := ?_) rfl (by kernel_rfl) (by kernel_rfl) (by kernel_rfl) (fun _ _ _ h => h) (.inl ⟨by kernel_rfl, fun v hS => ?_⟩) S2.out ?_
          rotate_left
          · obtain ⟨e0, e1, e2⟩ := hS
            go_simp
            with_reducible rfl
          refine one_ready 20 rfl (by kernel_rfl) (by kernel_rfl) ?_
          go_simp
          refine (RY.out _).mono ?_
          rintro e w5 ⟨rfl, hb⟩
          have S3 := Lib.hid (show (fun v => v.cell? ⟨q, 0, none⟩ = some (.slice (some ⟨g, 0, none⟩) t.l.length c) ∧ v.cell? ⟨g, j * 2, none⟩ = some (.int .i64 (x : Int)) ∧ v.cell? ⟨g, j * 2 + 1, none⟩ = some (.int .i64 (y : Int))) w5 from ⟨(hb.cell (p := ⟨q, 0, none⟩) Q4.out).trans S2.out.1, (hb.cell (p := ⟨g, j * 2, none⟩) G4.out).trans S2.out.2.1, (hb.cell (p := ⟨g, j * 2 + 1, none⟩) G4.out).trans S2.out.2.2⟩)
          replace hw := Lib.hid (H4.out.trans (hb.mono H4.out.size))
          clear hb
          refine ⟨S3.out, ?_⟩
          refine one_ready 21 rfl (by kernel_rfl) (by kernel_rfl) ?_
          go_simp
          refine ⟨S3.out, ?_⟩
          refine one_ready 22 rfl (by kernel_rfl) (by kernel_rfl) ?_
          go_simp
          refine ⟨S3.out, rfl, ?_⟩
          go_wp2_with fail
          go_roundw
          case rel => exact ⟨j + 1, by omega, by go_num, by rw [T2.out, itemT_nat, ← ES.out, ← EX.out, ← EY.out]; exact congrArg Value.string (bytes_of_list (by simp [bs_list])), hw⟩
          case measure => simp [intOf]; omega
      · obtain rfl : j = t.l.length := by omega
        go_wp2_with fail
        go_ret
        exact ⟨by rw [TX.out, List.take_length]; rfl, hw.out⟩
end Go.Proofs.YtpgjmmlgaanelaaDoor.Ch
