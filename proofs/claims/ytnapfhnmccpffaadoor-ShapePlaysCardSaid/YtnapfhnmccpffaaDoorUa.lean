/-
  The reference's Decimal.
  The reference's text of a tree: mathematics.
  The reference's text of a tree: the walk.
-/
import Derived.Test.YtnapfhnmccpffaaDoorMa
import Derived.Test.YtnapfhnmccpffaaDoorMg
import Derived.Test.YtnapfhnmccpffaaDoorTe
namespace Go.Proofs.YtnapfhnmccpffaaDoor.Sh
open Go Go.RowKit

theorem bsL_app (a b : List UInt8) : bsL a ++ bsL b = bsL (a ++ b) := by
  apply ByteArray.ext
  simp [bsL, ByteArray.data_append]
theorem bsL_size (a : List UInt8) : (bsL a).size = a.length := by show a.toArray.size = _; rw [List.size_toArray]
theorem digits_lt {n : Nat} (h : n < 10) : digits n = [UInt8.ofNat (48 + n)] := by rw [← digits_dec, Lib.decDigits, dif_pos h]
theorem digits_ge {n : Nat} (h : ¬ n < 10) : digits n = digits (n / 10) ++ [UInt8.ofNat (48 + n % 10)] := by rw [← digits_dec, ← digits_dec, Lib.decDigits, dif_neg h]
theorem digits_len (n : Nat) (h : n ≤ 65536) : (digits n).length ≤ 21 := by
  rw [← itoa_nat]; exact Lib.itoa_length_le (n : Int) (by omega) (by omega)
set_option maxRecDepth 100000 in
set_option maxHeartbeats 4000000 in
theorem ref_decimal (n : Nat) : n ≤ 65536 → ∀ w : World, Calls Tryd.prog 39 #[.int .i64 (n : Int)] w fun e w' => e = .returned (.string (bsL (digits n))) ∧ ∃ k, w' = w.drewN k := by
  induction n using Nat.strongRecOn with
  | _ n ih =>
    intro hn w
    by_cases h : n < 10
    · have hc : n = 0 ∨ n = 1 ∨ n = 2 ∨ n = 3 ∨ n = 4 ∨ n = 5 ∨ n = 6 ∨ n = 7 ∨ n = 8 ∨ n = 9 := by omega
      clear ih hn h
      rcases hc with rfl | rfl | rfl | rfl | rfl | rfl | rfl | rfl | rfl | rfl
      all_goals
        go_enter Tryd.func39, Tryd.ntmps39
        go_wp2
        go_ret
        exact ⟨rfl, 0, rfl⟩
    · have IH := Lib.hid (ih (n / 10) (by omega) (by omega))
      have DG := Lib.hid (digits_ge h)
      have hq : Int.tdiv (n : Int) 10 = ((n / 10 : Nat) : Int) := by rw [Int.tdiv_eq_ediv_of_nonneg (by omega)]; omega
      obtain ⟨q, hq'⟩ : ∃ q, n / 10 = q := ⟨_, rfl⟩
      obtain ⟨d, hd⟩ : ∃ d, n % 10 = d := ⟨_, rfl⟩
      have hr : Int.tmod (n : Int) 10 = (d : Int) := by rw [Int.tmod_eq_emod_of_nonneg (by omega)]; omega
      rw [hq'] at hq IH DG
      rw [hd] at DG
      have nge : ¬ (n : Int) < 10 := by omega
      have qb : q ≤ 65536 := by omega
      have wq : IntKind.i64.wrap (q : Int) = q := IntWalk.i64_in _ ⟨by omega, by omega⟩
      have w1 : IntKind.i64.wrap 1 = 1 := IntWalk.i64_in _ ⟨by omega, by omega⟩
      have w2 : IntKind.i64.wrap 2 = 2 := IntWalk.i64_in _ ⟨by omega, by omega⟩
      have w3 : IntKind.i64.wrap 3 = 3 := IntWalk.i64_in _ ⟨by omega, by omega⟩
      have w4 : IntKind.i64.wrap 4 = 4 := IntWalk.i64_in _ ⟨by omega, by omega⟩
      have w5 : IntKind.i64.wrap 5 = 5 := IntWalk.i64_in _ ⟨by omega, by omega⟩
      have w6 : IntKind.i64.wrap 6 = 6 := IntWalk.i64_in _ ⟨by omega, by omega⟩
      have w7 : IntKind.i64.wrap 7 = 7 := IntWalk.i64_in _ ⟨by omega, by omega⟩
      have w8 : IntKind.i64.wrap 8 = 8 := IntWalk.i64_in _ ⟨by omega, by omega⟩
      have w9 : IntKind.i64.wrap 9 = 9 := IntWalk.i64_in _ ⟨by omega, by omega⟩
      have w10 : IntKind.i64.wrap 10 = 10 := IntWalk.i64_in _ ⟨by omega, by omega⟩
      have hc : d = 0 ∨ d = 1 ∨ d = 2 ∨ d = 3 ∨ d = 4 ∨ d = 5 ∨ d = 6 ∨ d = 7 ∨ d = 8 ∨ d = 9 := by omega
      have QL := Lib.hid (digits_len q qb)
      have hmx : Tryd.prog.follows .mixedOrders = true := by kernel_rfl
      clear ih h hq' hd
      go_enter Tryd.func39, Tryd.ntmps39
      rcases hc with rfl | rfl | rfl | rfl | rfl | rfl | rfl | rfl | rfl | rfl
      all_goals
        have n1 : ¬ 9223372036854775807 < (bsL (digits q)).size + 1 := by have := QL.out; rw [bsL_size]; omega
        have G := Lib.hid DG.out
        go_wp2_with fail
        go_region_law (go_simp; go_at_call 39; (with_reducible refine (IH.out _).mono ?_); rintro e w' ⟨rfl, kk, rfl⟩)
        all_goals
          go_wp2_with fail
          go_ret
          exact ⟨by rw [G.out, ← bsL_app]; rfl, 1 + kk, rfl⟩
end Go.Proofs.YtnapfhnmccpffaaDoor.Sh
namespace Go.Proofs.YtnapfhnmccpffaaDoor.Sh
open Go Go.RowKit

/-- Some of a list, written behind a text. -/
def catL {α : Type} (f : α → List UInt8) (b : List UInt8) (l : List α) (k : Nat) : List UInt8 := b ++ (l.take k).flatMap f
theorem catL_zero {α : Type} (f : α → List UInt8) (b : List UInt8) (l : List α) : catL f b l 0 = b := by simp [catL]
theorem catL_next {α : Type} (f : α → List UInt8) (b : List UInt8) {l : List α} {k : Nat} {x : α} (h : l[k]? = some x) : catL f b l (k + 1) = catL f b l k ++ f x := by
  obtain ⟨hk, e⟩ := List.getElem?_eq_some_iff.1 h
  unfold catL
  rw [List.take_succ_eq_append_getElem hk, List.flatMap_append, List.flatMap_singleton, e, List.append_assoc]
theorem catL_all {α : Type} (f : α → List UInt8) (b : List UInt8) (l : List α) : catL f b l l.length = b ++ l.flatMap f := by unfold catL; rw [List.take_length]
theorem catL_len {α : Type} (f : α → List UInt8) (b : List UInt8) (l : List α) (c : Nat) (h : ∀ x ∈ l, (f x).length ≤ c) (k : Nat) (hk : k ≤ l.length) : (catL f b l k).length ≤ b.length + k * c := by
  induction k with
  | zero => rw [catL_zero]; omega
  | succ k ih =>
    have hk' : k < l.length := hk
    rw [catL_next f b (List.getElem?_eq_getElem hk'), List.length_append, Nat.add_mul]
    have h1 := ih (by omega)
    have h2 := h _ (List.getElem_mem hk')
    omega
def fR (r : Nat) : List UInt8 := 32 :: digits r
def fN (n : ByteArray) : List UInt8 := 32 :: n.data.toList
def fK (p : ByteArray × Nat) : List UInt8 := 32 :: p.1.data.toList ++ [58] ++ digits p.2
theorem bsL_of (n : ByteArray) : bsL n.data.toList = n := by
  apply ByteArray.ext
  simp [bsL]
theorem fN_eq : fN = fun n => 32 :: n.data.toList := rfl
theorem fK_eq : fK = fun p => 32 :: p.1.data.toList ++ [58] ++ digits p.2 := rfl
def rootsL (t : Tre) : List UInt8 := catL fR [114, 111, 111, 116, 115] t.roots t.roots.length ++ [10]
/-- The text up to shape k. -/
def T2 (t : Tre) (k : Nat) : List UInt8 := rootsL t ++ ((t.L.take k).mapIdx textSh).flatten
theorem T2_zero (t : Tre) : T2 t 0 = rootsL t := by simp [T2]
theorem T2_next (t : Tre) {k : Nat} (h : k < t.L.length) : T2 t (k + 1) = T2 t k ++ textSh k (t.sh k) := by
  unfold T2
  rw [List.take_succ_eq_append_getElem h, List.mapIdx_append, List.flatten_append, sh_lt h]
  simp [List.length_take, Nat.min_eq_left (Nat.le_of_lt h)]
theorem T2_all (t : Tre) : T2 t t.L.length = t.text := by
  unfold T2 rootsL Tre.text
  rw [List.take_length, catL_all]
  rfl
/-- A shape's line, in the pieces that are written. -/
theorem textSh_none {k : Nat} {x : Shp} (h : x.ali = none) : textSh k x = digits k ++ [32] ++ digits x.cls ++ x.names.flatMap fN ++ [32, 62] ++ x.links.flatMap fK ++ [10] := by
  unfold textSh
  rw [h]
  simp [fN_eq, fK_eq]
theorem textSh_some {k a : Nat} {x : Shp} (h : x.ali = some a) : textSh k x = digits k ++ [32] ++ digits x.cls ++ x.names.flatMap fN ++ [32, 61, 32] ++ digits a ++ [10] := by
  unfold textSh
  rw [h]
  simp [fN_eq]
theorem T2_len {t : Tre} {m : Nat} (hw : t.WF m) (hsz : ∀ s, ∀ x ∈ (t.sh s).names, x.size ≤ 1) (h64 : ∀ s, (t.sh s).names.length ≤ 200) (hs : Srt t) (k : Nat) (hk : k ≤ t.L.length) : (T2 t k).length ≤ 10000 + k * 2000001 := by
  have few := hw.few
  induction k with
  | zero =>
    rw [T2_zero]
    unfold rootsL
    have h1 := catL_len fR [114, 111, 111, 116, 115] t.roots 22 (fun r hr => by
      obtain ⟨j, hj, rfl⟩ := List.getElem_of_mem hr
      have h1 := (hw.ro j (by rw [← hw.rl]; exact hj)).1
      rw [List.getD_eq_getElem?_getD, List.getElem?_eq_getElem hj, Option.getD_some] at h1
      have := digits_len t.roots[j] (by omega)
      unfold fR
      simp only [List.length_cons]
      omega) t.roots.length (Nat.le_refl _)
    have h2 := m_few hw
    have h3 := hw.rl
    simp only [List.length_append, List.length_cons, List.length_nil] at h1 ⊢
    omega
  | succ k ih =>
    rw [T2_next t hk, List.length_append, ← text_row t k hk]
    have h1 := ih (by omega)
    have h2 := (rows_small hw hsz h64 hs (rowP t (trs t t.L.length) k) (List.mem_cons_of_mem _ (List.mem_map.2 ⟨k, List.mem_range.2 hk, rfl⟩))).2
    rw [List.length_append]
    simp only [List.length_cons, List.length_nil]
    omega
theorem links_form {w : World} {v : Value} {l : List (ByteArray × Nat)} (h : Links w v l) :
    ∃ A c, v = .slice A l.length c ∧ ∀ j q, l[j]? = some q → ∃ g, A = some ⟨g, 0, none⟩ ∧ w.cell? ⟨g, j * 2, none⟩ = some (.string q.1) ∧ w.cell? ⟨g, j * 2 + 1, none⟩ = some (.int .i64 q.2) := by
  obtain ⟨xs, o, hx⟩ := h
  rcases o.2 with ⟨rfl, h0⟩ | ⟨g, cap, cur, rfl, _⟩
  · exact ⟨none, 0, by rw [h0], fun j q hq => by have := (List.getElem?_eq_some_iff.1 hq).1; omega⟩
  · refine ⟨_, _, rfl, fun j q hq => ⟨g, rfl, ?_, ?_⟩⟩
    · have hj := (List.getElem?_eq_some_iff.1 hq).1
      rw [World.ownsRow.cellAt o (j * 2) (by omega)]; exact (hx j q hq).1
    · have hj := (List.getElem?_eq_some_iff.1 hq).1
      rw [World.ownsRow.cellAt o (j * 2 + 1) (by omega)]; exact (hx j q hq).2
theorem below_drawn {B : Nat} {w w' : World} (h : Below B w w') (k : Nat) : Below B w (w'.drewN k) := h.trans ⟨rfl, rfl, rfl, Nat.le_refl _, fun _ _ => rfl⟩
end Go.Proofs.YtnapfhnmccpffaaDoor.Sh
namespace Go.Proofs.YtnapfhnmccpffaaDoor.Sh
open Go Go.RowKit

set_option maxRecDepth 100000 in
set_option maxHeartbeats 8000000 in
theorem ref_text (w : World) (p : Nat) (t : Tre) (F : Nat → Prop) (m : Nat) (h : RefH w p t F) (hw : t.WF m) (hs : Srt t) (h64 : ∀ s, (t.sh s).names.length ≤ 200) (hsz : ∀ s, ∀ x ∈ (t.sh s).names, x.size ≤ 1) :
    Calls Tryd.prog 14 #[.pointer (some ⟨p, 0, none⟩)] w fun e w' => e = .returned (.string ⟨t.text.toArray⟩) ∧ Below w.heap.size w w' := by
  have few := hw.few
  have W := Lib.hid hw
  have H64 := Lib.hid h64
  have HSZ := Lib.hid hsz
  have SRT := Lib.hid hs
  obtain ⟨X, hX⟩ : ∃ X, w.heap.size = X := ⟨_, rfl⟩
  obtain ⟨gL, cL, vR, hd, h⟩ := h
  have HA := Lib.hid h
  have c0 := h.c0
  have c1 := h.c1
  obtain ⟨A, cR, rfl, hroot⟩ := h.rootV
  have HR := Lib.hid hroot
  obtain ⟨n, hn⟩ : ∃ n, t.roots.length = n := ⟨_, rfl⟩
  obtain ⟨N, hN⟩ : ∃ N, t.L.length = N := ⟨_, rfl⟩
  have n200 : n ≤ 200 := by have h1 := m_few hw; have h2 := hw.rl; omega
  rw [hn] at c1
  rw [hN] at c0
  have pl : p < X := by rw [← hX]; exact h.lt p h.fp
  have gl : gL < X := by rw [← hX]; exact h.lt gL h.fL
  have N200 : N ≤ 200 := by omega
  have eR : (⟨#[114, 111, 111, 116, 115]⟩ : ByteArray) = bsL (catL fR [114, 111, 111, 116, 115] t.roots 0) := by rw [catL_zero]; rfl
  have B00 := Lib.hid (show Below X w w by rw [← hX]; exact Below.refl _ w)
  have hmx : Tryd.prog.follows .mixedOrders = true := by kernel_rfl
  clear h hw hs h64 hsz hroot
  go_enter Tryd.func14, Tryd.ntmps14
  go_wp2_with fail
  go_loopw [3, 4] (fun s i wr => ∃ k : Nat, k ≤ n ∧ i = .int .i64 k ∧ Hid (s = .string (bsL (catL fR [114, 111, 111, 116, 115] t.roots k))) ∧ Hid (Below X w wr)) (fun _ i _ => n - (intOf i).toNat)
  case atStart => exact ⟨0, by omega, rfl, Lib.hid (by rw [← eR]), B00⟩
  case round =>
    obtain ⟨k, hk, rfl, hs, hb⟩ := hrel
    have hs := hs.out
    subst hs
    have d0 : wr.cell? ⟨p, 0, none⟩ = some (.slice (some ⟨gL, 0, none⟩) N cL) := (hb.out.cell (p := ⟨p, 0, none⟩) pl).trans c0
    have d1 : wr.cell? ⟨p, 1, none⟩ = some (.slice A n cR) := (hb.out.cell (p := ⟨p, 1, none⟩) pl).trans c1
    have SL := catL_len fR [114, 111, 111, 116, 115] t.roots 22 (fun r hr => by
      obtain ⟨j, hj, rfl⟩ := List.getElem_of_mem hr
      have h1 := (W.out.ro j (by rw [← W.out.rl]; exact hj)).1
      rw [List.getD_eq_getElem?_getD, List.getElem?_eq_getElem hj, Option.getD_some] at h1
      have := digits_len t.roots[j] (by omega)
      unfold fR
      simp only [List.length_cons]
      omega) k (by omega)
    obtain ⟨S, hS⟩ : ∃ S, bsL (catL fR [114, 111, 111, 116, 115] t.roots k) = S := ⟨_, rfl⟩
    have SZ : S.size ≤ 10000 := by rw [← hS, bsL_size]; simp only [List.length_cons, List.length_nil] at SL; omega
    rw [hS]
    have ES := Lib.hid hS
    clear hS SL
    by_cases hlt : k < n
    · have hki : (k : Int) < n := by omega
      obtain ⟨gr, rfl, rc⟩ := HR.out k (by omega)
      obtain ⟨q, hq⟩ : ∃ q, t.roots.getD k 0 = q := ⟨_, rfl⟩
      rw [hq] at rc
      have q200 : q ≤ 200 := by have h1 := (W.out.ro k (by have := W.out.rl; omega)).1; omega
      have grl : gr < w.heap.size := by
        rcases Nat.lt_or_ge gr w.heap.size with h | h
        · exact h
        · unfold World.cell? at rc; rw [Array.getElem?_eq_none h] at rc; simp at rc
      have rc : wr.cell? ⟨gr, k, none⟩ = some (.int .i64 (q : Int)) := (hb.out.cell (p := ⟨gr, k, none⟩) (by rw [← hX]; exact grl)).trans rc
      have DL := digits_len q (by omega)
      have n1 : ¬ 9223372036854775807 < S.size + 1 := by omega
      have n2 : ¬ 9223372036854775807 < S.size + 1 + (bsL (digits q)).size := by rw [bsL_size]; omega
      have NX := Lib.hid (show S ++ ⟨#[32]⟩ ++ bsL (digits q) = bsL (catL fR [114, 111, 111, 116, 115] t.roots (k + 1)) by
        rw [catL_next fR _ (x := q) (by rw [← hq, List.getD_eq_getElem?_getD, List.getElem?_eq_getElem (by omega)]; rfl), ← ES.out, show (⟨#[32]⟩ : ByteArray) = bsL [32] from rfl, bsL_app, bsL_app]
        simp [fR])
      go_wp2_with fail
      refine (ref_decimal q (by omega) wr).mono ?_
      rintro e w1 ⟨rfl, kk, rfl⟩
      have B1 := Lib.hid (below_drawn hb.out kk)
      go_wp2_with fail
      go_roundw
      case rel => exact ⟨k + 1, by omega, by go_num, Lib.hid (by rw [← NX.out]), B1⟩
      case measure => simp [intOf]; omega
    · obtain rfl : n = k := by omega
      have n1 : ¬ 9223372036854775807 < S.size + 1 := by omega
      have E2 : S ++ ⟨#[10]⟩ = bsL (T2 t 0) := by
        rw [← ES.out, show (⟨#[10]⟩ : ByteArray) = bsL [10] from rfl, bsL_app, T2_zero]
        unfold rootsL
        rw [hn]
      go_wp2_with fail
      try rw [E2]
      go_loopw [3, 5] (fun s i wr => ∃ k : Nat, k ≤ N ∧ i = .int .i64 k ∧ Hid (s = .string (bsL (T2 t k))) ∧ Hid (Below X w wr)) (fun _ i _ => N - (intOf i).toNat)
      case atStart => exact ⟨0, by omega, rfl, Lib.hid rfl, hb⟩
      case round =>
        obtain ⟨k, hk, rfl, hs, hb2⟩ := hrel
        have hs := hs.out
        subst hs
        clear SZ n1 E2 ES d0 d1
        have d0 : wr.cell? ⟨p, 0, none⟩ = some (.slice (some ⟨gL, 0, none⟩) N cL) := (hb2.out.cell (p := ⟨p, 0, none⟩) pl).trans c0
        obtain ⟨S, hS⟩ : ∃ S, bsL (T2 t k) = S := ⟨_, rfl⟩
        have SZ : S.size ≤ 500000000 := by
          rw [← hS, bsL_size]
          have h1 := T2_len W.out HSZ.out H64.out SRT.out k (by omega)
          have h2 : k * 2000001 ≤ 200 * 2000001 := Nat.mul_le_mul_right _ (by omega)
          omega
        rw [hS]
        have ES := Lib.hid hS
        clear hS
        by_cases hlt : k < N
        · have hki : (k : Int) < N := by omega
          obtain ⟨x, hx⟩ : ∃ x, t.sh k = x := ⟨_, rfl⟩
          have kl : k < t.L.length := by omega
          obtain ⟨Al, kc, hlv, hlk⟩ := links_form (HA.out.links k kl)
          have HLK := Lib.hid hlk
          have HNM := Lib.hid (HA.out.names k kl)
          have q0 := HA.out.r0 kl
          have q1 := HA.out.r1 kl
          have q2 := HA.out.r2 kl
          have q3 := HA.out.r3 kl
          rw [hlv] at q3
          have xs1 := HSZ.out k
          have xl := H64.out k
          have xlk := W.out.li k
          have xlen := SRT.out.lim k
          rw [hx] at q0 q1 q2 q3 HLK HNM xs1 xl xlk xlen
          have XS1 := Lib.hid xs1
          have XLK := Lib.hid xlk
          have LKS := Lib.hid (show ∀ y, y ∈ x.links → y.1.size ≤ 1 from fun y hy => HSZ.out y.2 y.1 (by rw [(xlk y hy).2.2]; simp))
          have xc : x.cls ≤ 200 := by have h1 := W.out.cl k kl; have h2 := m_few W.out; rw [hx] at h1; omega
          have XA := Lib.hid (show ∀ a, x.ali = some a → a ≤ 200 from fun a ha => by have h1 := (W.out.al k a (by rw [hx]; exact ha)).1; omega)
          have NX := Lib.hid (show T2 t (k + 1) = T2 t k ++ textSh k x by rw [← hx]; exact T2_next t kl)
          have p0 : wr.cell? ⟨gL, k * 4, none⟩ = _ := (hb2.out.cell (p := ⟨gL, k * 4, none⟩) gl).trans q0
          have p1 : wr.cell? ⟨gL, k * 4 + 1, none⟩ = _ := (hb2.out.cell (p := ⟨gL, k * 4 + 1, none⟩) gl).trans q1
          have p2 : wr.cell? ⟨gL, k * 4 + 2, none⟩ = _ := (hb2.out.cell (p := ⟨gL, k * 4 + 2, none⟩) gl).trans q2
          have p3 : wr.cell? ⟨gL, k * 4 + 3, none⟩ = _ := (hb2.out.cell (p := ⟨gL, k * 4 + 3, none⟩) gl).trans q3
          clear q0 q1 q2 q3 hlk xs1 xlk
          obtain ⟨Xb, hXb⟩ : ∃ Xb, wr.heap.size = Xb := ⟨_, rfl⟩
          obtain ⟨W1, hW1⟩ : ∃ W1, wr.alloc (.cells #[.int .i64 x.cls, .int .i64 (aliV x), .slice (some (hd k).nA) x.names.length (hd k).nc, .slice Al x.links.length kc] 73) = W1 := ⟨_, rfl⟩
          have B1 := Lib.hid (show Below X w W1 by rw [← hW1]; exact hb2.out.alloc (by have := hb2.out.size; omega) _)
          have K1 := Lib.hid (show Bk W1 Xb #[.int .i64 x.cls, .int .i64 (aliV x), .slice (some (hd k).nA) x.names.length (hd k).nc, .slice Al x.links.length kc] 73 by rw [← hW1, ← hXb]; exact Bk.new wr _ _)
          have DK := digits_len k (by omega)
          have DC := digits_len x.cls (by omega)
          have n1 : ¬ 9223372036854775807 < S.size + (bsL (digits k)).size := by rw [bsL_size]; omega
          have n2 : ¬ 9223372036854775807 < S.size + (bsL (digits k)).size + 1 := by rw [bsL_size]; omega
          have n3 : ¬ 9223372036854775807 < S.size + (bsL (digits k)).size + 1 + (bsL (digits x.cls)).size := by rw [bsL_size, bsL_size]; omega
          have S1 := Lib.hid (show W1.drew.cell? ⟨Xb, 0, none⟩ = some (.int .i64 x.cls) from K1.out.cell 0 _ rfl)
          go_wp2_with fail
          refine region_plain (fun v => v.cell? ⟨Xb, 0, none⟩ = some (.int .i64 x.cls)) hmx ?_
          refine wpAnyH_take (i := 0) (v := ?_) rfl (by kernel_rfl) (by kernel_rfl) (by kernel_rfl) (fun _ _ _ h => h) (.inl ⟨by kernel_rfl, fun v hS => ?_⟩) S1.out ?_
          rotate_left
          · have h0 := hS
            go_simp
            with_reducible rfl
          refine wpAnyH_take (i := 1) (v := ?_) rfl (by kernel_rfl) (by kernel_rfl) (by kernel_rfl) (fun _ _ _ h => h) (.inl ⟨by kernel_rfl, fun v hS => ?_⟩) S1.out ?_
          rotate_left
          · have h0 := hS
            go_simp
            with_reducible rfl
          refine wpAnyH_take (i := 5) (v := ?_) rfl (by kernel_rfl) (by kernel_rfl) (by kernel_rfl) (fun _ _ _ h => h) (.inl ⟨by kernel_rfl, fun v hS => ?_⟩) S1.out ?_
          rotate_left
          · have h0 := hS
            go_simp
            with_reducible rfl
          refine wpAnyH_take (i := 6) (v := ?_) rfl (by kernel_rfl) (by kernel_rfl) (by kernel_rfl) (fun _ _ _ h => h) (.inl ⟨by kernel_rfl, fun v hS => ?_⟩) S1.out ?_
          rotate_left
          · have h0 := hS
            go_simp
            with_reducible rfl
          refine one_ready 2 rfl (by kernel_rfl) (by kernel_rfl) ?_
          go_simp
          refine (ref_decimal k (by omega) W1.drew).mono ?_
          rintro e w' ⟨rfl, k1, rfl⟩
          refine ⟨S1.out, ?_⟩
          have S2 := Lib.hid (show (W1.drew.drewN k1).cell? ⟨Xb, 0, none⟩ = some (.int .i64 x.cls) from S1.out)
          refine wpAnyH_take (i := 3) (v := ?_) rfl (by kernel_rfl) (by kernel_rfl) (by kernel_rfl) (fun _ _ _ h => h) (.inl ⟨by kernel_rfl, fun v hS => ?_⟩) S2.out ?_
          rotate_left
          · have h0 := hS
            go_simp
            with_reducible rfl
          refine wpAnyH_take (i := 4) (v := ?_) rfl (by kernel_rfl) (by kernel_rfl) (by kernel_rfl) (fun _ _ _ h => h) (.inl ⟨by kernel_rfl, fun v hS => ?_⟩) S2.out ?_
          rotate_left
          · have h0 := hS
            go_simp
            with_reducible rfl
          refine one_ready 7 rfl (by kernel_rfl) (by kernel_rfl) ?_
          go_simp
          refine (ref_decimal x.cls (by omega) _).mono ?_
          rintro e w' ⟨rfl, k2, rfl⟩
          refine ⟨S1.out, ?_⟩
          refine one_ready 8 rfl (by kernel_rfl) (by kernel_rfl) ?_
          go_simp
          refine ⟨S1.out, ?_⟩
          refine one_ready 9 rfl (by kernel_rfl) (by kernel_rfl) ?_
          go_simp
          refine ⟨S1.out, rfl, ?_⟩
          obtain ⟨bs, hbs⟩ : ∃ bs, T2 t k ++ digits k ++ [32] ++ digits x.cls = bs := ⟨_, rfl⟩
          have E3 := Lib.hid (show S ++ bsL (digits k) ++ ⟨#[32]⟩ ++ bsL (digits x.cls) = bsL (catL fN bs x.names 0) by
            rw [← ES.out, show (⟨#[32]⟩ : ByteArray) = bsL [32] from rfl, bsL_app, bsL_app, bsL_app, hbs, catL_zero])
          have bsl : bs.length ≤ 500000100 := by
            rw [← hbs]
            simp only [List.length_append, List.length_cons, List.length_nil]
            rw [← ES.out, bsL_size] at SZ
            omega
          have BS := Lib.hid hbs
          rw [E3.out]
          have B2 := Lib.hid (show Below X w (W1.drewN (1 + k1 + k2)) from below_drawn B1.out _)
          have K2 := Lib.hid (show Bk (W1.drewN (1 + k1 + k2)) Xb #[.int .i64 x.cls, .int .i64 (aliV x), .slice (some (hd k).nA) x.names.length (hd k).nc, .slice Al x.links.length kc] 73 from K1.out)
          obtain ⟨V2, hV2⟩ : ∃ V2, W1.drewN (1 + k1 + k2) = V2 := ⟨_, rfl⟩
          rw [hV2] at B2 K2 ⊢
          have hXw : w.heap.size ≤ Xb := by have := hb2.out.size; omega
          clear hV2 E3 hbs S1 S2 n1 n2 n3 p0 p1 p2 p3 hW1 d0
          go_wp2_with fail
          go_loopw [3, 7] (fun s j wr => ∃ i : Nat, i ≤ x.names.length ∧ j = .int .i64 i ∧ Hid (s = .string (bsL (catL fN bs x.names i))) ∧ Hid (Below X w wr) ∧ Hid (Bk wr Xb #[.int .i64 x.cls, .int .i64 (aliV x), .slice (some (hd k).nA) x.names.length (hd k).nc, .slice Al x.links.length kc] 73)) (fun _ j _ => x.names.length - (intOf j).toNat)
          case atStart => exact ⟨0, by omega, rfl, Lib.hid rfl, B2, K2⟩
          case round =>
            obtain ⟨i, hi, rfl, hs, hb3, hk3⟩ := hrel
            have hs := hs.out
            subst hs
            have x1 := hk3.out.cell 1 _ rfl
            have x2 := hk3.out.cell 2 _ rfl
            have SL := catL_len fN bs x.names 2 (fun y hy => by
              have := XS1.out y hy
              unfold fN
              rw [List.length_cons, Array.length_toList]
              show y.size + 1 ≤ 2
              omega) i hi
            obtain ⟨S2, hS2⟩ : ∃ S2, bsL (catL fN bs x.names i) = S2 := ⟨_, rfl⟩
            have SZ2 : S2.size ≤ 500000600 := by rw [← hS2, bsL_size]; omega
            rw [hS2]
            have ES2 := Lib.hid hS2
            clear hS2 SL
            by_cases hil : i < x.names.length
            · have hii : (i : Int) < x.names.length := by omega
              obtain ⟨ad, ead, hadb, hcell⟩ := HNM.out i _ (List.getElem?_eq_getElem hil)
              injection ead with ead
              subst ead
              have r : wr.cell? ((hd k).nA.add i) = some (.string x.names[i]) := (World.cell?_of_block (by rw [blk_add]; exact hb3.out.block _ (by rw [← hX]; exact HA.out.lt _ hadb.1))).trans hcell
              obtain ⟨nm, hnm⟩ : ∃ nm, x.names[i] = nm := ⟨_, rfl⟩
              have nz : nm.size ≤ 1 := by rw [← hnm]; exact XS1.out _ (List.getElem_mem hil)
              rw [hnm] at r
              have m1 : ¬ 9223372036854775807 < S2.size + 1 := by omega
              have m2 : ¬ 9223372036854775807 < S2.size + 1 + nm.size := by omega
              have NX2 := Lib.hid (show S2 ++ ⟨#[32]⟩ ++ nm = bsL (catL fN bs x.names (i + 1)) by
                rw [catL_next fN _ (x := nm) (by rw [List.getElem?_eq_getElem hil, hnm]), ← ES2.out, show (⟨#[32]⟩ : ByteArray) = bsL [32] from rfl, ← bsL_of nm, bsL_app, bsL_app, bsL_of]
                simp [fN])
              clear hcell hnm
              go_wp2_with fail
              go_roundw
              case rel => exact ⟨i + 1, by omega, by go_num, Lib.hid (by rw [← NX2.out]), hb3, hk3⟩
              case measure => simp [intOf]; omega
            · obtain rfl : i = x.names.length := by omega
              have hnl : ¬ (x.names.length : Int) < x.names.length := by omega
              have E4 := Lib.hid (show S2 = bsL (bs ++ x.names.flatMap fN) by rw [← ES2.out, catL_all])
              have LK := Lib.hid XLK.out
              cases ha : x.ali with
              | some a =>
                have ea : aliV x = a := by unfold aliV; rw [ha]
                have a200 := XA.out a ha
                rw [ea] at x1
                have DA := digits_len a (by omega)
                have age : (0 : Int) ≤ a := by omega
                have m1 : ¬ 9223372036854775807 < S2.size + 3 := by omega
                have m2 : ¬ 9223372036854775807 < S2.size + 3 + (bsL (digits a)).size := by rw [bsL_size]; omega
                have m3 : ¬ 9223372036854775807 < S2.size + 3 + (bsL (digits a)).size + 1 := by rw [bsL_size]; omega
                have FIN := Lib.hid (show S2 ++ ⟨#[32, 61, 32]⟩ ++ bsL (digits a) ++ ⟨#[10]⟩ = bsL (T2 t (k + 1)) by
                  rw [E4.out, show (⟨#[32, 61, 32]⟩ : ByteArray) = bsL [32, 61, 32] from rfl, show (⟨#[10]⟩ : ByteArray) = bsL [10] from rfl, bsL_app, bsL_app, bsL_app, NX.out, textSh_some ha, ← BS.out]
                  simp)
                go_wp2_with fail
                refine (ref_decimal a (by omega) wr).mono ?_
                rintro e w' ⟨rfl, k3, rfl⟩
                have B4 := Lib.hid (below_drawn hb3.out k3)
                go_wp2_with fail
                go_roundw
                case rel => exact ⟨k + 1, by omega, by go_num, Lib.hid (by rw [← FIN.out]), B4⟩
                case measure => simp [intOf]; omega
              | none =>
                have ea : aliV x = -1 := by unfold aliV; rw [ha]
                rw [ea] at x1
                have m1 : ¬ 9223372036854775807 < S2.size + 2 := by omega
                go_wp2_with fail
                obtain ⟨b3, hb3'⟩ : ∃ b3, bs ++ x.names.flatMap fN ++ [32, 62] = b3 := ⟨_, rfl⟩
                have E5 := Lib.hid (show S2 ++ ⟨#[32, 62]⟩ = bsL (catL fK b3 x.links 0) by
                  rw [E4.out, show (⟨#[32, 62]⟩ : ByteArray) = bsL [32, 62] from rfl, bsL_app, hb3', catL_zero])
                have B3L : b3.length ≤ 500000700 := by
                  rw [← hb3', List.length_append]
                  rw [E4.out, bsL_size] at SZ2
                  simp only [List.length_cons, List.length_nil]
                  omega
                have BS3 := Lib.hid hb3'
                rw [E5.out]
                have lkl : x.links.length ≤ 200 := by omega
                clear E5 hb3' m1 x1 x2
                go_loopw [3, 8] (fun s j wr => ∃ i : Nat, i ≤ x.links.length ∧ j = .int .i64 i ∧ Hid (s = .string (bsL (catL fK b3 x.links i))) ∧ Hid (Below X w wr) ∧ Hid (Bk wr Xb #[.int .i64 x.cls, .int .i64 (aliV x), .slice (some (hd k).nA) x.names.length (hd k).nc, .slice Al x.links.length kc] 73)) (fun _ j _ => x.links.length - (intOf j).toNat)
                case atStart => exact ⟨0, by omega, rfl, Lib.hid rfl, hb3, hk3⟩
                case round =>
                  obtain ⟨i, hi, rfl, hs, hb4, hk4⟩ := hrel
                  have hs := hs.out
                  subst hs
                  have x3 := hk4.out.cell 3 _ rfl
                  have SL := catL_len fK b3 x.links 24 (fun y hy => by
                    have h1 := LK.out y hy
                    have h2 := LKS.out y hy
                    have h3 := digits_len y.2 (by omega)
                    unfold fK
                    simp only [List.length_cons, List.length_append, Array.length_toList, List.length_nil]
                    have h4 : y.1.data.size ≤ 1 := h2
                    omega) i hi
                  obtain ⟨S3, hS3⟩ : ∃ S3, bsL (catL fK b3 x.links i) = S3 := ⟨_, rfl⟩
                  have SZ3 : S3.size ≤ 500006000 := by rw [← hS3, bsL_size]; omega
                  rw [hS3]
                  have ES3 := Lib.hid hS3
                  clear hS3 SL
                  by_cases hil : i < x.links.length
                  · have hii : (i : Int) < x.links.length := by omega
                    obtain ⟨q, hq⟩ : ∃ q, x.links[i]? = some q := ⟨_, List.getElem?_eq_getElem hil⟩
                    obtain ⟨lg, rfl, l0, l1⟩ := HLK.out i q hq
                    have hqm := List.mem_of_getElem? hq
                    have lgl : lg < w.heap.size := by
                      rcases Nat.lt_or_ge lg w.heap.size with h | h
                      · exact h
                      · unfold World.cell? at l0; rw [Array.getElem?_eq_none h] at l0; simp at l0
                    have l0 : wr.cell? ⟨lg, i * 2, none⟩ = some (.string q.1) := (hb4.out.cell (p := ⟨lg, i * 2, none⟩) (by rw [← hX]; exact lgl)).trans l0
                    have l1 : wr.cell? ⟨lg, i * 2 + 1, none⟩ = some (.int .i64 q.2) := (hb4.out.cell (p := ⟨lg, i * 2 + 1, none⟩) (by rw [← hX]; exact lgl)).trans l1
                    have q2 : q.2 ≤ 200 := by have := (LK.out q hqm).1; omega
                    have q1 : q.1.size ≤ 1 := LKS.out q hqm
                    have DQ := digits_len q.2 (by omega)
                    have NX3 := Lib.hid (show S3 ++ ⟨#[32]⟩ ++ q.1 ++ ⟨#[58]⟩ ++ bsL (digits q.2) = bsL (catL fK b3 x.links (i + 1)) by
                      rw [catL_next fK _ hq, ← ES3.out, show (⟨#[32]⟩ : ByteArray) = bsL [32] from rfl, show (⟨#[58]⟩ : ByteArray) = bsL [58] from rfl, ← bsL_of q.1, bsL_app, bsL_app, bsL_app, bsL_app]
                      simp [fK])
                    obtain ⟨nm, to⟩ := q
                    simp only at l0 l1 q2 q1 DQ NX3
                    have m1 : ¬ 9223372036854775807 < S3.size + 1 := by omega
                    have m2 : ¬ 9223372036854775807 < S3.size + 1 + nm.size := by omega
                    have m3 : ¬ 9223372036854775807 < S3.size + 1 + nm.size + 1 := by omega
                    have m4 : ¬ 9223372036854775807 < S3.size + 1 + nm.size + 1 + (bsL (digits to)).size := by rw [bsL_size]; omega
                    have S5 := Lib.hid (show wr.drew.cell? ⟨Xb, 3, none⟩ = some (.slice (some ⟨lg, 0, none⟩) x.links.length kc) ∧ wr.drew.cell? ⟨lg, i * 2, none⟩ = some (.string nm) ∧ wr.drew.cell? ⟨lg, i * 2 + 1, none⟩ = some (.int .i64 (to : Int)) from ⟨x3, l0, l1⟩)
                    clear hq
                    go_wp2_with fail
                    refine region_plain (fun v => v.cell? ⟨Xb, 3, none⟩ = some (.slice (some ⟨lg, 0, none⟩) x.links.length kc) ∧ v.cell? ⟨lg, i * 2, none⟩ = some (.string nm) ∧ v.cell? ⟨lg, i * 2 + 1, none⟩ = some (.int .i64 (to : Int))) hmx ?_
                    refine wpAnyH_take (i := 0) (v := ?_) rfl (by kernel_rfl) (by kernel_rfl) (by kernel_rfl) (fun _ _ _ h => h) (.inl ⟨by kernel_rfl, fun v hS => ?_⟩) S5.out ?_
                    rotate_left
                    · obtain ⟨h0, h1, h2⟩ := hS
                      go_simp
                      with_reducible rfl
                    refine wpAnyH_take (i := 1) (v := ?_) rfl (by kernel_rfl) (by kernel_rfl) (by kernel_rfl) (fun _ _ _ h => h) (.inl ⟨by kernel_rfl, fun v hS => ?_⟩) S5.out ?_
                    rotate_left
                    · obtain ⟨h0, h1, h2⟩ := hS
                      go_simp
                      with_reducible rfl
                    refine wpAnyH_take (i := 2) (v := ?_) rfl (by kernel_rfl) (by kernel_rfl) (by kernel_rfl) (fun _ _ _ h => h) (.inl ⟨by kernel_rfl, fun v hS => ?_⟩) S5.out ?_
                    rotate_left
                    · obtain ⟨h0, h1, h2⟩ := hS
                      go_simp
                      with_reducible rfl
                    refine wpAnyH_take (i := 3) (v := ?_) rfl (by kernel_rfl) (by kernel_rfl) (by kernel_rfl) (fun _ _ _ h => h) (.inl ⟨by kernel_rfl, fun v hS => ?_⟩) S5.out ?_
                    rotate_left
                    · obtain ⟨h0, h1, h2⟩ := hS
                      go_simp
                      with_reducible rfl
                    refine wpAnyH_take (i := 4) (v := ?_) rfl (by kernel_rfl) (by kernel_rfl) (by kernel_rfl) (fun _ _ _ h => h) (.inl ⟨by kernel_rfl, fun v hS => ?_⟩) S5.out ?_
                    rotate_left
                    · obtain ⟨h0, h1, h2⟩ := hS
                      go_simp
                      with_reducible rfl
                    refine wpAnyH_take (i := 5) (v := ?_) rfl (by kernel_rfl) (by kernel_rfl) (by kernel_rfl) (fun _ _ _ h => h) (.inl ⟨by kernel_rfl, fun v hS => ?_⟩) S5.out ?_
                    rotate_left
                    · obtain ⟨h0, h1, h2⟩ := hS
                      go_simp
                      with_reducible rfl
                    refine wpAnyH_take (i := 6) (v := ?_) rfl (by kernel_rfl) (by kernel_rfl) (by kernel_rfl) (fun _ _ _ h => h) (.inl ⟨by kernel_rfl, fun v hS => ?_⟩) S5.out ?_
                    rotate_left
                    · obtain ⟨h0, h1, h2⟩ := hS
                      go_simp
                      with_reducible rfl
                    refine wpAnyH_take (i := 7) (v := ?_) rfl (by kernel_rfl) (by kernel_rfl) (by kernel_rfl) (fun _ _ _ h => h) (.inl ⟨by kernel_rfl, fun v hS => ?_⟩) S5.out ?_
                    rotate_left
                    · obtain ⟨h0, h1, h2⟩ := hS
                      go_simp
                      with_reducible rfl
                    refine wpAnyH_take (i := 8) (v := ?_) rfl (by kernel_rfl) (by kernel_rfl) (by kernel_rfl) (fun _ _ _ h => h) (.inl ⟨by kernel_rfl, fun v hS => ?_⟩) S5.out ?_
                    rotate_left
                    · obtain ⟨h0, h1, h2⟩ := hS
                      go_simp
                      with_reducible rfl
                    refine wpAnyH_take (i := 9) (v := ?_) rfl (by kernel_rfl) (by kernel_rfl) (by kernel_rfl) (fun _ _ _ h => h) (.inl ⟨by kernel_rfl, fun v hS => ?_⟩) S5.out ?_
                    rotate_left
                    · obtain ⟨h0, h1, h2⟩ := hS
                      go_simp
                      with_reducible rfl
                    refine wpAnyH_take (i := 10) (v := ?_) rfl (by kernel_rfl) (by kernel_rfl) (by kernel_rfl) (fun _ _ _ h => h) (.inl ⟨by kernel_rfl, fun v hS => ?_⟩) S5.out ?_
                    rotate_left
                    · obtain ⟨h0, h1, h2⟩ := hS
                      go_simp
                      with_reducible rfl
                    refine wpAnyH_take (i := 11) (v := ?_) rfl (by kernel_rfl) (by kernel_rfl) (by kernel_rfl) (fun _ _ _ h => h) (.inl ⟨by kernel_rfl, fun v hS => ?_⟩) S5.out ?_
                    rotate_left
                    · obtain ⟨h0, h1, h2⟩ := hS
                      go_simp
                      with_reducible rfl
                    refine wpAnyH_take (i := 12) (v := ?_) rfl (by kernel_rfl) (by kernel_rfl) (by kernel_rfl) (fun _ _ _ h => h) (.inl ⟨by kernel_rfl, fun v hS => ?_⟩) S5.out ?_
                    rotate_left
                    · obtain ⟨h0, h1, h2⟩ := hS
                      go_simp
                      with_reducible rfl
                    refine wpAnyH_take (i := 13) (v := ?_) rfl (by kernel_rfl) (by kernel_rfl) (by kernel_rfl) (fun _ _ _ h => h) (.inl ⟨by kernel_rfl, fun v hS => ?_⟩) S5.out ?_
                    rotate_left
                    · obtain ⟨h0, h1, h2⟩ := hS
                      go_simp
                      with_reducible rfl
                    refine wpAnyH_take (i := 14) (v := ?_) rfl (by kernel_rfl) (by kernel_rfl) (by kernel_rfl) (fun _ _ _ h => h) (.inl ⟨by kernel_rfl, fun v hS => ?_⟩) S5.out ?_
                    rotate_left
                    · obtain ⟨h0, h1, h2⟩ := hS
                      go_simp
                      with_reducible rfl
                    refine wpAnyH_take (i := 15) (v := ?_) rfl (by kernel_rfl) (by kernel_rfl) (by kernel_rfl) (fun _ _ _ h => h) (.inl ⟨by kernel_rfl, fun v hS => ?_⟩) S5.out ?_
                    rotate_left
                    · obtain ⟨h0, h1, h2⟩ := hS
                      go_simp
                      with_reducible rfl
                    refine one_ready 16 rfl (by kernel_rfl) (by kernel_rfl) ?_
                    go_simp
                    refine (ref_decimal to (by omega) _).mono ?_
                    rintro e w' ⟨rfl, k4, rfl⟩
                    refine ⟨S5.out, ?_⟩
                    clear x3 l0 l1
                    refine one_ready 17 rfl (by kernel_rfl) (by kernel_rfl) ?_
                    go_simp
                    refine ⟨S5.out, ?_⟩
                    refine one_ready 18 rfl (by kernel_rfl) (by kernel_rfl) ?_
                    go_simp
                    refine ⟨S5.out, rfl, ?_⟩
                    have B5 := Lib.hid (below_drawn hb4.out (1 + k4))
                    have K5 := Lib.hid (show Bk (wr.drewN (1 + k4)) Xb #[.int .i64 x.cls, .int .i64 (aliV x), .slice (some (hd k).nA) x.names.length (hd k).nc, .slice (some ⟨lg, 0, none⟩) x.links.length kc] 73 from hk4.out)
                    go_wp2_with fail
                    go_roundw
                    case rel => exact ⟨i + 1, by omega, by go_num, Lib.hid (by rw [← NX3.out]), B5, K5⟩
                    case measure => simp [intOf]; omega
                  · obtain rfl : i = x.links.length := by omega
                    have hnl2 : ¬ (x.links.length : Int) < x.links.length := by omega
                    have m1 : ¬ 9223372036854775807 < S3.size + 1 := by omega
                    have FIN := Lib.hid (show S3 ++ ⟨#[10]⟩ = bsL (T2 t (k + 1)) by
                      rw [← ES3.out, catL_all, show (⟨#[10]⟩ : ByteArray) = bsL [10] from rfl, bsL_app, NX.out, textSh_none ha, ← BS3.out, ← BS.out]
                      simp)
                    go_wp2_with fail
                    go_roundw
                    case rel => exact ⟨k + 1, by omega, by go_num, Lib.hid (by rw [← FIN.out]), hb4⟩
                    case measure => simp [intOf]; omega
        · obtain rfl : N = k := by omega
          have FIN := Lib.hid (show bsL (T2 t N) = ⟨t.text.toArray⟩ by rw [← hN, T2_all]; rfl)
          rw [ES.out] at FIN
          go_wp2_with fail
          go_ret
          exact ⟨by rw [FIN.out]; rfl, hb2.out⟩
end Go.Proofs.YtnapfhnmccpffaaDoor.Sh
