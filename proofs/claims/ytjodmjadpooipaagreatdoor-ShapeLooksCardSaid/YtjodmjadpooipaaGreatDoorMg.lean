/-
  Text of a tree.
  Text of a tree: the walk.
  What package shape does, of the landed code: the kit of all walks.
  From the row's list of package-level variables to what the kit asks of them.
-/
import Derived.Test.YtjodmjadpooipaaGreatDoorMd
import Derived.Test.YtjodmjadpooipaaGreatDoorMa
import Derived.Test.YtjodmjadpooipaaGreatDoorKi
import Derived.Test.YtjodmjadpooipaaGreatDoorRows
import Derived.ProofKit
import Derived.OpenShut
import Derived.Lib.LaidTab
import Derived.Lib.LaidU8
import Derived.LaidLaws
import Derived.MakeChecks
namespace Go.Proofs.YtjodmjadpooipaaGreatDoor.Sh
open Go Go.RowKit Go.Shelf

theorem lens_le (xs : List (List UInt8)) (b : Nat) (h : ∀ x ∈ xs, x.length ≤ b) : Lib.lens xs ≤ b * xs.length := by
  unfold Lib.lens
  induction xs with
  | nil => simp
  | cons x l ih =>
    have h1 := h x (by simp)
    have h2 := ih (fun y hy => h y (by simp [hy]))
    simp only [List.map_cons, List.sum_cons, List.length_cons, Nat.mul_add, Nat.mul_one]
    omega
theorem join_small (r : List ByteArray) (h : ∀ x ∈ r, x.size ≤ 23) : (joinW r).length ≤ 24 * r.length := by
  unfold joinW
  cases r with
  | nil => simp [Lib.join_nil]
  | cons x l =>
    rw [List.map_cons, Lib.join_length]
    have h1 := lens_le ((x :: l).map (·.data.toList)) 23 (fun y hy => by
      obtain ⟨z, hz, rfl⟩ := List.mem_map.1 hy
      have := h z hz
      rw [Array.length_toList]
      exact this)
    rw [List.map_cons] at h1
    simp only [List.length_cons, List.length_nil, List.length_map] at h1 ⊢
    omega
section
variable {t : Tre} {m : Nat} (hw : t.WF m) (hsz : ∀ s, ∀ x ∈ (t.sh s).names, x.size ≤ 1)
include hw hsz
theorem row_small {s : Nat} (hs : s < t.L.length) : ∀ x ∈ rowP t (trs t t.L.length) s, x.size ≤ 23 := by
  have few := hw.few
  intro x hx
  unfold rowP row0 at hx
  rw [trs_filter] at hx
  simp only [List.mem_append, List.mem_cons, List.not_mem_nil, or_false] at hx
  rcases hx with (((rfl | rfl) | hx) | hx) | hx
  · have := numB_size s (by omega); omega
  · have h1 := hw.cl s hs
    have h2 := m_few hw
    have := numB_size (t.sh s).cls (by omega); omega
  · have := hsz s x hx; omega
  · unfold tailW at hx
    split at hx
    · rename_i a ha
      simp only [List.mem_cons, List.not_mem_nil, or_false] at hx
      rcases hx with rfl | rfl
      · show 1 ≤ 23; omega
      · have h1 := (hw.al s a ha).1
        have := numB_size a (by omega); omega
    · simp only [List.mem_cons, List.not_mem_nil, or_false] at hx
      subst hx
      show 1 ≤ 23; omega
  · split at hx
    · obtain ⟨y, hy, rfl⟩ := List.mem_map.1 hx
      obtain ⟨q, hq, rfl⟩ := List.mem_map.1 hy
      have h1 := hw.li s q hq
      have h2 := hsz q.2 q.1 (by rw [h1.2.2]; simp)
      have h3 := numB_size q.2 (by omega)
      have e : (linkS (q.1, q.2)).size = q.1.size + 1 + (numB q.2).size := by
        unfold linkS
        rw [ByteArray.size_append, ByteArray.size_append]
        rfl
      show (linkS (q.1, q.2)).size ≤ 23
      omega
    · simp at hx
omit hsz in
theorem roots_small : ∀ x ∈ rootsW t, x.size ≤ 23 := by
  have few := hw.few
  intro x hx
  unfold rootsW at hx
  rw [List.mem_cons] at hx
  rcases hx with rfl | hx
  · show 5 ≤ 23; omega
  · obtain ⟨r, hr, rfl⟩ := List.mem_map.1 hx
    obtain ⟨k, hk, rfl⟩ := List.getElem_of_mem hr
    have h1 := (hw.ro k (by rw [← hw.rl]; exact hk)).1
    rw [List.getD_eq_getElem?_getD, List.getElem?_eq_getElem hk, Option.getD_some] at h1
    have := numB_size t.roots[k] (by omega)
    omega
end
def TB (t : Tre) (k : Nat) : List UInt8 := (((rootsW t :: rowsT t).take k).map fun r => joinW r ++ [10]).flatten
theorem TB_next (t : Tre) {k : Nat} {r : List ByteArray} (h : (rootsW t :: rowsT t)[k]? = some r) : TB t (k + 1) = TB t k ++ (joinW r ++ [10]) := by
  have hk := (List.getElem?_eq_some_iff.1 h).1
  unfold TB
  rw [List.take_succ_eq_append_getElem hk, List.map_append, List.flatten_append]
  congr 1
  rw [List.getElem?_eq_getElem hk] at h
  injection h with h
  rw [h]
  simp
theorem TB_all (t : Tre) : TB t (t.L.length + 1) = t.text := by
  unfold TB
  rw [List.take_of_length_le (by simp [rowsT, rowsP_len]), text_all]
theorem bytes_next (t : Tre) {k : Nat} {r : List ByteArray} (h : (rootsW t :: rowsT t)[k]? = some r) : Lib.byteCells (TB t k) ++ Lib.strCells ⟨(joinW r).toArray⟩ ++ [.int .u8 10] = Lib.byteCells (TB t (k + 1)) := by
  rw [TB_next t h, Lib.strCells_eq]
  simp [Lib.byteCells]
/-- A row of words stands in a cell. -/
def LineAt (V : World) (g D k : Nat) (r : List ByteArray) : Prop := ∃ gk ck, V.cell? ⟨g, k, none⟩ = some (.slice (some ⟨gk, 0, none⟩) r.length ck) ∧ OwnS V 0 (.slice (some ⟨gk, 0, none⟩) r.length ck) r ∧ gk ≠ D
theorem rows_small {t : Tre} {m : Nat} (hw : t.WF m) (hsz : ∀ s, ∀ x ∈ (t.sh s).names, x.size ≤ 1) (h64 : ∀ s, (t.sh s).names.length ≤ 200) (hs : Srt t) : ∀ r ∈ rootsW t :: rowsT t, r.length ≤ 65536 ∧ (joinW r).length ≤ 2000000 := by
  have few := hw.few
  intro r hr
  rw [List.mem_cons] at hr
  rcases hr with rfl | hr
  · have h1 := join_small _ (roots_small hw)
    have h2 : (rootsW t).length = m + 1 := by unfold rootsW; rw [List.length_cons, List.length_map, hw.rl]
    have h3 := m_few hw
    omega
  · unfold rowsT rowsP at hr
    obtain ⟨s, hs', rfl⟩ := List.mem_map.1 hr
    have sl := List.mem_range.1 hs'
    have h1 := join_small _ (row_small hw hsz sl)
    have h2 := trs_len (fun s => Nat.le_trans (hs.lim s) few) t.L.length
    have h3 := rowP_len (t := t) (s := s) (pre := trs t t.L.length) (n := 40000) (h64 s) (by omega)
    omega
theorem TB_len {t : Tre} {b : Nat} (h : ∀ r ∈ rootsW t :: rowsT t, (joinW r).length ≤ b) (k : Nat) : (TB t k).length ≤ k * (b + 1) := by
  unfold TB
  induction k with
  | zero => simp
  | succ k ih =>
    by_cases hk : k < (rootsW t :: rowsT t).length
    · rw [List.take_succ_eq_append_getElem hk, List.map_append, List.flatten_append, List.length_append]
      have h1 := h _ (List.getElem_mem hk)
      simp only [List.map_cons, List.map_nil, List.flatten_cons, List.flatten_nil, List.append_nil, List.length_append, List.length_cons, List.length_nil]
      rw [Nat.add_mul]
      omega
    · rw [List.take_of_length_le (by omega)] at ih ⊢
      rw [Nat.add_mul]
      omega
def rtW (t : Tre) (k : Nat) : List ByteArray := bsL [114, 111, 111, 116, 115] :: (t.roots.take k).map numB
theorem rtW_next (t : Tre) {k : Nat} (h : k < t.roots.length) : rtW t (k + 1) = rtW t k ++ [numB (t.roots.getD k 0)] := by
  unfold rtW
  rw [List.take_succ_eq_append_getElem h, List.map_append, List.getD_eq_getElem?_getD, List.getElem?_eq_getElem h]
  rfl
theorem rtW_all (t : Tre) : rtW t t.roots.length = rootsW t := by unfold rtW rootsW; rw [List.take_length]
theorem rtW_len (t : Tre) {k : Nat} (h : k ≤ t.roots.length) : (rtW t k).length = k + 1 := by simp [rtW]; omega
theorem lines_at {t : Tre} {V0 V2 V3 V4 : World} {X D E N g3 c3 g5 c5 G C : Nat} {gs cs : Nat → Nat} (hD : V0.heap.size = D) (hE : E = D + 1) (z2 : V2.heap.size = D + 2) (hN : (rowsT t).length = N) (o0 : OwnS V0 X (.slice (some ⟨g3, 0, none⟩) (rootsW t).length c3) (rootsW t)) (b02 : Below D V0 V2) (b23 : Below V2.heap.size V2 V3)
    (rr : RowsAt V3 (V2.heap.size + 1) (.slice (some ⟨G, 0, none⟩) N C) (rowsT t) gs cs) (g34 : V3.grownBy V4 (some E)) (o4 : V4.ownsRow X 41 1 (.slice (some ⟨g5, 0, none⟩) (1 + N) c5) (1 + N) ([.slice (some ⟨g3, 0, none⟩) (rootsW t).length c3] ++ (List.range (rowsT t).length).map (rowV (rowsT t) gs cs))) :
    ∀ k r, (rootsW t :: rowsT t)[k]? = some r → LineAt V4 g5 D k r := by
  have z3 := b23.size
  intro k r hr
  rcases k with _ | s
  · simp only [List.getElem?_cons_zero, Option.some.injEq] at hr
    subst hr
    have hg := o0.lt g3 rfl
    refine ⟨g3, c3, ?_, (own_keep (OwnS.mono o0 (Nat.zero_le X)) fun b hb => ?_), by omega⟩
    · rw [World.ownsRow.cellAt o4 0 (by omega)]; rfl
    · have hb2 : g3 = b := by injection hb
      subst hb2
      exact (g34.block g3 (by omega) (fun e => by injection e with e; omega)).trans ((b23.block g3 (by omega)).trans (b02.block g3 (by omega)))
  · rw [List.getElem?_cons_succ] at hr
    have sl := (List.getElem?_eq_some_iff.1 hr).1
    have er : (rowsT t).getD s [] = r := by rw [List.getD_eq_getElem?_getD, hr]; rfl
    have ho := rr.own s sl
    have hb0 := rr.blk sl
    unfold rowV at ho
    rw [er] at ho
    refine ⟨gs s, cs s, ?_, (own_keep (OwnS.mono ho (Nat.zero_le _)) fun b hb => ?_), by omega⟩
    · rw [World.ownsRow.cellAt o4 (s + 1) (by omega)]
      rw [List.singleton_append, List.getElem?_cons_succ, List.getElem?_map, List.getElem?_range sl]
      unfold rowV
      rw [Option.map_some, er]
    · have hb2 : gs s = b := by injection hb
      subst hb2
      exact g34.block _ hb0.2 (fun e => by injection e with e; omega)
/-- Behind the writing of some rows the rows are as they were. -/
theorem LineAt.keep {V W : World} {g D k : Nat} {r : List ByteArray} {cur : Array Value} (h : LineAt V g D k r) (hg : V.heap[g]? = some (.cells cur 41 (0, 0))) (hne : g ≠ D) (ho : Oth D V W) (hz : V.heap.size ≤ W.heap.size) :
    ∃ gk ck, W.cell? ⟨g, k, none⟩ = some (.slice (some ⟨gk, 0, none⟩) r.length ck) ∧ (∀ (j : Nat) x, r[j]? = some x → W.cell? ⟨gk, 0 + j, none⟩ = some (.string x)) ∧ gk < W.heap.size ∧ r.length ≤ ck := by
  obtain ⟨gk, ck, h1, h2, h3⟩ := h
  have k1 : W.heap[g]? = V.heap[g]? := (ho g _ hg (fun e => hne (by injection e)) (fun c fz e => by injection e with _ e; exact absurd e (by decide))).trans hg.symm
  obtain ⟨c2, hc2⟩ := own_cells h2 (b := gk) rfl
  have k2 : W.heap[gk]? = V.heap[gk]? := (ho gk _ hc2 (fun e => h3 (by injection e)) (fun c fz e => by injection e with _ e; exact absurd e (by decide))).trans hc2.symm
  refine ⟨gk, ck, (World.cell?_of_block k1).trans h1, fun j x hx => ?_, ?_, OwnS.cap h2⟩
  · rw [Nat.zero_add]
    have e := World.ownsRow.cellAt h2 j (by have := (List.getElem?_eq_some_iff.1 hx).1; omega)
    rw [List.getElem?_map, hx] at e
    exact (World.cell?_of_block k2).trans e
  · have := (h2.lt gk rfl).2; omega
theorem run_onemap (m : Nat) (w : World) : (binOp .eql 68 (.map (some m)) (.map none)).run Tryz.prog w = .ok (.bool false) w := by kernel_rfl
end Go.Proofs.YtjodmjadpooipaaGreatDoor.Sh
namespace Go.Proofs.YtjodmjadpooipaaGreatDoor.Sh
open Go Go.RowKit Go.Shelf

theorem isB_below {B b : Nat} {bs : List Value} {w w' : World} (h : IsB B b bs w) (hb : Below w.heap.size w w') : IsB B b bs w' := by
  have key : ∀ p, Lib.BuilderAtF 86 5 B b p bs w → Lib.BuilderAtF 86 5 B b p bs w' := fun p h => by
    obtain ⟨h1, v, h2, h3, h4⟩ := h
    refine ⟨h1, v, (hb.block b (Array.getElem?_eq_some_iff.1 h2).1).trans h2, ⟨h3.1, ?_⟩, h4⟩
    rcases h3.2 with h | ⟨g, cap, cur, fz, hv, hg, hh, rest⟩
    · exact .inl h
    · exact .inr ⟨g, cap, cur, fz, hv, hg, (hb.block g (Array.getElem?_eq_some_iff.1 hh).1).trans hh, rest⟩
  exact h.elim (fun h => .inl (key _ h)) (fun h => .inr (key _ h))
set_option maxRecDepth 100000 in
set_option maxHeartbeats 8000000 in
theorem code_text (w : World) (p : Nat) (t : Tre) (F : Nat → Prop) (m : Nat) (h : CodeH w p t F) (hw : t.WF m) (hG : Pw w) (hN : 0 < t.L.length) (h64 : ∀ s, (t.sh s).names.length ≤ 200) (hsz : ∀ s, ∀ x ∈ (t.sh s).names, x.size ≤ 1) :
    Calls Tryz.prog 28 #[.pointer (some ⟨p, 0, none⟩)] w fun e w' => e = .returned (.string ⟨t.text.toArray⟩) ∧ Below w.heap.size w w' := by
  have few := hw.few
  have W := Lib.hid hw
  have H64 := Lib.hid h64
  have HSZ := Lib.hid hsz
  have HG := Lib.hid hG
  have HH := Lib.hid h
  have HN := Lib.hid hN
  obtain ⟨X, hX⟩ : ∃ X, w.heap.size = X := ⟨_, rfl⟩
  obtain ⟨hsrt, vL, vR, mb, D0, hd, h⟩ := h
  have SRT := Lib.hid hsrt
  have HA := Lib.hid h
  have c1 := h.c1
  have c2 := h.c2
  obtain ⟨A, cR, rfl, hroot⟩ := h.rootV
  obtain ⟨n, hn⟩ : ∃ n, t.roots.length = n := ⟨_, rfl⟩
  have HR := Lib.hid hroot
  rw [hn] at c1
  have n200 : n ≤ 200 := by have h1 := m_few hw; have h2 := hw.rl; omega
  have pl : p < X := by rw [← hX]; exact h.lt p h.fp
  obtain ⟨W0, hW0⟩ : ∃ W0, w.alloc (.cells #[.string (bsL [114, 111, 111, 116, 115])] 9) = W0 := ⟨_, rfl⟩
  have B0 := Lib.hid (show Below X w W0 by rw [← hW0, ← hX]; exact (Below.refl _ w).alloc (Nat.le_refl _) _)
  have O0 := Lib.hid (show OwnS W0 X (.slice (some ⟨X, 0, none⟩) 1 1) [bsL [114, 111, 111, 116, 115]] by rw [← hW0, ← hX]; exact World.ownsRow_lit w #[.string (bsL [114, 111, 111, 116, 115])] 1 (Nat.le_refl _) (by unfold maxLen; omega) rfl)
  have d1 : W0.cell? ⟨p, 1, none⟩ = some (.slice A n cR) := (B0.out.cell (p := ⟨p, 1, none⟩) pl).trans c1
  have hom := run_onemap mb
  obtain ⟨i0, hi0, hz0, hz1, hz2⟩ := info_parts infoS
  obtain ⟨j0, hj0, hy0, hy1, hy2⟩ := info_parts infoSS
  have eLit : bsL [114, 111, 111, 116, 115] = ⟨#[114, 111, 111, 116, 115]⟩ := rfl
  rw [eLit] at hW0
  clear hw h64 hsz hG h hsrt hroot hN c1 eLit
  go_enter Tryz.func28, Tryz.ntmps28
  go_wp2_with fail
  go_loopw [3, 24] (fun v i wr => ∃ k : Nat, k ≤ n ∧ i = .int .i64 k ∧ Hid (OwnS wr X v (rtW t k)) ∧ Hid (Below X w wr)) (fun _ i _ => n - (intOf i).toNat)
  case atStart => exact ⟨0, by omega, rfl, O0, B0⟩
  case round =>
    obtain ⟨k, hk, rfl, ho, hb⟩ := hrel
    obtain ⟨RK, hRK⟩ : ∃ RK, rtW t k = RK := ⟨_, rfl⟩
    have RL := Lib.hid (show RK.length = k + 1 by rw [← hRK]; exact rtW_len t (by omega))
    obtain ⟨g3, c3, e3, _, _⟩ := ho.out.form' (by rw [hRK, RL.out]; omega)
    subst e3
    rw [hRK] at ho ⊢
    by_cases hlt : k < n
    · have hki : (k : Int) < n := by omega
      obtain ⟨gr, rfl, _, gF, rc, rfz⟩ := HR.out k (by omega)
      obtain ⟨q, hq⟩ : ∃ q, t.roots.getD k 0 = q := ⟨_, rfl⟩
      rw [hq] at rc
      have q200 : q ≤ 200 := by have h1 := (W.out.ro k (by have := W.out.rl; omega)).1; omega
      have gl : gr < X := by rw [← hX]; exact HA.out.lt gr gF
      have rc : wr.cell? ⟨gr, k, none⟩ = some (.int .i64 (q : Int)) := (hb.out.cell (p := ⟨gr, k, none⟩) gl).trans rc
      have NX := Lib.hid (show rtW t (k + 1) = RK ++ [numB q] by rw [rtW_next t (by omega), hRK, hq])
      have zb := hb.out.size
      clear rfz hRK
      go_wp2_with fail
      refine (itoa_c q (by omega) wr (HG.out.below (hX ▸ hb.out))).mono ?_
      rintro e w1 ⟨rfl, b1⟩
      have B1 := Lib.hid (hb.out.trans (b1.mono (by omega)))
      have O1 := Lib.hid (OwnS.below ho.out b1 (Nat.le_refl _))
      have z1 := b1.size
      clear b1
      go_wp2_with (at_builtin; refine wpList_append_lies _ rfl _ _ 41 rfl X 9 i0 (.string ⟨#[]⟩) 1 16 Tryz.underlying41 hi0 hz0 hz1 hz2 rfl (by decide) (.slice (some ⟨g3, 0, none⟩) RK.length c3) RK.length _ rfl (World.ownsRow.alloc O1.out _) ⟨w1.heap.size, 0, none⟩ 1 1 [.string (numB q)] rfl rfl (World.news_of_block (cs := #[.string (numB q)]) (t := 9) (fr := (0, 0)) (heap_alloc_new w1 _)) (by simp [Value.oneCell']) (by omega) (by have := RL.out; unfold maxLen; omega) (by have := RL.out; omega) (by simp; omega) (w1.heap.size + 1) (by simp) ?_)
      intro g4 c4 w4 o4 g14 h4 h4l
      have FO := Lib.hid (show OwnS w4 X (.slice (some ⟨g4, 0, none⟩) (RK.length + 1) c4) (rtW t (k + 1)) by
        rw [NX.out]
        unfold OwnS
        rw [List.length_append, List.map_append]
        exact o4)
      have FB := Lib.hid (show Below X w w4 from ((B1.out.alloc (by omega) _).grown g14 (by simp; omega) (fun j e => (O1.out.lt j e).1)))
      clear o4 g14 h4 h4l
      go_wp2_with fail
      go_roundw
      case rel => exact ⟨k + 1, by omega, by go_num, FO, FB⟩
      case measure => simp [intOf]; omega
    · obtain rfl : n = k := by omega
      have RA := Lib.hid (show RK = rootsW t by rw [← hRK, ← hn, rtW_all])
      have NR := Lib.hid (show (rowsT t).length = t.L.length by unfold rowsT; rw [rowsP_len])
      obtain ⟨N, hNe⟩ : ∃ N, t.L.length = N := ⟨_, rfl⟩
      have NR := Lib.hid (NR.out.trans hNe)
      have N200 : N ≤ 200 := by omega
      have N0 : 0 < N := by have := HN.out; omega
      obtain ⟨Db, hDb⟩ : ∃ Db, wr.heap.size = Db := ⟨_, rfl⟩
      obtain ⟨V1, hV1⟩ : ∃ V1, wr.alloc (.cells #[.pointer none, .slice none 0 0] 86) = V1 := ⟨_, rfl⟩
      obtain ⟨V2, hV2⟩ : ∃ V2, V1.alloc (.cells #[.slice (some ⟨g3, 0, none⟩) RK.length c3] 41) = V2 := ⟨_, rfl⟩
      have z1 : V1.heap.size = Db + 1 := by rw [← hV1, World.size_alloc, hDb]
      have z2 : V2.heap.size = Db + 2 := by rw [← hV2, World.size_alloc, z1]
      have zX := hb.out.size
      have b01 : Below Db wr V1 := by rw [← hV1, ← hDb]; exact (Below.refl _ wr).alloc (Nat.le_refl _) _
      have b02 := Lib.hid (show Below Db wr V2 by rw [← hV2]; exact b01.alloc (by omega) _)
      have K2 := Lib.hid (show Bk V2 Db #[.pointer none, .slice none 0 0] 86 by rw [← hV2, ← hV1, ← hDb]; exact (Bk.new wr _ _).alloc _)
      have E2 := Lib.hid (show V2.ownsRow X 41 1 (.slice (some ⟨Db + 1, 0, none⟩) 1 1) 1 [.slice (some ⟨g3, 0, none⟩) RK.length c3] by rw [← hV2, ← z1]; exact World.ownsRow_lit V1 #[.slice (some ⟨g3, 0, none⟩) RK.length c3] 1 (by omega) (by unfold maxLen; omega) rfl)
      have HB2 := Lib.hid (show Below X w V2 from hb.out.trans (b02.out.mono (by omega)))
      have O0' := Lib.hid ho.out
      have C := Lib.hid (code_lines V2 p t F m (HH.out.below (hX ▸ HB2.out)) W.out (HG.out.below (hX ▸ HB2.out)) HN.out H64.out HSZ.out)
      clear ho b01 hRK c2 hom
      go_wp2_with fail
      refine C.out.mono ?_
      rintro e V3 ⟨v, gs, cs, rfl, rr, b23⟩
      obtain ⟨G, Cc, rfl, _, _, _, gl3⟩ := rr.at (s := 0) (by rw [NR.out]; exact N0)
      rw [NR.out] at rr ⊢
      have RR := Lib.hid rr
      have B23 := Lib.hid b23
      have z3 := b23.size
      have E3 := Lib.hid (own_keep E2.out fun b hb => b23.block b (E2.out.lt b hb).2)
      clear rr b23 C
      go_wp2_with (at_builtin; refine wpList_append_lies _ rfl _ _ 87 rfl X 41 j0 (.slice none 0 0) 1 24 Tryz.underlying87 hj0 hy0 hy1 hy2 rfl (by decide) (.slice (some ⟨Db + 1, 0, none⟩) 1 1) 1 _ rfl E3.out ⟨G, 0, none⟩ N Cc ((List.range (rowsT t).length).map (rowV (rowsT t) gs cs)) rfl (by rw [List.length_map, List.length_range, NR.out, Nat.mul_one]) (fun j u hj => World.ownsRow.cells RR.out.row (g := G) rfl j u hj) (fun u hu => by obtain ⟨s, _, rfl⟩ := List.mem_map.1 hu; rfl) (by omega) (by unfold maxLen; omega) (by omega) (by omega) V3.heap.size rfl ?_)
      intro g5 c5 V4 o5 g34 h5 h5l
      have RSM := Lib.hid (rows_small W.out HSZ.out H64.out SRT.out)
      have LA := Lib.hid (lines_at hDb rfl z2 NR.out (RA.out ▸ O0'.out) b02.out B23.out RR.out g34 (RA.out ▸ o5))
      have K4 := Lib.hid (show Bk V4 Db #[.pointer none, .slice none 0 0] 86 from (g34.block Db (by omega) (fun e => by injection e with e; have e : Db + 1 = Db := e.symm; omega)).trans ((B23.out.block Db (by omega)).trans K2.out))
      obtain ⟨cur5, hc5⟩ := own_cells o5 (b := g5) rfl
      have C5 := Lib.hid hc5
      have g5D : g5 ≠ Db := fun e => bk_ne o5 K4.out (by decide) (by rw [e]; rfl)
      have z4 := g34.size
      have HB4 := Lib.hid (show Below X w V4 from (HB2.out.trans (B23.out.mono (by omega))).grown g34 (by omega) (fun j e => by injection e with e; have e : Db + 1 = j := e; omega))
      have RRL := Lib.hid (show (rootsW t :: rowsT t).length = N + 1 by rw [List.length_cons, NR.out])
      have IB0 := Lib.hid (show IsB Db Db (Lib.byteCells (TB t 0)) V4 from Lib.IsBuilderF.of (.inl ⟨Nat.le_refl _, .slice none 0 0, K4.out, World.ownsRow_nil _ _ _ _, by simp [Value.ownBlock]⟩))
      clear o5 g34 h5 h5l hc5
      go_wp2_with fail
      go_loopw [40] (fun i wr => ∃ k : Nat, k ≤ N + 1 ∧ i = .int .i64 k ∧ Hid (IsB Db Db (Lib.byteCells (TB t k)) wr) ∧ Hid (Below X w wr) ∧ Hid (Oth Db V4 wr) ∧ Hid (V4.heap.size ≤ wr.heap.size)) (fun i _ => N + 1 - (intOf i).toNat)
      case atStart => exact ⟨0, by omega, rfl, IB0, HB4, Lib.hid (Lib.OthersKept.refl _ _ _), Lib.hid (Nat.le_refl _)⟩
      case round =>
        obtain ⟨k, hk, rfl, ib, hb4, ot, zz⟩ := hrel
        by_cases hlt2 : k < N + 1
        · have hki : (k : Int) < 1 + N := by omega
          obtain ⟨r, hr⟩ : ∃ r, (rootsW t :: rowsT t)[k]? = some r := ⟨_, List.getElem?_eq_getElem (by rw [RRL.out]; exact hlt2)⟩
          obtain ⟨rl, jl⟩ := RSM.out r (List.mem_of_getElem? hr)
          obtain ⟨gk, ck, q0, q1, q2, q3⟩ := (LA.out k r hr).keep C5.out g5D ot.out zz.out
          have BN := Lib.hid (bytes_next t hr)
          have TL := Lib.hid (TB_len (fun r hr => (RSM.out r hr).2) k)
          have J := Lib.hid (Tryz.strings_Join gk 0 ck r ⟨#[32]⟩ wr q1 q2 (by omega) q3 (show (joinW r).length ≤ 140737488355328 by omega))
          have zw := zz.out
          clear q1 hr
          go_wp2_with fail
          refine J.out.mono ?_
          rintro e w1 ⟨rfl, b1⟩
          have z1 := b1.size
          have I1 := Lib.hid (show IsB Db Db (Lib.byteCells (TB t k)) w1 from isB_below ib.out b1)
          have B1 := Lib.hid (hb4.out.trans (b1.mono (by omega)))
          have T1 := Lib.hid (show Oth Db V4 w1 from fun i o hi hb ho => by
            have h1 := ot.out i o hi hb ho
            exact (b1.block i (Array.getElem?_eq_some_iff.1 h1).1).trans h1)
          have S := Lib.hid (bws Db Db _ ⟨(joinW r).toArray⟩ w1 I1.out (by
            have h1 := TL.out
            have h2 : (⟨(joinW r).toArray⟩ : ByteArray).size = (joinW r).length := by show (joinW r).toArray.size = _; rw [List.size_toArray]
            rw [Lib.byteCells_length, h2]
            have h3 : k * (2000000 + 1) ≤ 201 * (2000000 + 1) := Nat.mul_le_mul_right _ (by omega)
            omega) (by omega))
          clear b1 J
          go_wp2_with fail
          refine S.out.mono ?_
          rintro e w2 ⟨rfl, i2, b2, o2⟩
          have z2' := b2.size
          have I2 := Lib.hid i2
          have B2 := Lib.hid (B1.out.trans (b2.mono (by omega)))
          have T2 := Lib.hid (show Oth Db V4 w2 from Lib.OthersKept.trans T1.out o2)
          have S3 := Lib.hid (bwb Db Db _ 10 w2 I2.out (by
            have h1 := TL.out
            have h2 : (⟨(joinW r).toArray⟩ : ByteArray).size = (joinW r).length := by show (joinW r).toArray.size = _; rw [List.size_toArray]
            rw [List.length_append, Lib.byteCells_length, Lib.strCells_length, h2]
            have h3 : k * (2000000 + 1) ≤ 201 * (2000000 + 1) := Nat.mul_le_mul_right _ (by omega)
            omega) (by omega))
          clear i2 b2 o2 S
          go_wp2_with fail
          refine S3.out.mono ?_
          rintro e w3 ⟨rfl, i3, b3, o3⟩
          have z3' := b3.size
          rw [BN.out] at i3
          have I3 := Lib.hid i3
          have B3 := Lib.hid (B2.out.trans (b3.mono (by omega)))
          have T3 := Lib.hid (show Oth Db V4 w3 from Lib.OthersKept.trans T2.out o3)
          have Z3 := Lib.hid (show V4.heap.size ≤ w3.heap.size by omega)
          clear i3 b3 o3 S3
          go_wp2_with fail
          go_roundw
          case rel => exact ⟨k + 1, by omega, by go_num, I3, B3, T3, Z3⟩
          case measure => simp [intOf]; omega
        · obtain rfl : k = N + 1 := by omega
          have zw := zz.out
          have S := Lib.hid (bst Db Db (TB t (N + 1)) wr ib.out (by omega))
          have TA := Lib.hid (show TB t (N + 1) = t.text by rw [← hNe]; exact TB_all t)
          go_wp2_with fail
          refine S.out.mono ?_
          rintro e w1 ⟨rfl, b1⟩
          rw [TA.out]
          have B1 := Lib.hid (hb4.out.trans (b1.mono (by omega)))
          clear b1 S
          go_wp2_with fail
          go_ret
          exact ⟨rfl, hX ▸ B1.out⟩
end Go.Proofs.YtjodmjadpooipaaGreatDoor.Sh
namespace Go.Proofs.YtjodmjadpooipaaGreatDoor.Sh
open Go Go.RowKit

/-- Bounds that all calls keep. -/
def Bd (t : Tre) : Prop := (∀ s, (t.sh s).names.length ≤ 64) ∧ ∀ s q, q ∈ (t.sh s).links → q.1.size ≤ maxLen
theorem Bd.n200 {t : Tre} (h : Bd t) (s : Nat) : (t.sh s).names.length ≤ 200 := Nat.le_trans (h.1 s) (by omega)
theorem Bd.nI {t : Tre} (h : Bd t) (s : Int) : (t.namesI s).length ≤ 200 := by
  unfold Tre.namesI
  split
  · exact h.n200 _
  · exact Nat.zero_le _
theorem Bd.new (fl : List (List ByteArray)) (h64 : ∀ ns ∈ fl, ns.length ≤ 64) : Bd (newT fl) := by
  have key : ∀ s, (((newT fl).sh s).names ∈ fl ∨ ((newT fl).sh s).names = []) ∧ ((newT fl).sh s).links = [] := fun s => by
    unfold Tre.sh newT
    rw [List.getD_eq_getElem?_getD, List.getElem?_mapIdx]
    cases h : fl[s]? with
    | none => exact ⟨.inr rfl, rfl⟩
    | some ns => exact ⟨.inl (List.mem_of_getElem? h), rfl⟩
  refine ⟨fun s => (key s).1.elim (h64 _) (fun e => by rw [e]; exact Nat.zero_le _), fun s q hq => ?_⟩
  rw [(key s).2] at hq
  simp at hq
theorem Bd.push {t : Tre} (h : Bd t) (k : Nat) {ns : List ByteArray} (hn : ns.length ≤ 64) : Bd (t.push k ns) := by
  refine ⟨fun s => ?_, fun s q hq => ?_⟩
  · rw [show (t.push k ns).sh s = if s = t.L.length then ⟨k, none, ns, []⟩ else t.sh s from sh_push t _ _ s]
    split
    · exact hn
    · exact h.1 s
  · rw [show (t.push k ns).sh s = if s = t.L.length then ⟨k, none, ns, []⟩ else t.sh s from sh_push t _ _ s] at hq
    split at hq
    · simp at hq
    · exact h.2 s q hq
theorem Bd.grow {t : Tre} (h : Bd t) {c : Nat} {nm : ByteArray} (hc : c < t.L.length) (hn : (t.sh c).names.length < 64) (hm : nm.size ≤ maxLen) : Bd (t.grow c nm) := by
  refine ⟨fun s => ?_, fun s q hq => ?_⟩
  · rw [grow_sh hc]
    split
    · rw [List.length_append]; exact hn
    · split
      · rename_i _ e
        exact h.1 _
      · exact h.1 s
  · rw [grow_sh hc] at hq
    split at hq
    · simp at hq
    · split at hq
      · rcases mem_ins hq with rfl | hq
        · exact hm
        · exact h.2 _ q hq
      · exact h.2 s q hq
theorem Bd.add {t : Tre} {m : Nat} (h : Bd t) (hw : t.WF m) (s : Int) {nm : ByteArray} (hm : nm.size ≤ maxLen) : Bd (t.add s nm).2 := by
  unfold Tre.add
  split
  · exact h
  · split
    · exact h
    · split
      · exact h
      · split
        · exact h
        · rename_i h1 _ _ _ h2
          have ht : t.there s = true := by simpa using h1
          have hc : t.canon s.toNat < t.L.length := canon_lt hw (by have := there_iff.1 ht; omega)
          refine h.grow hc ?_ hm
          have h3 : (t.namesI s).length < 64 := by omega
          unfold Tre.namesI at h3
          rw [if_pos ht] at h3
          rw [canon_names hw]
          exact h3
theorem Bd.merge {t : Tre} {m : Nat} (h : Bd t) (hw : t.WF m) (a b : Int) : Bd (t.merge a b).2 := by
  unfold Tre.merge
  split
  · exact h
  · rename_i h1
    dsimp only
    split
    · exact h
    · have ht : t.there b = true := by
        have h2 : t.alike a b = true := by simpa using h1
        unfold Tre.alike at h2
        simp only [Bool.and_eq_true] at h2
        exact h2.1.1.2
      have hy : t.canon b.toNat < t.L.length := canon_lt hw (by have := there_iff.1 ht; omega)
      have e : ∀ s, ((t.tie (t.canon a.toNat) (t.canon b.toNat)).sh s).names = (t.sh s).names ∧ ((t.tie (t.canon a.toNat) (t.canon b.toNat)).sh s).links = (t.sh s).links := fun s => by
        rw [tie_sh t _ hy]
        split
        · rename_i e; rw [e]; exact ⟨rfl, rfl⟩
        · exact ⟨rfl, rfl⟩
      exact ⟨fun s => by rw [(e s).1]; exact h.1 s, fun s q hq => by rw [(e s).2] at hq; exact h.2 s q hq⟩
theorem Bd.split {t : Tre} (h : Bd t) (a : Int) : Bd (t.split a).2 := by
  unfold Tre.split
  split
  · exact h
  · split
    · exact h
    · refine ⟨fun s => ?_, fun s q hq => ?_⟩
      · dsimp only
        rw [cut_sh]
        split
        · exact h.1 _
        · exact h.1 s
      · dsimp only at hq
        rw [cut_sh] at hq
        split at hq
        · simp at hq
        · obtain ⟨y, hy, rfl⟩ := List.mem_map.1 hq
          exact h.2 s y hy
theorem Bd.make {t : Tre} (h : Bd t) (k : Int) (ns : List ByteArray) : Bd (t.make k ns).2 := by
  unfold Tre.make
  split
  · exact h
  · rename_i h1
    split
    · exact h
    · split
      · exact h
      · split
        · exact h
        · refine h.push _ ?_
          have h2 : okNames ns = true := (Classical.not_not.1 h1).2.2
          exact (of_decide_eq_true h2).1
def CodeB (w : World) (p : Nat) (t : Tre) (F : Nat → Prop) : Prop := CodeH w p t F ∧ Bd t
theorem to_kit {w : World} {p : Nat} {F : Nat → Prop} {t' : Tre} {v : Value} (hb : Bd t') {e : Ending} {w' : World} (h : CodeTo w p F t' v e w') : ∃ F', e = .returned v ∧ CodeB w' p t' F' ∧ Chg F w w' ∧ Sub F F' w := by
  obtain ⟨F', h1, h2, h3, h4⟩ := h
  exact ⟨F', h1, ⟨h2, hb⟩, h3, h4⟩
def theKit : Kit where
  V := Pw
  vkeep := fun h hb => h.below hb
  H := CodeB
  lt := fun h => h.1.lt
  keep := fun h hk => ⟨h.1.keep hk, h.2⟩
  new := fun w A fl c hc h12 h64 => (code_new w A fl c hc h12 h64).mono fun _ _ ⟨p, F, h1, h2, h3, h4⟩ => ⟨p, F, h1, ⟨h2, Bd.new fl h64⟩, h3, h4⟩
  add := fun w p t F m s nm h hw hs hm => (code_add w p t F m s nm h.1 hw h.2.n200 hs hm).mono fun _ _ hh => to_kit (h.2.add hw s hm) hh
  merge := fun w p t F m a b h hw ha hb => (code_merge w p t F m a b h.1 hw h.2.n200 ha hb).mono fun _ _ hh => to_kit (h.2.merge hw a b) hh
  split := fun w p t F m a h hw ha => (code_split w p t F m a h.1 hw h.2.n200 h.2.2 ha).mono fun _ _ hh => to_kit (h.2.split a) hh
  make := fun w p t F m k A ns c h hw hk hs hl _ hc hz => (code_make w p t F m k A ns c h.1 hw h.2.n200 hk (hs.imp fun b hb => hb.1) hl hc hz).mono fun _ _ hh => to_kit (h.2.make k ns) hh
  find := fun w p t F m k A ns c h hw hk hs hl _ => code_find w p t F m k A ns c h.1 hw h.2.n200 hk hs hl
  names := fun w p t F m s h hw hs => code_names w p t F m s h.1 hw hs (h.2.nI s)
  slot := fun w p t F m s nm h hw hs _ => code_slot w p t F m s nm h.1 hw hs (h.2.nI s)
  cls := fun w p t F m s h hw hs => code_class w p t F m s h.1 hw hs
  canon := fun w p t F m s h hw hs => (code_canon w p t F m s h.1 hw hs).mono fun _ _ ⟨he, hw⟩ => ⟨he, by rw [← hw]; exact Below.refl _ _⟩
  root := fun w p t F m k h hw hk => (code_root w p t F m k h.1 hw hk).mono fun _ _ ⟨he, hw⟩ => ⟨he, by rw [← hw]; exact Below.refl _ _⟩
  count := fun w p t F m h _ => (code_count w p t F h.1).mono fun _ _ ⟨he, hw⟩ => ⟨he, by rw [← hw]; exact Below.refl _ _⟩
  text := fun w p t F m h hv hw h0 hsz => code_text w p t F m h.1 hw hv (List.length_pos_iff.2 h0) h.2.n200 hsz
end Go.Proofs.YtjodmjadpooipaaGreatDoor.Sh
namespace Go.Proofs.YtjodmjadpooipaaGreatDoor.Sh
open Go Go.RowKit Go.ChangeShapes Go.WideShapes Go.ChangeAt

theorem gPow : Tryz.prog.globalNamed "internal/strconv.uint64pow10" = some 0 := by kernel_rfl
theorem tPow : (Tryz.prog.globals[0]?).map (·.type) = some 140 := by kernel_rfl
theorem cPow : Tryz.prog.cellsOf 140 = 20 := by kernel_rfl
theorem cU64 : Tryz.prog.cellsOf 124 = 1 := by kernel_rfl
theorem pow_is : (Rows.laid_internal_strconv_uint64pow10 : DataW Unit) = Lib.tabData .u64 Lib.pow10Tab := by kernel_rfl
theorem pow_of {W : World} {l : List (String × DataW Unit)} (h : laidMet Tryz.prog l W) (hm : ("internal/strconv.uint64pow10", Rows.laid_internal_strconv_uint64pow10) ∈ l) : Pw W := by
  obtain ⟨g', t, cs, fuel, p, hg', ht, hv, hd⟩ := Lib.laidMet.reads h hm
  obtain rfl := Option.some.inj (gPow.symm.trans hg')
  obtain rfl := Option.some.inj (tPow.symm.trans ht)
  rw [pow_is] at hd
  unfold Pw Lib.TabIs
  rw [hv, ← Lib.cells_of_tab Tryz.underlying140 Tryz.underlying124 cU64 cPow hd]
def laidK : List (String × DataW Unit) := [("math/bits.deBruijn32tab", Rows.laid_math_bits_deBruijn32tab), ("math/bits.deBruijn64tab", Rows.laid_math_bits_deBruijn64tab), ("internal/strconv.uint64pow10", Rows.laid_internal_strconv_uint64pow10)]
theorem kit_v {W : World} (h : laidMet Tryz.prog laidK W) : theKit.V W := pow_of h (by simp [laidK])
end Go.Proofs.YtjodmjadpooipaaGreatDoor.Sh
