/-
  The reference's World.
-/
import Derived.Test.YtbpehdpcnnaidaaDoorWj
import Derived.Deep.AppendLies
import Derived.IntWalk
namespace Go.Proofs.YtbpehdpcnnaidaaDoor.Ac
open Go Go.RowKit Va

/-- How a call of World ends. -/
def WorldTo (w : World) (e : Ending) (w' : World) : Prop :=
  ∃ d : Wd, e = .returned (.agg #[.slice d.iA d.vs.length d.ic, .slice d.cA d.cs.length d.cc, .slice d.hA d.hs.length d.hc, .slice d.fA d.fs.length d.fc, .slice d.lA d.ls.length d.lc, .int .i64 d.ep]) ∧ Hid (d.Ok w' w.heap.size 10) ∧ Hid (rightW d = true) ∧ Hid (Below w.heap.size w w')
theorem rows_nil (w : World) (base : Nat) : Rows5 (rowsOf (⟨none, [], 0, none, [], 0, none, [], 0, none, [], 0, none, [], 0, 0⟩ : Wd)) w base := by
  refine ⟨fun k hk => ?_, fun j k hj hk _ b hb => ?_⟩
  · rcases (show k = 0 ∨ k = 1 ∨ k = 2 ∨ k = 3 ∨ k = 4 by omega) with rfl | rfl | rfl | rfl | rfl <;> exact World.ownsRow_nil _ _ _ _
  · rcases (show j = 0 ∨ j = 1 ∨ j = 2 ∨ j = 3 ∨ j = 4 by omega) with rfl | rfl | rfl | rfl | rfl <;> cases hb
set_option maxRecDepth 100000 in
set_option maxHeartbeats 8000000 in
theorem world_any (A : Option Addr) (zs : List Int) (c B : Nat) (w : World) (h : Sl w B A zs) (hB : B ≤ w.heap.size) (hz : ∀ z ∈ zs, I64 z) (hl : zs.length ≤ 17592186044404) :
    Calls Tryd.prog 5 #[.slice A zs.length c] w (WorldTo w) := by
  have HZ := Lib.hid hz
  have HL := Lib.hid hl
  obtain ⟨i0, hi0, hz0, hz1, hz2⟩ := info_parts infoI
  obtain ⟨j0, hj0, hy0, hy1, hy2⟩ := info_parts infoV
  have b0 : Below w.heap.size w ((w.alloc (.cells #[.slice none 0 0, .slice none 0 0, .slice none 0 0, .slice none 0 0, .slice none 0 0, .int .i64 0] 28)).alloc (.cells #[.slice A zs.length c, .int .i64 0] 49)) := ((Below.refl _ w).alloc (Nat.le_refl _) _).alloc (by simp) _
  have HR := Lib.hid ((Bk.new w #[.slice none 0 0, .slice none 0 0, .slice none 0 0, .slice none 0 0, .slice none 0 0, .int .i64 0] 28).alloc (.cells #[.slice A zs.length c, .int .i64 0] 49))
  have n0 : Nm ((w.alloc (.cells #[.slice none 0 0, .slice none 0 0, .slice none 0 0, .slice none 0 0, .slice none 0 0, .int .i64 0] 28)).alloc (.cells #[.slice A zs.length c, .int .i64 0] 49)) (w.heap.size + 1) A zs.length c := ⟨0, Nat.zero_le _, by
    have h := Bk.new (w.alloc (.cells #[.slice none 0 0, .slice none 0 0, .slice none 0 0, .slice none 0 0, .slice none 0 0, .int .i64 0] 28)) #[.slice A zs.length c, .int .i64 0] 49
    rw [World.size_alloc] at h; exact h⟩
  have s0 := (Sn.init n0).alloc #[.slice none 0 0, .slice none 0 0, .slice none 0 0, .slice none 0 0, .slice none 0 0, .int .i64 0] 28
  have e0 : ((w.alloc (.cells #[.slice none 0 0, .slice none 0 0, .slice none 0 0, .slice none 0 0, .slice none 0 0, .int .i64 0] 28)).alloc (.cells #[.slice A zs.length c, .int .i64 0] 49)).heap.size = w.heap.size + 1 + 1 := by simp
  rw [e0] at s0
  have ST0 := Lib.hid (show Wst ((w.alloc (.cells #[.slice none 0 0, .slice none 0 0, .slice none 0 0, .slice none 0 0, .slice none 0 0, .int .i64 0] 28)).alloc (.cells #[.slice A zs.length c, .int .i64 0] 49)) (w.heap.size + 1) (w.heap.size + 1 + 1) A zs.length c (⟨none, [], 0, none, [], 0, none, [], 0, none, [], 0, none, [], 0, 0⟩ : Wd) (((w.alloc (.cells #[.slice none 0 0, .slice none 0 0, .slice none 0 0, .slice none 0 0, .slice none 0 0, .int .i64 0] 28)).alloc (.cells #[.slice A zs.length c, .int .i64 0] 49)).alloc (.cells #[.slice none 0 0, .slice none 0 0, .slice none 0 0, .slice none 0 0, .slice none 0 0, .int .i64 0] 28)) from ⟨s0, rows_nil _ _⟩)
  have HA := Lib.hid (h.below b0 hB)
  have HB0 := Lib.hid b0
  have HW := Lib.hid e0
  clear h hz hl b0 n0 s0 e0
  go_enter Tryd.func5, Tryd.ntmps5
  go_wp2_with fail
  obtain ⟨W, hW⟩ : ∃ W, (w.alloc (.cells #[.slice none 0 0, .slice none 0 0, .slice none 0 0, .slice none 0 0, .slice none 0 0, .int .i64 0] 28)).alloc (.cells #[.slice A zs.length c, .int .i64 0] 49) = W := ⟨_, rfl⟩
  rw [hW] at ST0 HA HB0 HW HR ⊢
  clear hW
  have hbB : B ≤ w.heap.size + 1 := by omega
  refine (next_w ST0.out HA.out hbB (by have := HW.out; omega) HZ.out HL.out 5 (by omega) (by omega)).mono ?_
  rintro e w1 ⟨mI, rfl, hm, ST1, _⟩
  obtain ⟨m0, m1⟩ := hm.out
  clear hm ST0
  go_wp2_with fail
  go_loopw [6] (fun i wr => ∃ (kI : Nat) (iA : Option Addr) (vs : List V3) (ic : Nat), (kI : Int) ≤ mI ∧ i = .int .i64 kI ∧ Hid (Wst W (w.heap.size + 1) (w.heap.size + 1 + 1) A zs.length c (⟨iA, vs, ic, none, [], 0, none, [], 0, none, [], 0, none, [], 0, 0⟩ : Wd) wr) ∧ Hid (okV vs kI)) (fun i _ => 5 - (intOf i).toNat)
  case atStart => exact ⟨0, none, [], 0, by omega, rfl, ST1, Lib.hid ⟨rfl, fun v hv => by cases hv⟩⟩
  case round =>
    clear ST1
    obtain ⟨kI, iA, vs, ic, hk, rfl, ST, OK⟩ := hrel
    by_cases hlt : (kI : Int) < mI
    · obtain ⟨rfl, _⟩ : vs.length = kI ∧ True := ⟨OK.out.1, trivial⟩
      have k0 : wr.cell? ⟨w.heap.size + 1 + 1, 0, none⟩ = some (.slice iA vs.length ic) := ST.out.cell 0 _ rfl
      go_wp2_with fail
      replace ST := Lib.hid ST.out.drew
      have HVL := Lib.hid (show vs.length ≤ 4 by omega)
      go_region_law (first
        | (go_simp; go_at_call 15; refine (next_w ST.out HA.out hbB (by have := HW.out; omega) HZ.out HL.out 200 (by omega) (by omega)).mono ?_; rintro e w6 ⟨r, rfl, hr, ST6, _⟩; obtain ⟨r0, r1⟩ := hr.out; clear hr; have k0 : w6.cell? ⟨w.heap.size + 1 + 1, 0, none⟩ = some (.slice iA vs.length ic) := ST6.out.cell 0 _ rfl)
        | (go_simp; go_at_call 16; refine (const_w ST6.out r r0 r1).mono ?_; rintro e w7 ⟨kd, x, s, rfl, hv, ST7, _⟩; have k0 : w7.cell? ⟨w.heap.size + 1 + 1, 0, none⟩ = some (.slice iA vs.length ic) := ST7.out.cell 0 _ rfl; have k0b : (w7.alloc (.cells #[.int .i64 kd, .int .i64 x, .string s] 52)).cell? ⟨w.heap.size + 1 + 1, 0, none⟩ = some (.slice iA vs.length ic) := (ST7.out.alloc _).cell 0 _ rfl)
        | (refine step_append_lies _ (by rfl) _ _ _ (by rfl) W.heap.size 52 j0 _ 3 32 Tryd.underlying26 hj0 hy0 hy1 hy2 rfl (by omega) (.slice iA vs.length ic) vs.length (vs.flatMap vcells) (by rfl) ((ST7.out.alloc (.cells #[.int .i64 kd, .int .i64 x, .string s] 52)).rows.own 0 (by omega)) ⟨w7.heap.size, 0, none⟩ 1 1 [.int .i64 kd, .int .i64 x, .string s] (by rfl) (by rfl) (World.news_of_block (cs := #[.int .i64 kd, .int .i64 x, .string s]) (t := 52) (fr := (0, 0)) (heap_alloc_new w7 _)) (by simp [Value.oneCell']) (by omega) (by unfold maxLen; omega) (by omega) (by have := (ST7.out.alloc (.cells #[.int .i64 kd, .int .i64 x, .string s] 52)).st.gr.size; simpa using this) (w7.heap.size + 1) (by simp) ?_; intro g cap w8 hown hgrow hat _; obtain ⟨S8, k0, f0⟩ := (ST7.out.alloc (.cells #[.int .i64 kd, .int .i64 x, .string s] 52)).app0 (kd, x, s) g cap (w7.heap.size + 1) (by simp) hown hgrow hat; have HS8 := Lib.hid S8; clear S8 hown hgrow hat; have OK8 := Lib.hid (OK.out.add (kd, x, s) hv.out); clear hv))
      all_goals
        clear HVL
        go_wp2_with fail
        go_roundw
        case rel => exact ⟨vs.length + 1, _, _, _, by omega, by go_num, HS8, OK8⟩
        case measure => simp [intOf]; omega
    · obtain ⟨hkm, _⟩ : (kI : Int) = mI ∧ True := ⟨by omega, trivial⟩
      have hge : mI ≤ (kI : Int) := by omega
      have OKV := OK
      have hk5 : kI ≤ 4 := by omega
      clear hkm OK
      go_wp2_with fail
      refine (next_w ST.out HA.out hbB (by have := HW.out; omega) HZ.out HL.out 4 (by omega) (by omega)).mono ?_
      rintro e w2 ⟨mC, rfl, hm, ST1, _⟩
      obtain ⟨m0, m1⟩ := hm.out
      clear hm ST
      go_wp2_with fail
      go_loopw [7] (fun i wr => ∃ (kC : Nat) (cA : Option Addr) (cs : List Int) (cc : Nat), (kC : Int) ≤ mC ∧ i = .int .i64 kC ∧ Hid (Wst W (w.heap.size + 1) (w.heap.size + 1 + 1) A zs.length c (⟨iA, vs, ic, cA, cs, cc, none, [], 0, none, [], 0, none, [], 0, 0⟩ : Wd) wr) ∧ Hid (okI cs kC (-1000000000000000) (1000000000000000))) (fun i _ => 3 - (intOf i).toNat)
      case atStart => exact ⟨0, none, [], 0, by omega, rfl, ST1, Lib.hid ⟨rfl, fun v hv => by cases hv⟩⟩
      case round =>
        clear ST1
        obtain ⟨kC, cA, cs, cc, hk, rfl, ST, OK⟩ := hrel
        by_cases hlt : (kC : Int) < mC
        · obtain ⟨rfl, _⟩ : cs.length = kC ∧ True := ⟨OK.out.1, trivial⟩
          have k0 : wr.cell? ⟨w.heap.size + 1 + 1, 1, none⟩ = some (.slice cA cs.length cc) := ST.out.cell 1 _ rfl
          go_wp2_with fail
          replace ST := Lib.hid ST.out.drew
          have HVL := Lib.hid (show cs.length ≤ 3 by omega)
          go_region_law (first
            | (go_simp; go_at_call 15; refine (next_w ST.out HA.out hbB (by have := HW.out; omega) HZ.out HL.out 100 (by omega) (by omega)).mono ?_; rintro e w6 ⟨r, rfl, hr, ST6, _⟩; obtain ⟨r0, r1⟩ := hr.out; clear hr; have er : IntKind.i64.wrap (r - 3) = r - 3 := IntWalk.i64_in _ (by omega); have k0 : w6.cell? ⟨w.heap.size + 1 + 1, 1, none⟩ = some (.slice cA cs.length cc) := ST6.out.cell 1 _ rfl; have k0b : (w6.alloc (.cells #[.int .i64 (r - 3)] 3)).cell? ⟨w.heap.size + 1 + 1, 1, none⟩ = some (.slice cA cs.length cc) := (ST6.out.alloc _).cell 1 _ rfl)
            | (refine step_append_lies _ (by rfl) _ _ _ (by rfl) W.heap.size 3 i0 _ 1 8 Tryd.underlying22 hi0 hz0 hz1 hz2 rfl (by omega) (.slice cA cs.length cc) cs.length (cs.map (Value.int .i64)) (by rfl) ((ST6.out.alloc (.cells #[.int .i64 (r - 3)] 3)).rows.own 1 (by omega)) ⟨w6.heap.size, 0, none⟩ 1 1 [.int .i64 (r - 3)] (by rfl) (by rfl) (World.news_of_block (cs := #[.int .i64 (r - 3)]) (t := 3) (fr := (0, 0)) (heap_alloc_new w6 _)) (by simp [Value.oneCell']) (by omega) (by unfold maxLen; omega) (by omega) (by have := (ST6.out.alloc (.cells #[.int .i64 (r - 3)] 3)).st.gr.size; simpa using this) (w6.heap.size + 1) (by simp) ?_; intro g cap w8 hown hgrow hat _; obtain ⟨S8, k0, f0⟩ := (ST6.out.alloc (.cells #[.int .i64 (r - 3)] 3)).app1 (r - 3) g cap (w6.heap.size + 1) (by simp) hown hgrow hat; have HS8 := Lib.hid S8; clear S8 hown hgrow hat; have OK8 := Lib.hid (OK.out.add (r - 3) (by omega) (by omega))))
          all_goals
            clear HVL
            go_wp2_with fail
            go_roundw
            case rel => exact ⟨cs.length + 1, _, _, _, by omega, by go_num, HS8, OK8⟩
            case measure => simp [intOf]; omega
        · have hge : mC ≤ (kC : Int) := by omega
          have OKC := OK
          have hk6 : kC ≤ 3 := by omega
          clear OK
          go_wp2_with fail
          refine (next_w ST.out HA.out hbB (by have := HW.out; omega) HZ.out HL.out 5 (by omega) (by omega)).mono ?_
          rintro e w3 ⟨mH, rfl, hm, ST1, _⟩
          obtain ⟨m0, m1⟩ := hm.out
          clear hm ST
          go_wp2_with fail
          go_loopw [8] (fun i wr => ∃ (kH : Nat) (hA : Option Addr) (hs : List Int) (hc : Nat), (kH : Int) ≤ mH ∧ i = .int .i64 kH ∧ Hid (Wst W (w.heap.size + 1) (w.heap.size + 1 + 1) A zs.length c (⟨iA, vs, ic, cA, cs, cc, hA, hs, hc, none, [], 0, none, [], 0, 0⟩ : Wd) wr) ∧ Hid (okI hs kH (-1000000000) (1000000000))) (fun i _ => 4 - (intOf i).toNat)
          case atStart => exact ⟨0, none, [], 0, by omega, rfl, ST1, Lib.hid ⟨rfl, fun v hv => by cases hv⟩⟩
          case round =>
            clear ST1
            obtain ⟨kH, hA, hs, hc, hk, rfl, ST, OK⟩ := hrel
            by_cases hlt : (kH : Int) < mH
            · obtain ⟨rfl, _⟩ : hs.length = kH ∧ True := ⟨OK.out.1, trivial⟩
              have k0 : wr.cell? ⟨w.heap.size + 1 + 1, 2, none⟩ = some (.slice hA hs.length hc) := ST.out.cell 2 _ rfl
              go_wp2_with fail
              replace ST := Lib.hid ST.out.drew
              have HVL := Lib.hid (show hs.length ≤ 4 by omega)
              go_region_law (first
                | (go_simp; go_at_call 15; refine (next_w ST.out HA.out hbB (by have := HW.out; omega) HZ.out HL.out 9 (by omega) (by omega)).mono ?_; rintro e w6 ⟨r, rfl, hr, ST6, _⟩; obtain ⟨r0, r1⟩ := hr.out; clear hr; have k0 : w6.cell? ⟨w.heap.size + 1 + 1, 2, none⟩ = some (.slice hA hs.length hc) := ST6.out.cell 2 _ rfl; have k0b : (w6.alloc (.cells #[.int .i64 r] 3)).cell? ⟨w.heap.size + 1 + 1, 2, none⟩ = some (.slice hA hs.length hc) := (ST6.out.alloc _).cell 2 _ rfl)
                | (refine step_append_lies _ (by rfl) _ _ _ (by rfl) W.heap.size 3 i0 _ 1 8 Tryd.underlying22 hi0 hz0 hz1 hz2 rfl (by omega) (.slice hA hs.length hc) hs.length (hs.map (Value.int .i64)) (by rfl) ((ST6.out.alloc (.cells #[.int .i64 r] 3)).rows.own 2 (by omega)) ⟨w6.heap.size, 0, none⟩ 1 1 [.int .i64 r] (by rfl) (by rfl) (World.news_of_block (cs := #[.int .i64 r]) (t := 3) (fr := (0, 0)) (heap_alloc_new w6 _)) (by simp [Value.oneCell']) (by omega) (by unfold maxLen; omega) (by omega) (by have := (ST6.out.alloc (.cells #[.int .i64 r] 3)).st.gr.size; simpa using this) (w6.heap.size + 1) (by simp) ?_; intro g cap w8 hown hgrow hat _; obtain ⟨S8, k0, f0⟩ := (ST6.out.alloc (.cells #[.int .i64 r] 3)).app2 r g cap (w6.heap.size + 1) (by simp) hown hgrow hat; have HS8 := Lib.hid S8; clear S8 hown hgrow hat; have OK8 := Lib.hid (OK.out.add r (by omega) (by omega))))
              all_goals
                clear HVL
                go_wp2_with fail
                go_roundw
                case rel => exact ⟨hs.length + 1, _, _, _, by omega, by go_num, HS8, OK8⟩
                case measure => simp [intOf]; omega
            · have hge : mH ≤ (kH : Int) := by omega
              have OKH := OK
              have hk7 : kH ≤ 4 := by omega
              clear OK
              go_wp2_with fail
              refine (next_w ST.out HA.out hbB (by have := HW.out; omega) HZ.out HL.out 3 (by omega) (by omega)).mono ?_
              rintro e w4 ⟨m, rfl, hm, ST1, _⟩
              obtain ⟨m0, m1⟩ := hm.out
              clear hm ST
              go_wp2_with fail
              go_loopw [9] (fun i wr => ∃ (k : Nat) (fA : Option Addr) (fs : List Int) (fc : Nat) (lA : Option Addr) (ls : List Int) (lc : Nat), (k : Int) ≤ 1 + m ∧ i = .int .i64 k ∧ Hid (Wst W (w.heap.size + 1) (w.heap.size + 1 + 1) A zs.length c (⟨iA, vs, ic, cA, cs, cc, hA, hs, hc, fA, fs, fc, lA, ls, lc, 0⟩ : Wd) wr) ∧ Hid (okI fs k 0 1000000000000000) ∧ Hid (okI ls k 0 30000)) (fun i _ => 4 - (intOf i).toNat)
              case atStart => exact ⟨0, none, [], 0, none, [], 0, by omega, rfl, ST1, Lib.hid ⟨rfl, fun v hv => by cases hv⟩, Lib.hid ⟨rfl, fun v hv => by cases hv⟩⟩
              case round =>
                clear ST1
                obtain ⟨k, fA, fs, fc, lA, ls, lc, hk, rfl, ST, OKF, OKL⟩ := hrel
                by_cases hlt : (k : Int) < 1 + m
                · obtain ⟨hfs, hls⟩ : fs.length = k ∧ ls.length = k := ⟨OKF.out.1, OKL.out.1⟩
                  subst hfs
                  have HLS := Lib.hid hls
                  clear hls
                  have k0 : wr.cell? ⟨w.heap.size + 1 + 1, 3, none⟩ = some (.slice fA fs.length fc) := ST.out.cell 3 _ rfl
                  go_wp2_with fail
                  have STR := ST
                  replace ST := Lib.hid ST.out.drew
                  rename_i KL aL K0 a0
                  have key : ∀ (x65 x66 x67 x68 x69 x70 x71 x72 x73 x74 : Value) (wy : World) (A1 : Option Addr) (gs : List Int) (c1 : Nat), Hid (Wst W (w.heap.size + 1) (w.heap.size + 1 + 1) A zs.length c (⟨iA, vs, ic, cA, cs, cc, hA, hs, hc, A1, gs, c1, lA, ls, lc, 0⟩ : Wd) wy) → Hid (okI gs (fs.length + 1) 0 1000000000000000) → K0 { tmps := #[.slice A zs.length c, undef, .pointer (some ⟨w.heap.size, 0, none⟩), .pointer (some ⟨w.heap.size + 1, 0, none⟩), .pointer (some ⟨w.heap.size + 1 + 1, 0, none⟩), .int .i64 (1 + m), .int .i64 kI, .int .i64 kC, .int .i64 kH, .int .i64 fs.length, .slice A zs.length c, .agg #[.slice A zs.length c, .int .i64 0], .pointer (some ⟨w.heap.size + 1, 0, none⟩), .pointer (some ⟨w.heap.size + 1, 0, none⟩), .int .i64 mI, .int .i64 kI, .int .i64 mI, .bool false, u18, u19, u20, u21, u22, u23, u24, u25, u26, u27, .pointer (some ⟨w.heap.size + 1, 0, none⟩), .int .i64 mC, .int .i64 kC, .int .i64 mC, .bool false, u33, u34, u35, u36, u37, u38, u39, u40, u41, u42, .pointer (some ⟨w.heap.size + 1, 0, none⟩), .int .i64 mH, .int .i64 kH, .int .i64 mH, .bool false, u48, u49, u50, u51, u52, u53, u54, u55, u56, .pointer (some ⟨w.heap.size + 1, 0, none⟩), .int .i64 m, .int .i64 (1 + m), .int .i64 fs.length, .int .i64 (1 + m), .bool true, u63, u64, x65, x66, x67, x68, x69, x70, x71, x72, x73, x74, u75, u76, u77, u78, u79, u80, u81, u82, u83, u84, undef, undef, undef, undef, undef, undef, undef], defers := [] } wy := by
                    intro x65 x66 x67 x68 x69 x70 x71 x72 x73 x74 wy A1 gs c1 ST OKG
                    refine a0 _ _ ?_
                    have hle : ls.length ≤ 3 := by have := HLS.out; omega
                    have k0 : wy.cell? ⟨w.heap.size + 1 + 1, 4, none⟩ = some (.slice lA ls.length lc) := ST.out.cell 4 _ rfl
                    go_wp2_with fail
                    have STR := ST
                    replace ST := Lib.hid ST.out.drew
                    have k0r : (wy.alloc (.cells #[.int .i64 2000, .int .i64 2000, .int .i64 200, .int .i64 72, .int .i64 30000] 3)).cell? ⟨w.heap.size + 1 + 1, 4, none⟩ = some (.slice lA ls.length lc) := (STR.out.alloc _).cell 4 _ rfl
                    have HVL := Lib.hid (show ls.length ≤ 3 by omega)
                    go_region_law (first
                      | (go_simp; go_at_call 15; (with_reducible refine (next_w ST.out HA.out hbB (by have := HW.out; omega) HZ.out HL.out 5 (by omega) (by omega)).mono ?_); rintro e w6 ⟨r, rfl, hr, ST6, hg6⟩; obtain ⟨r0, r1⟩ := hr.out; clear hr; obtain ⟨q, rfl⟩ := Int.eq_ofNat_of_zero_le r0; have hq : q < 5 := (by omega); obtain ⟨p0, p1⟩ := pick_L q hq; have k0 : w6.cell? ⟨w.heap.size + 1 + 1, 4, none⟩ = some (.slice lA ls.length lc) := ST6.out.cell 4 _ rfl; have k0a : (w6.alloc (.cells #[.int .i64 2000, .int .i64 2000, .int .i64 200, .int .i64 72, .int .i64 30000] 3)).cell? ⟨w.heap.size + 1 + 1, 4, none⟩ = some (.slice lA ls.length lc) := (ST6.out.alloc _).cell 4 _ rfl; have qa : (w6.alloc (.cells #[.int .i64 2000, .int .i64 2000, .int .i64 200, .int .i64 72, .int .i64 30000] 3)).cell? ⟨w6.heap.size, q, none⟩ = some (.int .i64 (pick [2000, 2000, 200, 72, 30000] q)) := pick_cell (l := [2000, 2000, 200, 72, 30000]) (show Bk (w6.alloc (.cells #[.int .i64 2000, .int .i64 2000, .int .i64 200, .int .i64 72, .int .i64 30000] 3)) w6.heap.size #[.int .i64 2000, .int .i64 2000, .int .i64 200, .int .i64 72, .int .i64 30000] 3 from Bk.new w6 #[.int .i64 2000, .int .i64 2000, .int .i64 200, .int .i64 72, .int .i64 30000] 3) q hq; have k0b : ((w6.alloc (.cells #[.int .i64 2000, .int .i64 2000, .int .i64 200, .int .i64 72, .int .i64 30000] 3)).alloc (.cells #[.int .i64 (pick [2000, 2000, 200, 72, 30000] q)] 3)).cell? ⟨w.heap.size + 1 + 1, 4, none⟩ = some (.slice lA ls.length lc) := ((ST6.out.alloc _).alloc _).cell 4 _ rfl)
                      | (go_simp; go_at_call 15; (with_reducible refine (next_w (STR.out.alloc (.cells #[.int .i64 2000, .int .i64 2000, .int .i64 200, .int .i64 72, .int .i64 30000] 3)).drew HA.out hbB (by have := HW.out; omega) HZ.out HL.out 5 (by omega) (by omega)).mono ?_); rintro e w6 ⟨r, rfl, hr, ST6, hg6⟩; obtain ⟨r0, r1⟩ := hr.out; clear hr; obtain ⟨q, rfl⟩ := Int.eq_ofNat_of_zero_le r0; have hq : q < 5 := (by omega); obtain ⟨p0, p1⟩ := pick_L q hq; have k0 : w6.cell? ⟨w.heap.size + 1 + 1, 4, none⟩ = some (.slice lA ls.length lc) := ST6.out.cell 4 _ rfl; have qb : w6.cell? ⟨wy.heap.size, q, none⟩ = some (.int .i64 (pick [2000, 2000, 200, 72, 30000] q)) := pick_cell (l := [2000, 2000, 200, 72, 30000]) (bk_next (show Bk (wy.alloc (.cells #[.int .i64 2000, .int .i64 2000, .int .i64 200, .int .i64 72, .int .i64 30000] 3)).drew wy.heap.size #[.int .i64 2000, .int .i64 2000, .int .i64 200, .int .i64 72, .int .i64 30000] 3 from Bk.new wy #[.int .i64 2000, .int .i64 2000, .int .i64 200, .int .i64 72, .int .i64 30000] 3) hg6.out (by have := STR.out.st.gr.size; have := HW.out; omega)) q hq; have k0b : (w6.alloc (.cells #[.int .i64 (pick [2000, 2000, 200, 72, 30000] q)] 3)).cell? ⟨w.heap.size + 1 + 1, 4, none⟩ = some (.slice lA ls.length lc) := (ST6.out.alloc _).cell 4 _ rfl)
                      | (refine step_append_lies _ (by rfl) _ _ _ (by rfl) W.heap.size 3 i0 _ 1 8 Tryd.underlying22 hi0 hz0 hz1 hz2 rfl (by omega) (.slice lA ls.length lc) ls.length (ls.map (Value.int .i64)) (by rfl) ((ST6.out.alloc (.cells #[.int .i64 (pick [2000, 2000, 200, 72, 30000] q)] 3)).rows.own 4 (by omega)) ⟨w6.heap.size, 0, none⟩ 1 1 [.int .i64 (pick [2000, 2000, 200, 72, 30000] q)] (by rfl) (by rfl) (World.news_of_block (cs := #[.int .i64 (pick [2000, 2000, 200, 72, 30000] q)]) (t := 3) (fr := (0, 0)) (heap_alloc_new w6 _)) (by simp [Value.oneCell']) (by omega) (by unfold maxLen; omega) (by omega) (by have := (ST6.out.alloc (.cells #[.int .i64 (pick [2000, 2000, 200, 72, 30000] q)] 3)).st.gr.size; simpa using this) (w6.heap.size + 1) (by simp) ?_; intro g cap w8 hown hgrow hat _; obtain ⟨S8, k0, f0⟩ := (ST6.out.alloc (.cells #[.int .i64 (pick [2000, 2000, 200, 72, 30000] q)] 3)).app4 (pick [2000, 2000, 200, 72, 30000] q) g cap (w6.heap.size + 1) (by simp) hown hgrow hat; have HS8 := Lib.hid S8; clear S8 hown hgrow hat; have OK8 := Lib.hid (OKL.out.add (pick [2000, 2000, 200, 72, 30000] q) p0 p1))
                      | (refine step_append_lies _ (by rfl) _ _ _ (by rfl) W.heap.size 3 i0 _ 1 8 Tryd.underlying22 hi0 hz0 hz1 hz2 rfl (by omega) (.slice lA ls.length lc) ls.length (ls.map (Value.int .i64)) (by rfl) (((ST6.out.alloc (.cells #[.int .i64 2000, .int .i64 2000, .int .i64 200, .int .i64 72, .int .i64 30000] 3)).alloc (.cells #[.int .i64 (pick [2000, 2000, 200, 72, 30000] q)] 3)).rows.own 4 (by omega)) ⟨w6.heap.size + 1, 0, none⟩ 1 1 [.int .i64 (pick [2000, 2000, 200, 72, 30000] q)] (by rfl) (by rfl) (World.news_of_block (cs := #[.int .i64 (pick [2000, 2000, 200, 72, 30000] q)]) (t := 3) (fr := (0, 0)) (heap_alloc2 w6 _ _)) (by simp [Value.oneCell']) (by omega) (by unfold maxLen; omega) (by omega) (by have := ((ST6.out.alloc (.cells #[.int .i64 2000, .int .i64 2000, .int .i64 200, .int .i64 72, .int .i64 30000] 3)).alloc (.cells #[.int .i64 (pick [2000, 2000, 200, 72, 30000] q)] 3)).st.gr.size; simpa using this) (w6.heap.size + 1 + 1) (by simp) ?_; intro g cap w8 hown hgrow hat _; obtain ⟨S8, k0, f0⟩ := ((ST6.out.alloc (.cells #[.int .i64 2000, .int .i64 2000, .int .i64 200, .int .i64 72, .int .i64 30000] 3)).alloc (.cells #[.int .i64 (pick [2000, 2000, 200, 72, 30000] q)] 3)).app4 (pick [2000, 2000, 200, 72, 30000] q) g cap (w6.heap.size + 1 + 1) (by simp) hown hgrow hat; have HS8 := Lib.hid S8; clear S8 hown hgrow hat; have OK8 := Lib.hid (OKL.out.add (pick [2000, 2000, 200, 72, 30000] q) p0 p1)))
                    all_goals
                      clear HVL
                      clear hle
                      go_wp2_with fail
                      go_roundw
                      case rel => exact ⟨fs.length + 1, _, gs, _, _, _, _, by omega, by go_num, HS8, OKG, OK8⟩
                      case measure => simp [intOf]; omega
                  have k0r : (wr.alloc (.cells #[.int .i64 400, .int .i64 400, .int .i64 60, .int .i64 12, .int .i64 1000000000000000] 3)).cell? ⟨w.heap.size + 1 + 1, 3, none⟩ = some (.slice fA fs.length fc) := (STR.out.alloc _).cell 3 _ rfl
                  have HVL := Lib.hid (show fs.length ≤ 3 by omega)
                  go_region_law (first
                    | (go_simp; go_at_call 15; (with_reducible refine (next_w ST.out HA.out hbB (by have := HW.out; omega) HZ.out HL.out 5 (by omega) (by omega)).mono ?_); rintro e w6 ⟨r, rfl, hr, ST6, hg6⟩; obtain ⟨r0, r1⟩ := hr.out; clear hr; obtain ⟨q, rfl⟩ := Int.eq_ofNat_of_zero_le r0; have hq : q < 5 := (by omega); obtain ⟨p0, p1⟩ := pick_F q hq; have k0 : w6.cell? ⟨w.heap.size + 1 + 1, 3, none⟩ = some (.slice fA fs.length fc) := ST6.out.cell 3 _ rfl; have k0a : (w6.alloc (.cells #[.int .i64 400, .int .i64 400, .int .i64 60, .int .i64 12, .int .i64 1000000000000000] 3)).cell? ⟨w.heap.size + 1 + 1, 3, none⟩ = some (.slice fA fs.length fc) := (ST6.out.alloc _).cell 3 _ rfl; have qa : (w6.alloc (.cells #[.int .i64 400, .int .i64 400, .int .i64 60, .int .i64 12, .int .i64 1000000000000000] 3)).cell? ⟨w6.heap.size, q, none⟩ = some (.int .i64 (pick [400, 400, 60, 12, 1000000000000000] q)) := pick_cell (l := [400, 400, 60, 12, 1000000000000000]) (show Bk (w6.alloc (.cells #[.int .i64 400, .int .i64 400, .int .i64 60, .int .i64 12, .int .i64 1000000000000000] 3)) w6.heap.size #[.int .i64 400, .int .i64 400, .int .i64 60, .int .i64 12, .int .i64 1000000000000000] 3 from Bk.new w6 #[.int .i64 400, .int .i64 400, .int .i64 60, .int .i64 12, .int .i64 1000000000000000] 3) q hq; have k0b : ((w6.alloc (.cells #[.int .i64 400, .int .i64 400, .int .i64 60, .int .i64 12, .int .i64 1000000000000000] 3)).alloc (.cells #[.int .i64 (pick [400, 400, 60, 12, 1000000000000000] q)] 3)).cell? ⟨w.heap.size + 1 + 1, 3, none⟩ = some (.slice fA fs.length fc) := ((ST6.out.alloc _).alloc _).cell 3 _ rfl)
                    | (go_simp; go_at_call 15; (with_reducible refine (next_w (STR.out.alloc (.cells #[.int .i64 400, .int .i64 400, .int .i64 60, .int .i64 12, .int .i64 1000000000000000] 3)).drew HA.out hbB (by have := HW.out; omega) HZ.out HL.out 5 (by omega) (by omega)).mono ?_); rintro e w6 ⟨r, rfl, hr, ST6, hg6⟩; obtain ⟨r0, r1⟩ := hr.out; clear hr; obtain ⟨q, rfl⟩ := Int.eq_ofNat_of_zero_le r0; have hq : q < 5 := (by omega); obtain ⟨p0, p1⟩ := pick_F q hq; have k0 : w6.cell? ⟨w.heap.size + 1 + 1, 3, none⟩ = some (.slice fA fs.length fc) := ST6.out.cell 3 _ rfl; have qb : w6.cell? ⟨wr.heap.size, q, none⟩ = some (.int .i64 (pick [400, 400, 60, 12, 1000000000000000] q)) := pick_cell (l := [400, 400, 60, 12, 1000000000000000]) (bk_next (show Bk (wr.alloc (.cells #[.int .i64 400, .int .i64 400, .int .i64 60, .int .i64 12, .int .i64 1000000000000000] 3)).drew wr.heap.size #[.int .i64 400, .int .i64 400, .int .i64 60, .int .i64 12, .int .i64 1000000000000000] 3 from Bk.new wr #[.int .i64 400, .int .i64 400, .int .i64 60, .int .i64 12, .int .i64 1000000000000000] 3) hg6.out (by have := STR.out.st.gr.size; have := HW.out; omega)) q hq; have k0b : (w6.alloc (.cells #[.int .i64 (pick [400, 400, 60, 12, 1000000000000000] q)] 3)).cell? ⟨w.heap.size + 1 + 1, 3, none⟩ = some (.slice fA fs.length fc) := (ST6.out.alloc _).cell 3 _ rfl)
                    | (refine step_append_lies _ (by rfl) _ _ _ (by rfl) W.heap.size 3 i0 _ 1 8 Tryd.underlying22 hi0 hz0 hz1 hz2 rfl (by omega) (.slice fA fs.length fc) fs.length (fs.map (Value.int .i64)) (by rfl) ((ST6.out.alloc (.cells #[.int .i64 (pick [400, 400, 60, 12, 1000000000000000] q)] 3)).rows.own 3 (by omega)) ⟨w6.heap.size, 0, none⟩ 1 1 [.int .i64 (pick [400, 400, 60, 12, 1000000000000000] q)] (by rfl) (by rfl) (World.news_of_block (cs := #[.int .i64 (pick [400, 400, 60, 12, 1000000000000000] q)]) (t := 3) (fr := (0, 0)) (heap_alloc_new w6 _)) (by simp [Value.oneCell']) (by omega) (by unfold maxLen; omega) (by omega) (by have := (ST6.out.alloc (.cells #[.int .i64 (pick [400, 400, 60, 12, 1000000000000000] q)] 3)).st.gr.size; simpa using this) (w6.heap.size + 1) (by simp) ?_; intro g cap w8 hown hgrow hat _; obtain ⟨S8, k0, f0⟩ := (ST6.out.alloc (.cells #[.int .i64 (pick [400, 400, 60, 12, 1000000000000000] q)] 3)).app3 (pick [400, 400, 60, 12, 1000000000000000] q) g cap (w6.heap.size + 1) (by simp) hown hgrow hat; have HS8 := Lib.hid S8; clear S8 hown hgrow hat; have OK8 := Lib.hid (OKF.out.add (pick [400, 400, 60, 12, 1000000000000000] q) p0 p1))
                    | (refine step_append_lies _ (by rfl) _ _ _ (by rfl) W.heap.size 3 i0 _ 1 8 Tryd.underlying22 hi0 hz0 hz1 hz2 rfl (by omega) (.slice fA fs.length fc) fs.length (fs.map (Value.int .i64)) (by rfl) (((ST6.out.alloc (.cells #[.int .i64 400, .int .i64 400, .int .i64 60, .int .i64 12, .int .i64 1000000000000000] 3)).alloc (.cells #[.int .i64 (pick [400, 400, 60, 12, 1000000000000000] q)] 3)).rows.own 3 (by omega)) ⟨w6.heap.size + 1, 0, none⟩ 1 1 [.int .i64 (pick [400, 400, 60, 12, 1000000000000000] q)] (by rfl) (by rfl) (World.news_of_block (cs := #[.int .i64 (pick [400, 400, 60, 12, 1000000000000000] q)]) (t := 3) (fr := (0, 0)) (heap_alloc2 w6 _ _)) (by simp [Value.oneCell']) (by omega) (by unfold maxLen; omega) (by omega) (by have := ((ST6.out.alloc (.cells #[.int .i64 400, .int .i64 400, .int .i64 60, .int .i64 12, .int .i64 1000000000000000] 3)).alloc (.cells #[.int .i64 (pick [400, 400, 60, 12, 1000000000000000] q)] 3)).st.gr.size; simpa using this) (w6.heap.size + 1 + 1) (by simp) ?_; intro g cap w8 hown hgrow hat _; obtain ⟨S8, k0, f0⟩ := ((ST6.out.alloc (.cells #[.int .i64 400, .int .i64 400, .int .i64 60, .int .i64 12, .int .i64 1000000000000000] 3)).alloc (.cells #[.int .i64 (pick [400, 400, 60, 12, 1000000000000000] q)] 3)).app3 (pick [400, 400, 60, 12, 1000000000000000] q) g cap (w6.heap.size + 1 + 1) (by simp) hown hgrow hat; have HS8 := Lib.hid S8; clear S8 hown hgrow hat; have OK8 := Lib.hid (OKF.out.add (pick [400, 400, 60, 12, 1000000000000000] q) p0 p1)))
                  all_goals
                    clear HVL
                    exact key _ _ _ _ _ _ _ _ _ _ _ _ _ _ HS8 OK8
                · skip
                  have hge : 1 + m ≤ (k : Int) := by omega
                  have HK := Lib.hid (show (k : Int) = 1 + m by omega)
                  go_wp2_with fail
                  refine (next_w (ST.out.alloc (.cells #[.int .i64 0, .int .i64 7, .int .i64 20, .int .i64 1, .int .i64 3] 3)) HA.out hbB (by have := HW.out; omega) HZ.out HL.out 5 (by omega) (by omega)).mono ?_
                  rintro e w6 ⟨r, rfl, hr, ST6, hg6⟩
                  obtain ⟨r0, r1⟩ := hr.out
                  clear hr
                  obtain ⟨q, rfl⟩ := Int.eq_ofNat_of_zero_le r0
                  have hq : q < 5 := (by omega)
                  obtain ⟨p0, p1⟩ := pick_E q hq
                  have SX := Lib.hid (ST6.out.setEp (pick [0, 7, 20, 1, 3] q))
                  have DX := Lib.hid (bk_next (bk_next HR.out ST6.out.st.gr (by omega)) (grownBy_set _ (w.heap.size + 1 + 1) 5 (.int .i64 (pick [0, 7, 20, 1, 3] q))) (by omega))
                  have f5 := ST6.out.frozen 5
                  have k5 : _ = some (Value.int .i64 0 : Value) := ST6.out.cell 5 _ rfl
                  have m0 : _ = some ((.slice iA vs.length ic) : Value) := SX.out.cell 0 _ rfl
                  have zz0 : _ = some ((.slice none 0 0) : Value) := DX.out.cell 0 _ rfl
                  have g0 := DX.out.frozen 0
                  have m1 : _ = some ((.slice cA cs.length cc) : Value) := SX.out.cell 1 _ rfl
                  have zz1 : _ = some ((.slice none 0 0) : Value) := DX.out.cell 1 _ rfl
                  have g1 := DX.out.frozen 1
                  have m2 : _ = some ((.slice hA hs.length hc) : Value) := SX.out.cell 2 _ rfl
                  have zz2 : _ = some ((.slice none 0 0) : Value) := DX.out.cell 2 _ rfl
                  have g2 := DX.out.frozen 2
                  have m3 : _ = some ((.slice fA fs.length fc) : Value) := SX.out.cell 3 _ rfl
                  have zz3 : _ = some ((.slice none 0 0) : Value) := DX.out.cell 3 _ rfl
                  have g3 := DX.out.frozen 3
                  have m4 : _ = some ((.slice lA ls.length lc) : Value) := SX.out.cell 4 _ rfl
                  have zz4 : _ = some ((.slice none 0 0) : Value) := DX.out.cell 4 _ rfl
                  have g4 := DX.out.frozen 4
                  have m5 : _ = some ((.int .i64 (pick [0, 7, 20, 1, 3] q)) : Value) := SX.out.cell 5 _ rfl
                  have zz5 : _ = some ((.int .i64 0) : Value) := DX.out.cell 5 _ rfl
                  have g5 := DX.out.frozen 5
                  have qb : w6.cell? ⟨wr.heap.size, q, none⟩ = some (.int .i64 (pick [0, 7, 20, 1, 3] q)) := pick_cell (l := [0, 7, 20, 1, 3]) (bk_next (show Bk (wr.alloc (.cells #[.int .i64 0, .int .i64 7, .int .i64 20, .int .i64 1, .int .i64 3] 3)) wr.heap.size #[.int .i64 0, .int .i64 7, .int .i64 20, .int .i64 1, .int .i64 3] 3 from Bk.new wr #[.int .i64 0, .int .i64 7, .int .i64 20, .int .i64 1, .int .i64 3] 3) hg6.out (by have := ST.out.st.gr.size; have := HW.out; omega)) q hq
                  go_wp2_with fail
                  obtain ⟨wz, hwz, XZ, OZ, BZ⟩ := world_end (world_ok (d := (⟨iA, vs, ic, cA, cs, cc, hA, hs, hc, fA, fs, fc, lA, ls, lc, pick [0, 7, 20, 1, 3] q⟩ : Wd)) SX.out.rows OKV.out OKC.out.1 OKH.out.1 OKF.out.1 OKL.out.1 (by omega) (by omega) (by omega) (by have := HK.out; omega) rfl) DX.out (HB0.out.grown SX.out.st.gr (by have := HW.out; omega) (fun b hb => by cases hb; omega)) (Nat.le_refl _) (by have := HW.out; omega)
                  rw [← hwz]
                  have e0 := XZ.cell 0 _ rfl
                  have e1 := XZ.cell 1 _ rfl
                  have e2 := XZ.cell 2 _ rfl
                  have e3 := XZ.cell 3 _ rfl
                  have e4 := XZ.cell 4 _ rfl
                  have e5 := XZ.cell 5 _ rfl
                  exact bodyPost_ret (v := .agg #[.slice iA vs.length ic, .slice cA cs.length cc, .slice hA hs.length hc, .slice fA fs.length fc, .slice lA ls.length lc, .int .i64 (pick [0, 7, 20, 1, 3] q)]) (by simp [results, Tryd.results5, go_sem, e0, e1, e2, e3, e4, e5]) rfl ⟨(⟨iA, vs, ic, cA, cs, cc, hA, hs, hc, fA, fs, fc, lA, ls, lc, pick [0, 7, 20, 1, 3] q⟩ : Wd), rfl, Lib.hid OZ, Lib.hid (world_right (d := (⟨iA, vs, ic, cA, cs, cc, hA, hs, hc, fA, fs, fc, lA, ls, lc, pick [0, 7, 20, 1, 3] q⟩ : Wd)) OKV.out OKC.out OKH.out OKF.out OKL.out ⟨p0, p1⟩ (by omega) (by omega) (by omega) (by have := HK.out; omega) rfl), Lib.hid BZ⟩
end Go.Proofs.YtbpehdpcnnaidaaDoor.Ac
