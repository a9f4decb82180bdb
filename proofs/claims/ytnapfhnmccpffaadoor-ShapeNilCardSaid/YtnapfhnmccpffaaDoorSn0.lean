/-
  The walk of ShapeNil: nil and zero trees; names that are changed.
-/
import Derived.Test.YtnapfhnmccpffaaDoorSu
namespace Go.Proofs.YtnapfhnmccpffaaDoor.Sh
open Go Go.RowKit

/-- The cells of a tree that nothing was put into (as the package lays them). -/
def zeroTree : Array Value := #[.slice none 0 0, .slice none 0 0, .map none]
/-- A nil or zero tree. -/
def NilT (w : World) (v : Value) : Prop := v = .pointer none ∨ ∃ z, v = .pointer (some ⟨z, 0, none⟩) ∧ Bk w z zeroTree 60
theorem NilT.below {w w' : World} {v : Value} (h : NilT w v) (hb : Below w.heap.size w w') : NilT w' v := by
  rcases h with h | ⟨z, h, hz⟩
  · exact .inl h
  · exact .inr ⟨z, h, Bk.low hb hz⟩
/-- What package shape does with nil and zero trees. -/
structure NilKit : Prop where
  add : ∀ (w : World) (v : Value) (s : Int) (nm : ByteArray), NilT w v → I64 s → nm.size ≤ maxLen →
    Calls Tryd.prog 23 #[v, .int .i64 s, .string nm] w fun e w' => e = .returned (.tuple #[.int .i64 0, .int .i64 1]) ∧ Below w.heap.size w w'
  split : ∀ (w : World) (v : Value) (s : Int), NilT w v → I64 s →
    Calls Tryd.prog 30 #[v, .int .i64 s] w fun e w' => e = .returned (.tuple #[.int .i64 0, .int .i64 1]) ∧ Below w.heap.size w w'
  slot : ∀ (w : World) (v : Value) (s : Int) (nm : ByteArray), NilT w v → I64 s → nm.size ≤ maxLen →
    Calls Tryd.prog 22 #[v, .int .i64 s, .string nm] w fun e w' => e = .returned (.tuple #[.int .i64 0, .bool false]) ∧ Below w.heap.size w w'
  find : ∀ (w : World) (v : Value), NilT w v →
    Calls Tryd.prog 27 #[v, .int .i64 0, .slice none 0 0] w fun e w' => e = .returned (.tuple #[.int .i64 0, .bool false]) ∧ Below w.heap.size w w'
  make : ∀ (w : World) (v : Value), NilT w v →
    Calls Tryd.prog 31 #[v, .int .i64 0, .slice none 0 0] w fun e w' => e = .returned (.tuple #[.int .i64 0, .int .i64 1]) ∧ Below w.heap.size w w'
  merge : ∀ (w : World) (v : Value) (s : Int), NilT w v → I64 s →
    Calls Tryd.prog 29 #[v, .int .i64 s, .int .i64 s] w fun e w' => e = .returned (.int .i64 1) ∧ Below w.heap.size w w'
  root : ∀ (w : World) (v : Value), NilT w v →
    Calls Tryd.prog 28 #[v, .int .i64 0] w fun e w' => e = .returned (.int .i64 (-1)) ∧ Below w.heap.size w w'
  cls : ∀ (w : World) (v : Value) (s : Int), NilT w v → I64 s →
    Calls Tryd.prog 25 #[v, .int .i64 s] w fun e w' => e = .returned (.int .i64 (-1)) ∧ Below w.heap.size w w'
  canon : ∀ (w : World) (v : Value) (s : Int), NilT w v → I64 s →
    Calls Tryd.prog 26 #[v, .int .i64 s] w fun e w' => e = .returned (.int .i64 (-1)) ∧ Below w.heap.size w w'
  names : ∀ (w : World) (v : Value) (s : Int), NilT w v → I64 s →
    Calls Tryd.prog 21 #[v, .int .i64 s] w fun e w' => ∃ A c, e = .returned (.slice A 0 c) ∧ Below w.heap.size w w'
  count : ∀ (w : World) (v : Value), NilT w v →
    Calls Tryd.prog 18 #[v] w fun e w' => e = .returned (.int .i64 0) ∧ Below w.heap.size w w'
  text : ∀ (w : World) (v : Value), NilT w v →
    Calls Tryd.prog 13 #[v] w fun e w' => e = .returned (.string ⟨#[]⟩) ∧ Below w.heap.size w w'
/-- What the loop over both trees keeps. -/
structure Lz (w1 w : World) (z : Nat) : Prop where
  b0 : Bk w z zeroTree 60
  b1 : Bk w (z + 1) #[.pointer none, .pointer (some ⟨z, 0, none⟩)] 24
  bl : Below w1.heap.size w1 w
theorem Lz.low {w1 w w' : World} {z : Nat} (h : Lz w1 w z) (hb : Below w.heap.size w w') : Lz w1 w' z := ⟨Bk.low hb h.b0, Bk.low hb h.b1, h.bl.trans (hb.mono h.bl.size)⟩
theorem Lz.at_k {w1 w : World} {z k : Nat} (h : Lz w1 w z) (hk : k < 2) : ∃ v, w.cell? ⟨z + 1, k, none⟩ = some v ∧ NilT w v := by
  rcases (show k = 0 ∨ k = 1 by omega) with rfl | rfl
  · exact ⟨_, h.b1.cell 0 _ rfl, .inl rfl⟩
  · exact ⟨_, h.b1.cell 1 _ rfl, .inr ⟨z, rfl, h.b0⟩⟩
structure Lv (w1 w : World) (z : Nat) (v : Value) : Prop where
  z : Lz w1 w z
  nt : NilT w v
theorem Lv.low {w1 w w' : World} {z : Nat} {v : Value} (h : Lv w1 w z v) (hb : Below w.heap.size w w') : Lv w1 w' z v := ⟨h.z.low hb, h.nt.below hb⟩
theorem OwnS.slot {w : World} {base : Nat} {v : Value} {ns : List ByteArray} (h : OwnS w base v ns) :
    ∃ A c, v = .slice A ns.length c ∧ (0 < ns.length → ∃ g, A = some ⟨g, 0, none⟩ ∧ base ≤ g) := by
  rcases h.2 with ⟨rfl, h0⟩ | ⟨g, cap, cur, rfl, hb, _⟩
  · exact ⟨none, 0, by rw [h0], fun h => by omega⟩
  · exact ⟨_, _, rfl, fun _ => ⟨g, rfl, hb⟩⟩
theorem nat64' {s N : Nat} (h : s < N) (hN : N ≤ 200) : I64 (s : Int) := ⟨by omega, by omega⟩
theorem names_len' {fl : List (List ByteArray)} {t : Tre} (h : Inv fl t) (s : Nat) : (t.sh s).names.length ≤ 6 := nodup_len (h.ok.wf.na s) (h.ok.q s)
theorem L_ne {fl : List (List ByteArray)} {t : Tre} (h : Inv fl t) (hf : 0 < fl.length) : t.L ≠ [] := by
  have := h.pos hf
  intro e; rw [e] at this; exact Nat.lt_irrefl _ this
set_option maxRecDepth 100000 in
set_option maxHeartbeats 8000000 in
theorem nil_walk (K : Kit) (Z : NilKit) (n : Int) (hn : I64 n) (s : Int) (hsi : I64 s) (acts : List Act) (A : Option Addr) (c B : Nat) (w : World) (ha : ActS w B A acts) (hB : B ≤ w.heap.size) (hl : acts.length ≤ 4398046511104) (hok : ∀ x ∈ acts, x.OK) (hv : K.V w) :
    Calls Tryd.prog 7 #[.int .i64 n, .slice A acts.length c, .int .i64 s] w fun e w' => e = .returned (.bool true) ∧ Below w.heap.size w w' := by
  have HA := Lib.hid ha
  have HOK := Lib.hid hok
  have HN := Lib.hid hn
  have HV := Lib.hid hv
  have SI := Lib.hid hsi
  clear ha hok hn hv hsi
  go_enter Tryd.func7, Tryd.ntmps7
  go_wp2_with fail
  refine (sanity_any K _ HV.out).mono ?_
  rintro e w1 ⟨rfl, hb⟩
  have B1 := Lib.hid hb
  clear hb
  go_wp2_with fail
  have LZ0 := Lib.hid (show Lz w1 ((w1.alloc (.cells zeroTree 60)).alloc (.cells #[.pointer none, .pointer (some ⟨w1.heap.size, 0, none⟩)] 24)) w1.heap.size from
    ⟨(Bk.new w1 _ _).alloc _, (by have := Bk.new (w1.alloc (.cells zeroTree 60)) #[.pointer none, .pointer (some ⟨w1.heap.size, 0, none⟩)] 24; rw [World.size_alloc] at this; exact this),
      ((Below.refl _ w1).alloc (Nat.le_refl _) _).alloc (by simp) _⟩)
  go_loopw [32] (fun i wr => ∃ k : Nat, k ≤ 2 ∧ i = .int .i64 k ∧ Hid (Lz w1 wr w1.heap.size)) (fun i _ => 2 - (intOf i).toNat)
  case atStart => exact ⟨0, by omega, rfl, LZ0⟩
  case round =>
    obtain ⟨k, hk, rfl, hz⟩ := hrel
    by_cases hlt : k < 2
    · obtain ⟨vv, cv, nt⟩ := hz.out.at_k hlt
      have LZ := Lib.hid (show Lv w1 wr w1.heap.size vv from ⟨hz.out, nt⟩)
      have hk2 : (k : Int) < 2 := by omega
      clear nt hz LZ0
      go_wp2_with fail
      refine (Z.add _ vv s ⟨#[120]⟩ LZ.out.nt SI.out (by unfold maxLen; decide)).mono ?_
      rintro e wa ⟨rfl, hb⟩
      replace LZ := Lib.hid (LZ.out.low hb)
      clear hb
      go_wp2_with fail
      refine (Z.split _ vv s LZ.out.nt SI.out).mono ?_
      rintro e wb ⟨rfl, hb⟩
      replace LZ := Lib.hid (LZ.out.low hb)
      clear hb
      go_wp2_with fail
      refine (Z.slot _ vv s ⟨#[120]⟩ LZ.out.nt SI.out (by unfold maxLen; decide)).mono ?_
      rintro e wc ⟨rfl, hb⟩
      replace LZ := Lib.hid (LZ.out.low hb)
      clear hb
      go_wp2_with fail
      refine (Z.find _ vv LZ.out.nt).mono ?_
      rintro e wd ⟨rfl, hb⟩
      replace LZ := Lib.hid (LZ.out.low hb)
      clear hb
      go_wp2_with fail
      refine (Z.make _ vv LZ.out.nt).mono ?_
      rintro e we ⟨rfl, hb⟩
      replace LZ := Lib.hid (LZ.out.low hb)
      clear hb
      go_wp2_with fail
      refine (Z.merge _ vv s LZ.out.nt SI.out).mono ?_
      rintro e wf ⟨rfl, hb⟩
      replace LZ := Lib.hid (LZ.out.low hb)
      clear hb
      go_wp2_with fail
      refine (Z.root _ vv LZ.out.nt).mono ?_
      rintro e wg ⟨rfl, hb⟩
      replace LZ := Lib.hid (LZ.out.low hb)
      clear hb
      go_wp2_with fail
      refine (Z.cls _ vv s LZ.out.nt SI.out).mono ?_
      rintro e wh ⟨rfl, hb⟩
      replace LZ := Lib.hid (LZ.out.low hb)
      clear hb
      go_wp2_with fail
      refine (Z.canon _ vv s LZ.out.nt SI.out).mono ?_
      rintro e wi ⟨rfl, hb⟩
      replace LZ := Lib.hid (LZ.out.low hb)
      clear hb
      go_wp2_with fail
      refine (Z.names _ vv s LZ.out.nt SI.out).mono ?_
      rintro e wj ⟨A1, k1, rfl, hb⟩
      replace LZ := Lib.hid (LZ.out.low hb)
      clear hb
      go_wp2_with fail
      refine (Z.count _ vv LZ.out.nt).mono ?_
      rintro e wk ⟨rfl, hb⟩
      replace LZ := Lib.hid (LZ.out.low hb)
      clear hb
      go_wp2_with fail
      refine (Z.text _ vv LZ.out.nt).mono ?_
      rintro e wl ⟨rfl, hb⟩
      replace LZ := Lib.hid (LZ.out.low hb)
      clear hb
      go_wp2_with fail
      go_roundw
      case rel => exact ⟨k + 1, by omega, by go_num, Lib.hid LZ.out.z⟩
      case measure => simp [intOf]; omega
    · obtain rfl : k = 2 := by omega
      have B2 := Lib.hid (B1.out.trans (hz.out.bl.mono B1.out.size))
      have BL := Lib.hid hz.out.bl
      clear hz LZ0
      go_wp2_with fail
      refine (played_any K n HN.out acts A c B _ (HA.out.below B2.out hB) (by have := B2.out.size; omega) hl HOK.out (K.vkeep HV.out B2.out)).mono ?_
      rintro e w2 ⟨p, F, rfl, hs⟩
      have IN := Lib.hid (playT_inv (acts.take 60) (cls_inv n))
      have HS := Lib.hid (show Tr K w1 w2 p _ F from ⟨hs.h, BL.out.trans (hs.b.mono BL.out.size), fun b hb => Nat.le_trans BL.out.size (hs.f b hb), K.vkeep HV.out B1.out⟩)
      have FL := (clsOf_len n).1
      clear hs
      generalize playT (newT (clsOf n)) (acts.take 60) = t at *
      obtain ⟨N, hN⟩ : ∃ N, t.L.length = N := ⟨_, rfl⟩
      have N2 : N ≤ 200 := by rw [← hN]; exact IN.out.ok.wf.few
      have LN := Lib.hid hN
      have W := Lib.hid IN.out.ok.wf
      have NE := Lib.hid (L_ne IN.out (by omega))
      have NQ := Lib.hid (show ∀ s, ∀ x ∈ (t.sh s).names, x.size ≤ 1 from fun s x hx => nameL_size x (IN.out.ok.q s x hx))
      obtain ⟨tx, htx⟩ : ∃ tx : ByteArray, t.text = tx.data.toList := ⟨⟨t.text.toArray⟩, by simp⟩
      have TX := Lib.hid htx
      clear hN htx
      go_wp2_with fail
      refine (text_at HS.out W.out NE.out NQ.out TX.out).mono ?_
      rintro e w3 ⟨rfl, h, _⟩
      have HS2 := Lib.hid h
      clear h HS
      go_wp2_with fail
      go_loopw [23] (fun i wi => ∃ j : Nat, j ≤ N ∧ i = .int .i64 j ∧ Hid (Tr K w1 wi p t F)) (fun i _ => N - (intOf i).toNat)
      case atStart => exact ⟨0, by omega, rfl, HS2⟩
      case round =>
        clear HS2
        obtain ⟨j, hj, rfl, hs⟩ := hrel
        by_cases hlt : j < N
        · have jl : j < t.L.length := by rw [LN.out]; exact hlt
          have JI := Lib.hid (nat64' hlt N2)
          have RN := Lib.hid (namesI_nat jl)
          have l6 := names_len' IN.out j
          obtain ⟨ns, hns⟩ : ∃ ns, (t.sh j).names = ns := ⟨_, rfl⟩
          rw [hns] at RN l6
          clear jl hns
          go_wp2_with fail
          refine (count_at hs.out W.out LN.out).mono ?_
          rintro e w4 ⟨rfl, h, hb⟩
          replace hs := Lib.hid h
          clear h hb
          go_wp2_with fail
          refine (names_own_at hs.out W.out JI.out RN.out).mono ?_
          rintro e w5 ⟨v, rfl, ho, h, hb⟩
          obtain ⟨A2, k2, rfl, hform⟩ := ho.slot
          have HO := Lib.hid (show ∃ xs, w5.ownsRow w4.heap.size 9 1 (.slice A2 ns.length k2) ns.length xs from ⟨_, ho⟩)
          have HF := Lib.hid hform
          have NF := Lib.hid (show ∀ b, w4.heap.size ≤ b → ¬ F b ∧ w1.heap.size ≤ b from fun b hb => ⟨fun e => by have := K.lt hs.out.h b e; omega, by have := hs.out.b.size; omega⟩)
          have HT := Lib.hid h
          clear ho h hb hs hform
          go_wp2_with fail
          go_loopw [25, 137] (fun _ i wx => ∃ k : Nat, k ≤ ns.length ∧ i = .int .i64 k ∧ Hid (∃ xs, wx.ownsRow w4.heap.size 9 1 (.slice A2 ns.length k2) ns.length xs) ∧ Hid (Tr K w1 wx p t F)) (fun _ i _ => ns.length - (intOf i).toNat)
          case atStart => exact ⟨0, by omega, rfl, HO, HT⟩
          case round =>
            clear HO HT
            obtain ⟨k, hk, rfl, ho, ht⟩ := hrel
            by_cases hlt2 : k < ns.length
            · obtain ⟨g, rfl, hg⟩ := HF.out (by omega)
              obtain ⟨xs, ho⟩ := ho.out
              have hx : k < xs.length := by rw [ho.1]; omega
              have c0 := World.ownsRow.cellAt ho k (by omega)
              rw [List.getElem?_eq_getElem hx] at c0
              have f0 := World.ownsRow.frozenAt ho k
              have ST := Lib.hid (World.ownsRow.stored ho k (.string ⟨#[99, 104, 97, 110, 103, 101, 100]⟩))
              have ki : (k : Int) < ns.length := by omega
              have R2 := Lib.hid (ht.out.turned2 ST.out.2 (fun b hb => by injection hb with hb; subst hb; exact NF.out _ hg))
              have R1 := Lib.hid (show ∃ ys, _ from ⟨_, ST.out.1⟩)
              generalize xs[k] = x0 at c0
              clear ST ho ht hx
              go_wp2_with fail
              go_roundw
              case rel => exact ⟨k + 1, by omega, by go_num, R1, R2⟩
              case measure => simp [intOf]; omega
            · obtain rfl : k = ns.length := by omega
              go_wp2_with fail
              go_roundw
              case rel => exact ⟨j + 1, by omega, by go_num, ht⟩
              case measure => simp [intOf]; omega
        · obtain rfl : j = N := by omega
          go_wp2_with fail
          refine (count_at hs.out W.out LN.out).mono ?_
          rintro e w4 ⟨rfl, h, hb⟩
          replace hs := Lib.hid h
          clear h hb
          go_wp2_with fail
          refine (text_at hs.out W.out NE.out NQ.out TX.out).mono ?_
          rintro e w5 ⟨rfl, h, _⟩
          replace hs := Lib.hid h
          clear h
          go_wp2_with fail
          go_ret
          exact ⟨by simp, B1.out.trans (hs.out.b.mono B1.out.size)⟩
end Go.Proofs.YtnapfhnmccpffaaDoor.Sh
