/-
  The law's examples (sanity).
-/
import Derived.Test.YtkdpcnikgdbmaaaGreatDoorIi
namespace Go.Proofs.YtkdpcnikgdbmaaaGreatDoor.Hp
open Go Go.RowKit Go.Maps Go.Sort Go.Shelf Va

def f0 : Int → Hd := fun _ => ⟨0, .slice none 0 0, .slice none 0 0⟩
theorem st_new (w : World) (hB : Bnds w) : Calls Tryz.prog 31 #[] w fun e w' => e = .returned (.pointer (some ⟨w.heap.size, 0, none⟩)) ∧ Hid (St w w' w.heap.size [] 0) := by
  refine (new_any f0 w).mono ?_
  rintro e w' ⟨rfl, hh⟩
  exact ⟨rfl, Lib.hid ⟨_, none, f0, hh.out.1, fun g hg => by
    rcases hg with hg | hg
    · exact hg.elim
    · exact hg, hh.out.2, hB⟩⟩
def bsx : ByteArray := ⟨#[120]⟩
def bsy : ByteArray := ⟨#[121]⟩
def bsz : ByteArray := ⟨#[122]⟩
def c1 : Cel := ⟨1, 0, 0, 0, [bsx], [nilVal]⟩
def c2 : Cel := ⟨1, 0, 0, 0, [bsx], [⟨3, 5, ⟨#[]⟩⟩]⟩
def c3 : Cel := ⟨1, 0, 0, 0, [bsx, bsy], [⟨3, 5, ⟨#[]⟩⟩, ⟨2, 1, ⟨#[]⟩⟩]⟩
def c4 : Cel := ⟨4, 0, 0, 0, [], [⟨5, 0, ⟨#[]⟩⟩]⟩
def c5 : Cel := ⟨4, 0, 0, 0, [], [nilVal]⟩
theorem one_name {w : World} {b : Nat} {x : ByteArray} {T : TypeId} (h : Bk w b #[.string x] T) (P : Nat → Prop) (hP : P b) : SlS w P (some ⟨b, 0, none⟩) [x] := by
  intro j v hj
  rcases j with _ | j
  · obtain rfl : x = v := by simpa using hj
    exact ⟨b, 0, rfl, hP, h.cell 0 _ rfl⟩
  · simp at hj
theorem no_names (w : World) (P : Nat → Prop) : SlS w P none [] := fun j v h => by cases h
theorem okay34 : Okay [(0, c3), (1, c4)] := ⟨fun i hi => by
    simp [ids] at hi
    rcases hi with rfl | rfl <;> (unfold I64; decide), fun e he v hv => by
    simp at he
    rcases he with rfl | rfl
    · simp [c3] at hv
      rcases hv with rfl | rfl <;> (unfold Val.Fits I64 maxLen; decide)
    · simp [c4] at hv
      subst hv; unfold Val.Fits I64 maxLen; decide, fun e he => by
    simp at he
    rcases he with rfl | rfl <;> decide, by decide⟩
theorem reach34 {r : List Int} (h1 : r.Pairwise (· < ·)) (h2 : ∀ i, i ∈ r ↔ Rea [(0, c3), (1, c4)] false [⟨5, 1, ⟨#[]⟩⟩] i) : r = [1] := by
  refine sorted_ext h1 (by simp) fun i => ?_
  rw [h2]
  constructor
  · intro h
    induction h with
    | root hv _ => simp at hv; subst hv; simp
    | step _ hl hv _ ih =>
      simp at ih; subst ih
      have : look [(0, c3), (1, c4)] 1 = some c4 := by kernel_rfl
      rw [this] at hl
      obtain rfl := Option.some.inj hl
      simp [kids, c4] at hv
  · intro h
    simp at h; subst h
    exact Rea.root (v := ⟨5, 1, ⟨#[]⟩⟩) (c := c4) (by simp) (by kernel_rfl)
theorem lit_int {w : World} {b : Nat} {i : Int} {T : TypeId} (h : Bk w b #[.int .i64 i] T) (P : Nat → Prop) (hP : P b) : IntsAt w P (some ⟨b, 0, none⟩) [i] := by
  intro j v hj
  rcases j with _ | j
  · obtain rfl : i = v := by simpa using hj
    exact ⟨b, rfl, hP, h.cell 0 _ rfl⟩
  · simp at hj
theorem ids_row {w w' : World} {base n : Nat} {A : Option Addr} {c : Nat} {r : List Int} (h : IdsAt w base (.slice A n c) r) (hb : Below w.heap.size w w') : IntsAt w' (fun g => (Value.slice A n c).ownBlock = some g) A r := by
  have h2 : IdsAt w' base (.slice A n c) r := own_same h fun g hg => hb.block g (own_nblk h hg)
  obtain ⟨A', c', e, h3⟩ := h2.ints
  injection e with e1 e2 e3
  rw [← e1] at h3
  exact h3
theorem keep34 : cleanL (goneL [1] [(0, c3), (1, c4)]) (dropL (goneL [1] [(0, c3), (1, c4)]) [(0, c3), (1, c4)]) = [(1, c5)] := by kernel_rfl
theorem gone34 : goneL [1] [(0, c3), (1, c4)] = [0] := by kernel_rfl
theorem St.down1 {w0 w w' : World} {p : Nat} {l : List Ent} {next : Int} (h : St w0 w p l next) (o : Obj) (hb : Below (w.alloc o).heap.size (w.alloc o) w') : St w0 w' p l next :=
  h.down (((Below.refl _ w).alloc (Nat.le_refl _) o).trans (hb.mono (by simp)))
theorem St.down2 {w0 w w' : World} {p : Nat} {l : List Ent} {next : Int} (h : St w0 w p l next) (o o' : Obj) (hb : Below ((w.alloc o).alloc o').heap.size ((w.alloc o).alloc o') w') : St w0 w' p l next :=
  h.down ((((Below.refl _ w).alloc (Nat.le_refl _) o).alloc (by simp) o').trans (hb.mono (by simp; omega)))
set_option maxRecDepth 100000 in
set_option maxHeartbeats 4000000 in
theorem sanity_any (w : World) (hB : Bnds w) :
    Calls Tryz.prog 9 #[] w fun e w' => e = .returned (.bool true) ∧ Below w.heap.size w w' := by
  have NW := Lib.hid (st_new w hB)
  have e1 : operF [(0, c3)] 2 ⟨5, 0, ⟨#[]⟩⟩ [⟨3, 0, ⟨#[]⟩⟩] = sType := by kernel_rfl
  have e2 : operF [(0, c3)] 1 nilVal [] = sType := by kernel_rfl
  clear hB
  go_enter Tryz.func9, Tryz.ntmps9
  go_wp2_with fail
  refine NW.out.mono ?_
  rintro e w1 ⟨rfl, hh⟩
  have S1 := Lib.hid hh.out
  clear hh NW
  generalize w.heap.size = p at *
  go_wp2_with fail
  refine (st_alloc w w1 _ (fun b => w1.heap.size ≤ b ∧ b < w1.heap.size + 2) p [] 0 c1 (some ⟨w1.heap.size, 0, none⟩) (some ⟨w1.heap.size + 1, 0, none⟩) 1 1 1 1 S1.out (((Below.refl _ w1).alloc (Nat.le_refl _) _).alloc (by simp) _) (fun e he => by cases he) (by omega) (by omega) rfl rfl (one_name (T := 9) ((Bk.new w1 _ _).alloc _) _ (by omega)) (one_vals (x := nilVal) (Bk.new2 w1 _ _ 64) _ (by omega)) (fun b hb => by simp; omega) (by omega) (by omega) (fun s hs => by simp [c1] at hs; subst hs; unfold bsx maxLen; decide) (fun v hv => by simp [c1] at hv; subst hv; unfold nilVal Val.Fits I64 maxLen; decide) (by decide) (by decide)).mono ?_
  rintro e w2 ⟨rfl, hh⟩
  have S2 := Lib.hid (show St w w2 p [(0, c1)] 1 from hh.out)
  clear hh S1
  go_wp2_with fail
  refine (lawRef_any 0 _).mono ?_
  rintro e w3 ⟨rfl, hb⟩
  have S3 : Hid (St w w3 p [(0, c1)] 1) := Lib.hid (by first | exact S2.out.down hb | exact S2.out.down1 _ hb | exact S2.out.down2 _ _ hb)
  clear hb S2
  go_wp2_with fail
  refine (lawNum_any 5 _).mono ?_
  rintro e w4 ⟨rfl, hb⟩
  have S4 : Hid (St w w4 p [(0, c1)] 1) := Lib.hid (by first | exact S3.out.down hb | exact S3.out.down1 _ hb | exact S3.out.down2 _ _ hb)
  clear hb S3
  go_wp2_with fail
  refine (st_set_item w w4 p [(0, c1)] 1 ⟨5, 0, ⟨#[]⟩⟩ ⟨3, 5, ⟨#[]⟩⟩ bsx 0 c1 S4.out (by unfold I64; decide) rfl (by decide) (by simp) rfl (by decide) (by decide) (by decide)).mono ?_
  rintro e w5 ⟨rfl, hh⟩
  have S5 := Lib.hid (show St w w5 p [(0, c2)] 1 from hh.out)
  clear hh S4
  go_wp2_with fail
  refine (lawRef_any 0 _).mono ?_
  rintro e w6 ⟨rfl, hb⟩
  have S6 : Hid (St w w6 p [(0, c2)] 1) := Lib.hid (by first | exact S5.out.down hb | exact S5.out.down1 _ hb | exact S5.out.down2 _ _ hb)
  clear hb S5
  go_wp2_with fail
  refine (st_set_add w w6 p [(0, c2)] 1 ⟨5, 0, ⟨#[]⟩⟩ ⟨2, 1, ⟨#[]⟩⟩ bsy c2 S6.out (by unfold I64; decide) rfl (by decide) (by simp) rfl (by decide) (by decide) (by unfold bsy; rw [ByteArray.toList_eq]; rfl) (by decide)).mono ?_
  rintro e w7 ⟨rfl, hh⟩
  have S7 := Lib.hid (show St w w7 p [(0, c3)] 1 from hh.out)
  clear hh S6
  go_wp2_with fail
  refine (st_cell w w7 p [(0, c3)] 1 0 c3 S7.out (by unfold I64; decide) (by simp) (by decide) (by decide)).mono ?_
  rintro e w8 ⟨D, d, E, e', rfl, hh⟩
  have S8 := Lib.hid (S7.out.down hh.out.2)
  clear hh S7
  dsimp only [celV, c3, List.length_cons, List.length_nil, Nat.zero_add, Nat.reduceAdd]
  go_wp2_with fail
  refine (size_any 1 0 0 0 _ E 2 e' (by omega) _).mono ?_
  rintro e w9 ⟨he, hb⟩
  rw [show (16 + 8 * ((2 : Nat) : Int)) = 32 from rfl] at he
  subst he
  have KC := Lib.hid ((Bk.new w8 _ 46).below hb (by simp))
  have S9 := Lib.hid (S8.out.down (((Below.refl _ w8).alloc (Nat.le_refl _) _).trans (hb.mono (by simp))))
  have k5 := KC.out.cell 5 (.slice E 2 e') rfl
  clear hb S8
  go_wp2_with fail
  clear k5 KC
  refine (lawRef_any 0 _).mono ?_
  rintro e w10 ⟨rfl, hb⟩
  have S10 : Hid (St w w10 p [(0, c3)] 1) := Lib.hid (by first | exact S9.out.down hb | exact S9.out.down1 _ hb | exact S9.out.down2 _ _ hb)
  clear hb S9
  go_wp2_with fail
  refine (st_getf_none w w10 p [(0, c3)] 1 ⟨5, 0, ⟨#[]⟩⟩ bsz c3 S10.out (by unfold I64; decide) rfl (by simp) rfl (by decide) (by decide)).mono ?_
  rintro e w11 ⟨rfl, hb⟩
  have S11 : Hid (St w w11 p [(0, c3)] 1) := Lib.hid (by first | exact S10.out.down hb | exact S10.out.down1 _ hb | exact S10.out.down2 _ _ hb)
  clear hb S10
  dsimp only [valV, sField, sType]
  go_wp2_with fail
  refine (lawRef_any 0 _).mono ?_
  rintro e w12 ⟨rfl, hb⟩
  have S12 : Hid (St w w12 p [(0, c3)] 1) := Lib.hid (by first | exact S11.out.down hb | exact S11.out.down1 _ hb | exact S11.out.down2 _ _ hb)
  clear hb S11
  go_wp2_with fail
  refine (lawNum_any 0 _).mono ?_
  rintro e w13 ⟨rfl, hb⟩
  have S13 : Hid (St w w13 p [(0, c3)] 1) := Lib.hid (by first | exact S12.out.down hb | exact S12.out.down1 _ hb | exact S12.out.down2 _ _ hb)
  clear hb S12
  go_wp2_with fail
  have AT := st_at_bad w w13 p [(0, c3)] 1 ⟨5, 0, ⟨#[]⟩⟩ ⟨3, 0, ⟨#[]⟩⟩ S13.out (by unfold I64; decide) (fun e => by have := e1.symm.trans e; cases this)
  rw [e1] at AT
  refine AT.mono ?_
  clear AT
  rintro e w14 ⟨rfl, hb⟩
  have S14 : Hid (St w w14 p [(0, c3)] 1) := Lib.hid (by first | exact S13.out.down hb | exact S13.out.down1 _ hb | exact S13.out.down2 _ _ hb)
  clear hb S13
  dsimp only [valV, sField, sType]
  go_wp2_with fail
  have GT := fun (w' : World) (h : St w w' p [(0, c3)] 1) => st_getf_bad w w' p [(0, c3)] 1 nilVal bsx h (by unfold I64; decide) (fun e => by have := e2.symm.trans e; cases this)
  rw [e2] at GT
  refine (GT _ (by first | exact S14.out | exact S14.out.down ((Below.refl _ _).alloc (Nat.le_refl _) _) | exact S14.out.down (((Below.refl _ _).alloc (Nat.le_refl _) _).alloc (by simp) _))).mono ?_
  clear GT
  rintro e w15 ⟨rfl, hb⟩
  have S15 : Hid (St w w15 p [(0, c3)] 1) := Lib.hid (by first | exact S14.out.down hb | exact S14.out.down1 _ hb | exact S14.out.down2 _ _ hb)
  clear hb S14
  dsimp only [valV, sField, sType]
  go_wp2_with fail
  refine (lawRef_any 0 _).mono ?_
  rintro e w16 ⟨rfl, hb⟩
  have S16 : Hid (St w w16 p [(0, c3)] 1) := Lib.hid (by first | exact S15.out.down hb | exact S15.out.down1 _ hb | exact S15.out.down2 _ _ hb)
  clear hb S15
  dsimp only [valV, sField, sType]
  go_wp2_with fail
  refine (st_alloc w w16 _ (fun b => b = w16.heap.size) p [(0, c3)] 1 c4 none (some ⟨w16.heap.size, 0, none⟩) 0 0 1 1 S16.out ((Below.refl _ w16).alloc (Nat.le_refl _) _) (fun e he => by simp at he; subst he; decide) (by omega) (by omega) rfl rfl (no_names _ _) (one_vals (x := ⟨5, 0, ⟨#[]⟩⟩) (Bk.new w16 _ 64) _ rfl) (fun b hb => by subst hb; simp) (by omega) (by omega) (fun s hs => by simp [c4] at hs) (fun v hv => by simp [c4] at hv; subst hv; unfold Val.Fits I64 maxLen; decide) (by decide) (by decide)).mono ?_
  rintro e w17 ⟨rfl, hh⟩
  have S17 := Lib.hid (show St w w17 p [(0, c3), (1, c4)] 2 from hh.out)
  clear hh S16
  go_wp2_with fail
  refine (lawRef_any 1 _).mono ?_
  rintro e w18 ⟨rfl, hb⟩
  have S18 : Hid (St w w18 p [(0, c3), (1, c4)] 2) := Lib.hid (by first | exact S17.out.down hb | exact S17.out.down1 _ hb | exact S17.out.down2 _ _ hb)
  clear hb S17
  dsimp only [valV, sField, sType]
  go_wp2_with fail
  have OK := Lib.hid okay34
  refine (st_reach w _ (fun b => b = w18.heap.size) p [(0, c3), (1, c4)] 2 [⟨5, 1, ⟨#[]⟩⟩] (some ⟨w18.heap.size, 0, none⟩) 1 1 (S18.out.down ((Below.refl _ w18).alloc (Nat.le_refl _) _)) OK.out rfl (by omega) (fun v hv => by simp at hv; subst hv; unfold I64; decide) (one_vals (x := ⟨5, 1, ⟨#[]⟩⟩) (Bk.new w18 _ 64) _ rfl) (fun b hb => by subst hb; simp)).mono ?_
  rintro e w19 ⟨v, r, rfl, hh⟩
  obtain ⟨r1, r2, r3, r4⟩ := hh.out
  obtain rfl : r = [1] := reach34 r1 r2
  have B19 := Lib.hid (((Below.refl _ w18).alloc (Nat.le_refl _) _).trans (r4.mono (by simp)))
  have I19 := Lib.hid r3
  obtain ⟨A3, k3, rfl, hI3⟩ := r3.ints
  have O19 := Lib.hid (fun (g : Nat) (h : (Value.slice A3 [(1 : Int)].length k3).ownBlock = some g) => World.ownsRow.lt I19.out g h)
  clear hh r1 r2 r3 r4
  go_wp2_with fail
  refine (st_keep w w18 w19 (fun g => (Value.slice A3 [(1 : Int)].length k3).ownBlock = some g) p [(0, c3), (1, c4)] 2 [1] A3 1 k3 S18.out B19.out OK.out (by simp) rfl (by omega) (fun i hi => by simp at hi; subst hi; unfold I64; decide) hI3 (fun g hg => ⟨by have := (O19.out g hg).1; simp at this; omega, (O19.out g hg).2⟩)).mono ?_
  rintro e w20 ⟨v2, rfl, hh⟩
  obtain ⟨q1, q2, q3⟩ := hh.out
  have S20 := Lib.hid (show St w w20 p [(1, c5)] 2 by rw [← keep34]; exact q2)
  have I20 := Lib.hid (show IdsAt w20 w19.heap.size v2 [0] by rw [← gone34]; exact q1)
  have J20 := Lib.hid (show IdsAt w20 0 (.slice A3 [(1 : Int)].length k3) [1] from own_mono (own_same I19.out fun g hg => q3 g (by have := (O19.out g hg).1; simp at this; omega) (O19.out g hg).2) (Nat.zero_le _))
  clear hh q1 q2 q3 hI3 S18 I19 O19 B19 OK
  obtain ⟨A4, k4, rfl, -⟩ := I20.out.ints
  go_wp2_with fail
  refine (lawRef_any 1 _).mono ?_
  rintro e w21 ⟨rfl, hb⟩
  have S21 : Hid (St w w21 p [(1, c5)] 2) := Lib.hid (S20.out.down hb)
  have B21 := Lib.hid hb
  clear hb S20
  go_wp2_with fail
  refine (st_deref w w21 p [(1, c5)] 2 ⟨5, 1, ⟨#[]⟩⟩ nilVal c5 S21.out (by unfold I64; decide) rfl (by simp) rfl rfl).mono ?_
  rintro e w22 ⟨rfl, hb⟩
  have S22 : Hid (St w w22 p [(1, c5)] 2) := Lib.hid (S21.out.down hb)
  have B22 := Lib.hid (B21.out.trans (hb.mono B21.out.size))
  clear hb S21 B21
  dsimp only [valV, nilVal]
  go_wp2_with fail
  refine (lawRef_any 1 _).mono ?_
  rintro e w23 ⟨rfl, hb⟩
  have S23 : Hid (St w w23 p [(1, c5)] 2) := Lib.hid (S22.out.down1 _ hb)
  have K23 := Lib.hid ((Bk.new w22 _ 64).below hb (by simp))
  have B23 := Lib.hid (B22.out.trans ((((Below.refl _ w22).alloc (Nat.le_refl _) _).trans (hb.mono (by simp))).mono B22.out.size))
  clear hb S22 B22
  go_wp2_with fail
  refine (st_show_weak w w23 p [(1, c5)] 2 ⟨5, 1, ⟨#[]⟩⟩ c5 _ _ S23.out (by unfold I64; decide) rfl (by simp) rfl).mono ?_
  rintro e w24 ⟨rfl, hb⟩
  have S24 : Hid (St w w24 p [(1, c5)] 2) := Lib.hid (S23.out.down hb)
  have K24 := Lib.hid (K23.out.below hb K23.out.lt)
  have B24 := Lib.hid (B23.out.trans (hb.mono B23.out.size))
  clear hb S23 B23 K23
  dsimp only [sAngled]
  go_wp2_with fail
  refine (lawText_any _ _).mono ?_
  rintro e w25 ⟨rfl, hb⟩
  have S25 : Hid (St w w25 p [(1, c5)] 2) := Lib.hid (S24.out.down hb)
  have K25 := Lib.hid (K24.out.below hb K24.out.lt)
  have B25 := Lib.hid (B24.out.trans (hb.mono B24.out.size))
  clear hb S24 B24 K24
  go_wp2_with fail
  refine (show_str _ _ _ _ _ _).mono ?_
  rintro e w26 ⟨rfl, hb⟩
  have S26 : Hid (St w w26 p [(1, c5)] 2) := Lib.hid (S25.out.down hb)
  have K26 := Lib.hid (K25.out.below hb K25.out.lt)
  have B26 := Lib.hid (B25.out.trans (hb.mono B25.out.size))
  clear hb S25 B25 K25
  go_wp2_with fail
  refine (ints_any _ (fun _ => True) A3 _ [1] [1] 1 k3 1 1 _ rfl rfl (ids_row J20.out (B26.out.alloc B26.out.size _)) (lit_int (Bk.new w26 _ 3) _ trivial) (by omega) (by omega)).mono ?_
  rintro e w27 ⟨rfl, hb⟩
  rw [show decide (([1] : List Int) = [1]) = true from rfl]
  have S27 : Hid (St w w27 p [(1, c5)] 2) := Lib.hid (S26.out.down1 _ hb)
  have K27 := Lib.hid ((K26.out.alloc _).below hb (K26.out.alloc _).lt)
  have B27 := Lib.hid (B26.out.trans ((((Below.refl _ w26).alloc (Nat.le_refl _) _).trans (hb.mono (by simp))).mono B26.out.size))
  clear hb S26 B26 K26
  go_wp2_with fail
  refine (ints_any _ (fun _ => True) A4 _ [0] [0] 1 k4 1 1 _ rfl rfl (ids_row I20.out (B27.out.alloc B27.out.size _)) (lit_int (Bk.new w27 _ 3) _ trivial) (by omega) (by omega)).mono ?_
  rintro e w28 ⟨rfl, hb⟩
  rw [show decide (([0] : List Int) = [0]) = true from rfl]
  have S28 : Hid (St w w28 p [(1, c5)] 2) := Lib.hid (S27.out.down1 _ hb)
  have K28 := Lib.hid ((K27.out.alloc _).below hb (K27.out.alloc _).lt)
  have k0 := K28.out.cell 0 _ rfl
  clear hb S27 B27 K27 I20 J20
  go_wp2_with fail
  go_ret
  exact ⟨rfl, S28.out.below⟩
end Go.Proofs.YtkdpcnikgdbmaaaGreatDoor.Hp
