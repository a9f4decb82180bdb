/-
  What the reference does; both trees, apart.
  The reference's Do, over what its Add and Split do.
-/
import Derived.Test.YtjodmjadpooipaaGreatDoorTf
import Derived.Test.YtjodmjadpooipaaGreatDoorTe
import Derived.Deep.RegionLaw
import Derived.Deep.RegionHeld3
namespace Go.Proofs.YtjodmjadpooipaaGreatDoor.Sh
open Go Go.RowKit

/-- What the reference does (its parts that turn a tree). -/
structure RefKit : Prop where
  new : ∀ (w : World) (A : Option Addr) (fl : List (List ByteArray)) (c : Nat), Cls w w.heap.size A fl → fl.length ≤ 12 → (∀ ns ∈ fl, ns.length ≤ 64) → 0 < fl.length →
    Calls Tryz.prog 6 #[.slice A fl.length c] w fun e w' => ∃ q G, e = .returned (.pointer (some ⟨q, 0, none⟩)) ∧ RefH w' q (newT fl) G ∧ Below w.heap.size w w' ∧ ∀ b, G b → w.heap.size ≤ b
  doo : ∀ (w : World) (q : Nat) (t : Tre) (G : Nat → Prop) (fl : List (List ByteArray)) (x : Act), RefH w q t G → Inv fl t → Srt t → x.OK →
    Calls Tryz.prog 8 #[.pointer (some ⟨q, 0, none⟩), .agg #[.int .i64 x.what, .int .i64 x.a, .int .i64 x.b, .int .i64 x.nm]] w (RefTo w q G (doT t x ((t.L.length : Int) + 1)).2 (mkV (doT t x ((t.L.length : Int) + 1)).1))
/-- Both trees, apart. -/
structure Tw (K : Kit) (w0 w : World) (p : Nat) (t : Tre) (F : Nat → Prop) (q : Nat) (u : Tre) (G : Nat → Prop) : Prop where
  a : Tr K w0 w p t F
  r : RefH w q u G
  g : ∀ b, G b → w0.heap.size ≤ b
  d : ∀ b, G b → ¬ F b
section
variable {K : Kit} {w0 w w' : World} {p q : Nat} {t t' u u' : Tre} {F F' G G' : Nat → Prop}
theorem Tw.low (h : Tw K w0 w p t F q u G) (hb : Below w.heap.size w w') : Tw K w0 w' p t F q u G := ⟨h.a.below hb, h.r.below hb, h.g, h.d⟩
theorem Tw.drewN (h : Tw K w0 w p t F q u G) (n : Nat) : Tw K w0 (w.drewN n) p t F q u G := ⟨h.a.drewN n, h.r.keep fun _ _ => rfl, h.g, h.d⟩
theorem Tw.drew (h : Tw K w0 w p t F q u G) : Tw K w0 w.drew p t F q u G := h.drewN 1
theorem Tw.code (h : Tw K w0 w p t F q u G) (h' : K.H w' p t' F') (c : Chg F w w') (s : Sub F F' w) : Tw K w0 w' p t' F' q u G :=
  ⟨h.a.step h' c s, h.r.keep fun b hb => c.block b (h.r.lt b hb) (h.d b hb), h.g, fun b hb e => (s b e).elim (h.d b hb) (by have := h.r.lt b hb; omega)⟩
theorem Tw.ref (h : Tw K w0 w p t F q u G) (h' : RefH w' q u' G') (c : Chg G w w') (s : Sub G G' w) : Tw K w0 w' p t F q u' G' :=
  ⟨⟨K.keep h.a.h fun b hb => c.block b (K.lt h.a.h b hb) (fun e => h.d b e hb), h.a.b.trans (c.below h.g h.a.b.size), h.a.f, h.a.v⟩, h', fun b hb => (s b hb).elim (h.g b) fun g => Nat.le_trans h.a.b.size g,
    fun b hb e => (s b hb).elim (fun g => h.d b g e) (by have := K.lt h.a.h b e; omega)⟩
end
theorem play_next (t : Tre) (l : List Act) (k : Nat) (h : k < l.length) : playT t (l.take (k + 1)) = (doT (playT t (l.take k)) l[k] (((playT t (l.take k)).L.length : Int) + 1)).2 := play_take t l k h
theorem playT_srt {fl : List (List ByteArray)} (l : List Act) : ∀ {t : Tre}, Inv fl t → Srt t → Srt (playT t l) := by
  induction l with
  | nil => exact fun _ h => h
  | cons x l ih => exact fun h k => ih (do_inv h x _) (srt_do h.ok.wf k x _)
theorem L_ne {fl : List (List ByteArray)} {t : Tre} (h : Inv fl t) (hf : 0 < fl.length) : t.L ≠ [] := by
  have := h.pos hf
  intro e; rw [e] at this; exact Nat.lt_irrefl _ this
theorem mkV_eq (x : Int × Int) : mkV x = .tuple #[.int .i64 x.1, .int .i64 x.2] := rfl
end Go.Proofs.YtjodmjadpooipaaGreatDoor.Sh
namespace Go.Proofs.YtjodmjadpooipaaGreatDoor.Sh
open Go Go.RowKit

def AddDoes : Prop := ∀ (w : World) (p : Nat) (t : Tre) (F : Nat → Prop) (m : Nat) (s : Int) (nm : ByteArray), RefH w p t F → t.WF m → Srt t → (∀ s, (t.sh s).names.length ≤ 200) → I64 s → nm.size ≤ maxLen →
  Calls Tryz.prog 36 #[.pointer (some ⟨p, 0, none⟩), .int .i64 s, .string nm] w (RefTo w p F (t.add s nm).2 (mkV (t.add s nm).1))
def SplitDoes : Prop := ∀ (w : World) (p : Nat) (t : Tre) (F : Nat → Prop) (m : Nat) (a : Int), RefH w p t F → t.WF m → Srt t → (∀ s, (t.sh s).names.length ≤ 200) → I64 a →
  Calls Tryz.prog 33 #[.pointer (some ⟨p, 0, none⟩), .int .i64 a] w (RefTo w p F (t.split a).2 (mkV (t.split a).1))
structure Rt (w0 w : World) (p : Nat) (t : Tre) (F : Nat → Prop) : Prop where
  h : RefH w p t F
  b : Below w0.heap.size w0 w
theorem Rt.below {w0 w w' : World} {p : Nat} {t : Tre} {F : Nat → Prop} (h : Rt w0 w p t F) (hb : Below w.heap.size w w') : Rt w0 w' p t F := ⟨h.h.below hb, h.b.trans (hb.mono h.b.size)⟩
theorem Rt.drewN {w0 w : World} {p : Nat} {t : Tre} {F : Nat → Prop} (h : Rt w0 w p t F) (n : Nat) : Rt w0 (w.drewN n) p t F := ⟨h.h.keep fun _ _ => rfl, h.b.trans ⟨rfl, rfl, rfl, Nat.le_refl _, fun _ _ => rfl⟩⟩
theorem Rt.drew {w0 w : World} {p : Nat} {t : Tre} {F : Nat → Prop} (h : Rt w0 w p t F) : Rt w0 w.drew p t F := h.drewN 1
theorem Rt.alloc {w0 w : World} {p : Nat} {t : Tre} {F : Nat → Prop} (h : Rt w0 w p t F) (o : Obj) : Rt w0 (w.alloc o) p t F := ⟨h.h.keep fun b hb => Below.heap_alloc _ _ _ (h.h.lt b hb), h.b.alloc h.b.size o⟩
theorem RefTo.of {w w1 w' : World} {p : Nat} {t' : Tre} {F F' : Nat → Prop} {v : Value} (hb : Below w.heap.size w w1) (h : RefH w' p t' F') (c : Chg F w1 w') (s : Sub F F' w1) : RefTo w p F t' v (.returned v) w' :=
  ⟨F', rfl, h, (Chg.of_below hb).trans c fun _x hx => .inl hx, fun b hF => (s b hF).imp_right fun h => Nat.le_trans hb.size h⟩
theorem mkV_def (x : Int × Int) : mkV x = .tuple #[.int .i64 x.1, .int .i64 x.2] := rfl
theorem SlS.freeR {w w3 : World} {A : Option Addr} {ns : List ByteArray} {p : Nat} {t : Tre} {F : Nat → Prop} (h : SlS w3 (fun b => w.heap.size ≤ b ∧ b < w3.heap.size) A ns) (hK : RefH w p t F) : SlS w3 (fun b => b < w3.heap.size ∧ ¬ F b) A ns :=
  h.keep fun b hb => ⟨⟨hb.2, fun e => by have := hK.lt b e; omega⟩, rfl⟩
set_option maxHeartbeats 2000000 in
theorem ref_do (AD : AddDoes) (SP : SplitDoes) (w : World) (p : Nat) (t : Tre) (F : Nat → Prop) (fl : List (List ByteArray)) (x : Act) (h : RefH w p t F) (hi : Inv fl t) (hsr : Srt t) (hx : x.OK) :
    Calls Tryz.prog 8 #[.pointer (some ⟨p, 0, none⟩), .agg #[.int .i64 x.what, .int .i64 x.a, .int .i64 x.b, .int .i64 x.nm]] w (RefTo w p F (doT t x ((t.L.length : Int) + 1)).2 (mkV (doT t x ((t.L.length : Int) + 1)).1)) := by
  obtain ⟨n, hnl⟩ : ∃ n, t.L.length = n := ⟨_, rfl⟩
  have hn : n ≤ 200 := by rw [← hnl]; exact hi.ok.wf.few
  have H64 := Lib.hid (show ∀ s, (t.sh s).names.length ≤ 200 from fun s => Nat.le_trans (nodup_len (hi.ok.wf.na s) (hi.ok.q s)) (by decide))
  have HW := Lib.hid hi.ok.wf
  have SRT := Lib.hid hsr
  rw [hnl]
  have LNN := Lib.hid hnl
  clear hi hsr
  obtain ⟨q, a, b, nm⟩ := x
  obtain ⟨⟨q1, q2⟩, ⟨a1, a2⟩, ⟨b1, b2⟩, hnm⟩ := hx
  simp only at q1 q2 a1 a2 b1 b2 hnm
  obtain ⟨N1, N2⟩ := hnm
  have bx1 := xOf_bd a b ((n : Int) + 1) (by omega)
  have bx2 := xOf_bd b a ((n : Int) + 1) (by omega)
  obtain ⟨u1, u2⟩ := bx1
  obtain ⟨u3, u4⟩ := bx2
  obtain ⟨t1, e1, l1, g1, s1, r1, _⟩ := rem_facts a ((n : Int) + 1) (by omega) (by omega)
  obtain ⟨t2, e2, l2, g2, s2, r2, _⟩ := rem_facts b ((n : Int) + 1) (by omega) (by omega)
  have c1 : bits .and .i64 a 1 = a % 2 := and_one a
  have c2 : bits .and .i64 b 1 = b % 2 := and_one b
  have ka1 := Int.emod_nonneg a (show (n : Int) + 1 ≠ 0 by omega)
  have ka2 := Int.emod_lt_of_pos a (show 0 < (n : Int) + 1 by omega)
  have kb1 := Int.emod_nonneg b (show (n : Int) + 1 ≠ 0 by omega)
  have kb2 := Int.emod_lt_of_pos b (show 0 < (n : Int) + 1 by omega)
  have s3 : IntKind.i64.wrap (a % ((n : Int) + 1) - 1) = a % ((n : Int) + 1) - 1 := IntWalk.i64_in _ ⟨by omega, by omega⟩
  have s4 : IntKind.i64.wrap (b % ((n : Int) + 1) - 1) = b % ((n : Int) + 1) - 1 := IntWalk.i64_in _ ⟨by omega, by omega⟩
  have s5 : IntKind.i64.wrap (a % ((n : Int) + 1) - 1 + b % 2) = xOf a b ((n : Int) + 1) := IntWalk.i64_in _ ⟨by omega, by omega⟩
  have s6 : IntKind.i64.wrap (b % ((n : Int) + 1) - 1 + a % 2) = xOf b a ((n : Int) + 1) := IntWalk.i64_in _ ⟨by omega, by omega⟩
  have n0 : ¬ ((n : Int) + 1 = 0) := by omega
  obtain ⟨t7, e7, l7, g7, v7⟩ := tm q 7 (by omega)
  have V7 := Lib.hid v7
  obtain ⟨r7, hr7⟩ : ∃ r, q % 7 = r := ⟨_, rfl⟩
  have v7' : (t7 + 7) % 7 = r7 := by rw [← hr7]; exact v7
  have R7 := Lib.hid hr7
  have NF := Lib.hid (show ¬ F w.heap.size from fun e => Nat.lt_irrefl _ (h.lt _ e))
  have hs := Lib.hid ((Rt.mk h (Below.refl _ _)).alloc (.cells #[.int .i64 q, .int .i64 a, .int .i64 b, .int .i64 nm] 35))
  have d0 : (w.alloc (.cells #[.int .i64 q, .int .i64 a, .int .i64 b, .int .i64 nm] 35)).cell? ⟨w.heap.size, 0, none⟩ = some (.int .i64 q) := (Bk.new w _ _).cell 0 _ rfl
  have d1 : (w.alloc (.cells #[.int .i64 q, .int .i64 a, .int .i64 b, .int .i64 nm] 35)).cell? ⟨w.heap.size, 1, none⟩ = some (.int .i64 a) := (Bk.new w _ _).cell 1 _ rfl
  have d2 : (w.alloc (.cells #[.int .i64 q, .int .i64 a, .int .i64 b, .int .i64 nm] 35)).cell? ⟨w.heap.size, 2, none⟩ = some (.int .i64 b) := (Bk.new w _ _).cell 2 _ rfl
  have d3 : (w.alloc (.cells #[.int .i64 q, .int .i64 a, .int .i64 b, .int .i64 nm] 35)).cell? ⟨w.heap.size, 3, none⟩ = some (.int .i64 nm) := (Bk.new w _ _).cell 3 _ rfl
  have lt0 : w.heap.size < (w.alloc (.cells #[.int .i64 q, .int .i64 a, .int .i64 b, .int .i64 nm] 35)).heap.size := by simp
  obtain ⟨gL, cL, vR, hd, hat⟩ := h
  have e0 := hat.c0
  rw [hnl] at e0
  have pl := hat.hp.lt
  clear hat hnl v7 hr7
  go_enter Tryz.func8, Tryz.ntmps8
  go_wp2_with fail
  generalize w.alloc (.cells #[.int .i64 q, .int .i64 a, .int .i64 b, .int .i64 nm] 35) = w0 at *
  go_quiet (fail)
  have hs1 := Lib.hid (hs.out.drewN nq)
  have d0' : (w0.drewN nq).cell? ⟨w.heap.size, 0, none⟩ = some (.int .i64 q) := d0
  have d1' : (w0.drewN nq).cell? ⟨w.heap.size, 1, none⟩ = some (.int .i64 a) := d1
  have d2' : (w0.drewN nq).cell? ⟨w.heap.size, 2, none⟩ = some (.int .i64 b) := d2
  have d3' : (w0.drewN nq).cell? ⟨w.heap.size, 3, none⟩ = some (.int .i64 nm) := d3
  clear d0 d1 d2 d3 hs
  have d0 := d0'
  have d1 := d1'
  have d2 := d2'
  have d3 := d3'
  have hs := hs1
  clear d0' d1' d2' d3' hs1
  have lt0 : w.heap.size < (w0.drewN nq).heap.size := lt0
  generalize w0.drewN nq = w1 at *
  go_wp2_with fail
  go_quiet (fail)
  have hs1 := Lib.hid (hs.out.drewN nq)
  have d0' : (w1.drewN nq).cell? ⟨w.heap.size, 0, none⟩ = some (.int .i64 q) := d0
  have d1' : (w1.drewN nq).cell? ⟨w.heap.size, 1, none⟩ = some (.int .i64 a) := d1
  have d2' : (w1.drewN nq).cell? ⟨w.heap.size, 2, none⟩ = some (.int .i64 b) := d2
  have d3' : (w1.drewN nq).cell? ⟨w.heap.size, 3, none⟩ = some (.int .i64 nm) := d3
  clear d0 d1 d2 d3 hs
  have d0 := d0'
  have d1 := d1'
  have d2 := d2'
  have d3 := d3'
  have hs := hs1
  clear d0' d1' d2' d3' hs1
  have lt0 : w.heap.size < (w1.drewN nq).heap.size := lt0
  generalize w1.drewN nq = w2 at *
  clear e1 e2 s1 s2 r1 r2 c1 c2 s3 s4 s5 s6 n0 ka1 ka2 kb1 kb2
  generalize hX : xOf a b ((n : Int) + 1) = X at *
  generalize hY : xOf b a ((n : Int) + 1) = Y at *
  have HX := Lib.hid hX
  have HY := Lib.hid hY
  clear hX hY
  by_cases h4 : r7 = 4
  · subst h4
    have E := Lib.hid (show doT t ⟨q, a, b, nm⟩ ((n : Int) + 1) = ((0, (t.merge X Y).1), (t.merge X Y).2) by
      unfold doT; rw [if_pos R7.out, HX.out, HY.out])
    clear d1 d2 d3
    go_wp2_with fail
    refine (ref_merge _ p t F _ X Y hs.out.h HW.out H64.out ⟨by omega, by omega⟩ ⟨by omega, by omega⟩).mono ?_
    rintro e w' ⟨F', rfl, h1, h2, h3⟩
    have G := Lib.hid (show RefTo w p F (t.merge X Y).2 (mkV (0, (t.merge X Y).1)) (.returned (mkV (0, (t.merge X Y).1))) w' from RefTo.of hs.out.b h1 h2 h3)
    clear h1 h2 h3
    go_wp2_with fail
    go_ret2
    rw [E.out]; exact G.out
  · by_cases h5 : r7 = 5
    · subst h5
      have E := Lib.hid (show doT t ⟨q, a, b, nm⟩ ((n : Int) + 1) = t.split X by
        unfold doT; rw [if_neg (by rw [R7.out]; decide), if_pos R7.out, HX.out])
      clear d1 d2 d3
      go_wp2_with fail
      refine (SP _ p t F _ X hs.out.h HW.out SRT.out H64.out ⟨by omega, by omega⟩).mono ?_
      rintro e w' ⟨F', rfl, h1, h2, h3⟩
      have G := Lib.hid (RefTo.of (v := mkV (t.split X).1) hs.out.b h1 h2 h3)
      clear h1 h2 h3
      rw [mkV_def]
      go_wp2_with fail
      go_ret2
      rw [E.out]; exact G.out
    · by_cases h6 : r7 = 6
      · subst h6
        have E := Lib.hid (show doT t ⟨q, a, b, nm⟩ ((n : Int) + 1) = t.make (b.tmod 3) (someOf a) by
          unfold doT; rw [if_neg (by rw [R7.out]; decide), if_neg (by rw [R7.out]; decide), if_pos R7.out])
        obtain ⟨t3, h3, l3, g3, _⟩ := tm b 3 (by omega)
        have H3 := Lib.hid h3
        have IA := Lib.hid (show I64 a from ⟨a1, a2⟩)
        have IT := Lib.hid (show I64 t3 from ⟨by omega, by omega⟩)
        have LS := Lib.hid (show (someOf a).length ≤ 8796093022208 by have := someOf_len a; omega)
        have SS := Lib.hid (show ∀ x ∈ someOf a, x.size ≤ maxLen from fun x hx => by have := nameL_size x (some_mem _ x hx); unfold maxLen; omega)
        go_wp2_with fail
        go_region_held3 (fun w' => w'.cell? ⟨w.heap.size, 1, none⟩ = some (.int .i64 a) ∧ w'.cell? ⟨w.heap.size, 2, none⟩ = some (.int .i64 b)) (first | exact ⟨d1, d2⟩) ((first
          | (go_at_call 35
             (with_reducible refine (some_any a IA.out _).mono ?_)
             rintro e w3 ⟨v, rfl, ho, hb⟩
             obtain ⟨A, c, rfl, ha0, hsl⟩ := ho.form
             have A0 := Lib.hid ha0
             (first | have SL := Lib.hid (hsl.freeR hs.out.h) | have SL := Lib.hid (hsl.freeR hs.out.drew.h) | have SL := Lib.hid (hsl.freeR hs.out.drew.drew.h))
             (first | replace hs := Lib.hid (hs.out.below hb) | replace hs := Lib.hid (hs.out.drew.below hb) | replace hs := Lib.hid (hs.out.drew.drew.below hb))
             replace d1 := (hb.cell (p := ⟨w.heap.size, 1, none⟩) lt0).trans d1
             replace d2 := (hb.cell (p := ⟨w.heap.size, 2, none⟩) lt0).trans d2
             have lt3 : w.heap.size < w3.heap.size := Nat.lt_of_lt_of_le lt0 hb.size
             clear ho hb hsl ha0)
          | (go_at_call 34
             (refine (ref_make _ p t F _ t3 _ (someOf a) _ (by first | exact hs.out.h | exact hs.out.drew.h | exact hs.out.drew.drew.h) HW.out H64.out IT.out SL.out A0.out LS.out).mono ?_)
             rintro e w' ⟨F', rfl, h1, h2, h3⟩
             rw [mkV_def]
             have G := Lib.hid (RefTo.of (v := mkV (t.make t3 (someOf a)).1) (by first | exact hs.out.b | exact hs.out.drew.b | exact hs.out.drew.drew.b) h1 h2 h3)
             replace d1 := (h2.cell (p := ⟨w.heap.size, 1, none⟩) lt3 NF.out).trans d1
             replace d2 := (h2.cell (p := ⟨w.heap.size, 2, none⟩) lt3 NF.out).trans d2
             clear h1 h2 h3)))
        go_wp2_with fail
        go_ret2
        rw [E.out, H3.out]; exact G.out
      · have E := Lib.hid (show doT t ⟨q, a, b, nm⟩ ((n : Int) + 1) = t.add X (nameOf nm) by
          unfold doT; rw [if_neg (by rw [R7.out]; exact h4), if_neg (by rw [R7.out]; exact h5), if_neg (by rw [R7.out]; exact h6), HX.out])
        have f4 : (r7 == 4) = false := by simpa using h4
        have f5 : (r7 == 5) = false := by simpa using h5
        have f6 : (r7 == 6) = false := by simpa using h6
        clear h4 h5 h6 d1 d2
        go_wp2_with fail
        refine (name_any nm ⟨by omega, by omega⟩ _).mono ?_
        rintro e w3 ⟨rfl, hb⟩
        have hs3 := Lib.hid (hs.out.below hb)
        clear hb hs d0 d3
        go_wp2_with fail
        refine (AD _ p t F _ X (nameOf nm) hs3.out.h HW.out SRT.out H64.out ⟨by omega, by omega⟩ (by have := nameL_size _ (name_mem nm); unfold maxLen; omega)).mono ?_
        rintro e w' ⟨F', rfl, h1, h2, h3⟩
        have G := Lib.hid (RefTo.of (v := mkV (t.add X (nameOf nm)).1) hs3.out.b h1 h2 h3)
        clear h1 h2 h3
        rw [mkV_def]
        go_wp2_with fail
        go_ret2
        rw [E.out]; exact G.out
end Go.Proofs.YtjodmjadpooipaaGreatDoor.Sh
