/-
  The reference's tree in memory; what only reads it.
-/
import Derived.Test.YtjodmjadpooipaaGreatDoorSv
namespace Go.Proofs.YtjodmjadpooipaaGreatDoor.Sh
open Go Go.RowKit

/-- Where a shape's slices lie. -/
structure Hd where
  nA : Addr
  nc : Nat
  lv : Value
def aliV (x : Shp) : Int := match x.ali with | some a => a | none => -1
def rowOf (x : Shp) (h : Hd) : List Value := [.int .i64 x.cls, .int .i64 (aliV x), .slice (some h.nA) x.names.length h.nc, h.lv]
def isStr (w : World) (b : Nat) : Prop := ∃ cs, w.heap[b]? = some (.cells cs 9 (0, 0))
/-- A row of shapes. -/
def Rows (w : World) (gL cL : Nat) (t : Tre) (hd : Nat → Hd) : Prop :=
  ∃ xs, w.ownsRow 0 62 4 (.slice (some ⟨gL, 0, none⟩) t.L.length cL) t.L.length xs ∧ ∀ s, s < t.L.length → ∀ i u, (rowOf (t.sh s) (hd s))[i]? = some u → xs[s * 4 + i]? = some u
def Links (w : World) (v : Value) (l : List (ByteArray × Nat)) : Prop :=
  ∃ xs, w.ownsRow 0 97 2 v l.length xs ∧ ∀ j q, l[j]? = some q → xs[j * 2]? = some (.string q.1) ∧ xs[j * 2 + 1]? = some (.int .i64 q.2)
def RootsV (w : World) (v : Value) (r : List Nat) : Prop := w.ownsRow 0 3 1 v r.length (r.map fun (k : Nat) => Value.int .i64 (k : Int))
/-- The tree lies at p, in blocks of F. -/
structure RefAt (w : World) (p : Nat) (t : Tre) (F : Nat → Prop) (gL cL : Nat) (vR : Value) (hd : Nat → Hd) : Prop where
  lt : ∀ b, F b → b < w.heap.size
  hp : Bk w p #[.slice (some ⟨gL, 0, none⟩) t.L.length cL, vR] 56
  fp : F p
  rows : Rows w gL cL t hd
  fL : F gL
  roots : RootsV w vR t.roots
  fR : ∀ b, vR.ownBlock = some b → F b
  names : ∀ s, s < t.L.length → SlS w (fun b => F b ∧ isStr w b) (some (hd s).nA) (t.sh s).names
  links : ∀ s, s < t.L.length → Links w (hd s).lv (t.sh s).links
  fK : ∀ s, s < t.L.length → ∀ b, (hd s).lv.ownBlock = some b → F b
  apart : ∀ s r, s < t.L.length → r < t.L.length → s ≠ r → ∀ b, (hd s).lv.ownBlock = some b → (hd r).lv.ownBlock ≠ some b
def RefH (w : World) (p : Nat) (t : Tre) (F : Nat → Prop) : Prop := ∃ gL cL vR hd, RefAt w p t F gL cL vR hd
theorem own_keep {w w' : World} {base : Nat} {e : TypeId} {size n : Nat} {v : Value} {xs : List Value} (h : w.ownsRow base e size v n xs) (hk : ∀ b, v.ownBlock = some b → w'.heap[b]? = w.heap[b]?) : w'.ownsRow base e size v n xs := by
  refine ⟨h.1, ?_⟩
  rcases h.2 with h | ⟨g, cap, cur, rfl, hb, hg, h2⟩
  · exact .inl h
  · exact .inr ⟨g, cap, cur, rfl, hb, (hk g (by simp [Value.ownBlock])).trans hg, h2⟩
theorem RefAt.keep {w w' : World} {p : Nat} {t : Tre} {F : Nat → Prop} {gL cL : Nat} {vR : Value} {hd : Nat → Hd} (h : RefAt w p t F gL cL vR hd) (hk : ∀ b, F b → w'.heap[b]? = w.heap[b]?) : RefAt w' p t F gL cL vR hd := by
  refine ⟨fun b hb => ?_, ?_, h.fp, ?_, h.fL, ?_, h.fR, fun s hs => ?_, fun s hs => ?_, h.fK, h.apart⟩
  · have h1 := h.lt b hb
    have h2 := hk b hb
    rw [Array.getElem?_eq_getElem h1] at h2
    exact (Array.getElem?_eq_some_iff.1 h2).1
  · unfold Bk; rw [hk p h.fp]; exact h.hp
  · obtain ⟨xs, h1, h2⟩ := h.rows
    exact ⟨xs, own_keep h1 fun b hb => hk b (by simp [Value.ownBlock] at hb; subst hb; exact h.fL), h2⟩
  · exact own_keep h.roots fun b hb => hk b (h.fR b hb)
  · exact (h.names s hs).keep fun b hb => ⟨⟨hb.1, by obtain ⟨cs, hc⟩ := hb.2; exact ⟨cs, by rw [hk b hb.1]; exact hc⟩⟩, hk b hb.1⟩
  · obtain ⟨xs, h1, h2⟩ := h.links s hs
    exact ⟨xs, own_keep h1 fun b hb => hk b (h.fK s hs b hb), h2⟩
section
variable {w : World} {p : Nat} {t : Tre} {F : Nat → Prop} {gL cL : Nat} {vR : Value} {hd : Nat → Hd} (h : RefAt w p t F gL cL vR hd)
include h
theorem RefAt.c0 : w.cell? ⟨p, 0, none⟩ = some (.slice (some ⟨gL, 0, none⟩) t.L.length cL) := h.hp.cell 0 _ rfl
theorem RefAt.c1 : w.cell? ⟨p, 1, none⟩ = some vR := h.hp.cell 1 _ rfl
theorem RefAt.row {s : Nat} (hs : s < t.L.length) (i : Nat) (u : Value) (hu : (rowOf (t.sh s) (hd s))[i]? = some u) : w.cell? ⟨gL, s * 4 + i, none⟩ = some u := by
  obtain ⟨xs, h1, h2⟩ := h.rows
  have hi : i < 4 := (List.getElem?_eq_some_iff.1 hu).1
  rw [World.ownsRow.cellAt h1 (s * 4 + i) (by omega)]; exact h2 s hs i u hu
theorem RefAt.r0 {s : Nat} (hs : s < t.L.length) : w.cell? ⟨gL, s * 4, none⟩ = some (.int .i64 (t.sh s).cls) := h.row hs 0 _ rfl
theorem RefAt.r1 {s : Nat} (hs : s < t.L.length) : w.cell? ⟨gL, s * 4 + 1, none⟩ = some (.int .i64 (aliV (t.sh s))) := h.row hs 1 _ rfl
theorem RefAt.r2 {s : Nat} (hs : s < t.L.length) : w.cell? ⟨gL, s * 4 + 2, none⟩ = some (.slice (some (hd s).nA) (t.sh s).names.length (hd s).nc) := h.row hs 2 _ rfl
theorem RefAt.r3 {s : Nat} (hs : s < t.L.length) : w.cell? ⟨gL, s * 4 + 3, none⟩ = some (hd s).lv := h.row hs 3 _ rfl
theorem RefAt.cap : t.L.length ≤ cL := by
  obtain ⟨xs, h1, _⟩ := h.rows
  rcases h1.2 with ⟨h', _⟩ | ⟨g', cap', cur, h', _, _, hnc, _⟩
  · simp at h'
  · simp only [Value.slice.injEq] at h'; omega
theorem RefAt.rootV : ∃ A c, vR = .slice A t.roots.length c ∧ ∀ k, k < t.roots.length → ∃ g, A = some ⟨g, 0, none⟩ ∧ w.cell? ⟨g, k, none⟩ = some (.int .i64 (t.roots.getD k 0 : Nat)) := by
  have h1 := h.roots
  rcases Nat.eq_zero_or_pos t.roots.length with h0 | h0
  · rcases h1.2 with ⟨rfl, _⟩ | ⟨g', cap', cur, rfl, _⟩
    · exact ⟨none, 0, by rw [h0], fun k hk => by omega⟩
    · exact ⟨_, _, rfl, fun k hk => by omega⟩
  · obtain ⟨g, cap, rfl, _, _⟩ := World.ownsRow.form h1 h0
    refine ⟨_, _, rfl, fun k hk => ⟨g, rfl, ?_⟩⟩
    rw [World.ownsRow.cellAt h1 k (by omega), List.getElem?_map, List.getD_eq_getElem?_getD, List.getElem?_eq_getElem hk]; rfl
end
theorem ref_count (w : World) (p : Nat) (t : Tre) (F : Nat → Prop) (h : RefH w p t F) :
    Calls Tryz.prog 9 #[.pointer (some ⟨p, 0, none⟩)] w fun e w' => e = .returned (.int .i64 (t.L.length : Nat)) ∧ w = w' := by
  obtain ⟨gL, cL, vR, hd, h⟩ := h
  have c0 := h.c0
  clear h
  go_enter Tryz.func9, Tryz.ntmps9
  go_wp2
  go_ret
  exact ⟨rfl, rfl⟩
theorem ref_there (w : World) (p : Nat) (t : Tre) (F : Nat → Prop) (s : Int) (h : RefH w p t F) (hs : I64 s) (b : Bool) (hb : t.there s = b) :
    Calls Tryz.prog 40 #[.pointer (some ⟨p, 0, none⟩), .int .i64 s] w fun e w' => e = .returned (.bool b) ∧ w = w' := by
  obtain ⟨gL, cL, vR, hd, h⟩ := h
  have c0 := h.c0
  obtain ⟨h1, h2⟩ := hs
  unfold Tre.there at hb
  clear h
  by_cases h0 : 0 ≤ s
  · by_cases hl : s < t.L.length
    · rw [decide_eq_true ⟨h0, hl⟩] at hb
      subst hb
      go_enter Tryz.func40, Tryz.ntmps40
      go_wp2
      go_ret
      exact ⟨rfl, rfl⟩
    · rw [decide_eq_false (fun e => hl e.2)] at hb
      subst hb
      go_enter Tryz.func40, Tryz.ntmps40
      go_wp2
      go_ret
      exact ⟨rfl, rfl⟩
  · rw [decide_eq_false (fun e => h0 e.1)] at hb
    subst hb
    go_enter Tryz.func40, Tryz.ntmps40
    go_wp2
    go_ret
    exact ⟨rfl, rfl⟩
theorem ali_some {x : Shp} {a : Nat} (h : x.ali = some a) : aliV x = a := by unfold aliV; rw [h]
theorem ali_none {x : Shp} (h : x.ali = none) : aliV x = -1 := by unfold aliV; rw [h]
/-- How many hops there are to a root, at most f. -/
def rk (t : Tre) : Nat → Nat → Nat
  | 0, _ => 0
  | f + 1, n => if (t.sh n).ali.isNone then 0 else 1 + rk t f (hop t n)
theorem rk_stable (t : Tre) (f : Nat) : ∀ n, (t.sh (iter (hop t) f n)).ali = none → rk t (f + 1) n = rk t f n := by
  induction f with
  | zero => intro n h; show (if _ then 0 else _) = 0; rw [if_pos (by rw [show (t.sh n).ali = none from h]; rfl)]
  | succ f ih =>
    intro n h
    show (if _ then 0 else 1 + rk t (f + 1) (hop t n)) = (if _ then 0 else 1 + rk t f (hop t n))
    rw [ih (hop t n) h]
theorem rk_less {t : Tre} {m n : Nat} (w : t.WF m) (h : (t.sh n).ali ≠ none) : rk t t.als (hop t n) < rk t t.als n := by
  have d := w.dp n
  cases ha : t.als with
  | zero => rw [ha] at d; exact absurd d h
  | succ f =>
    rw [ha] at d
    rw [rk_stable t f (hop t n) d]
    show _ < if _ then 0 else 1 + rk t f (hop t n)
    rw [if_neg (by rw [Option.isNone_iff_eq_none]; exact h)]
    omega
theorem canon_hop {t : Tre} {m n : Nat} (w : t.WF m) : t.canon (hop t n) = t.canon n := (canon_of w n (t.L.length + 1) _ rfl (canon_root w (hop t n))).symm
set_option maxHeartbeats 1000000 in
theorem ref_canon (w : World) (p : Nat) (t : Tre) (F : Nat → Prop) (m : Nat) (s : Int) (h : RefH w p t F) (hw : t.WF m) (hs : I64 s) :
    Calls Tryz.prog 17 #[.pointer (some ⟨p, 0, none⟩), .int .i64 s] w fun e w' => e = .returned (.int .i64 (t.canonI s)) ∧ w = w' := by
  have H := Lib.hid h
  obtain ⟨gL, cL, vR, hd, h⟩ := h
  have c0 := h.c0
  have HR := Lib.hid (show ∀ k, k < t.L.length → _ from fun k hk => h.r1 (s := k) hk)
  have W := Lib.hid hw
  have hcap := h.cap
  cases hb : t.there s
  · have E := Lib.hid (show t.canonI s = -1 by unfold Tre.canonI; rw [hb]; rfl)
    have HB := Lib.hid hb
    have HS := Lib.hid hs
    clear h hw hb
    go_enter Tryz.func17, Tryz.ntmps17
    go_wp2_with fail
    refine (ref_there _ p t F s H.out HS.out false HB.out).mono ?_
    rintro e w' ⟨rfl, rfl⟩
    go_wp2_with fail
    go_ret
    exact ⟨by rw [E.out]; rfl, rfl⟩
  · have HB := Lib.hid hb
    have HS := Lib.hid hs
    obtain ⟨s, rfl⟩ := Int.eq_ofNat_of_zero_le (there_iff.1 hb).1
    have sl : s < t.L.length := (there_iff.1 hb).2
    have E := Lib.hid (canonI_nat sl)
    clear h hw hb hs
    go_enter Tryz.func17, Tryz.ntmps17
    go_wp2_with fail
    refine (ref_there _ p t F _ H.out HS.out true HB.out).mono ?_
    rintro e w' ⟨rfl, rfl⟩
    go_wp2_with fail
    go_loop [1] (fun i => ∃ n : Nat, n < t.L.length ∧ i = .int .i64 n ∧ Hid (t.canon n = t.canon s)) (fun i => rk t t.als (intOf i).toNat)
    case atStart => exact ⟨s, sl, rfl, Lib.hid rfl⟩
    case round =>
      obtain ⟨n, hn, rfl, hc⟩ := hrel
      have c1 := HR.out n hn
      cases ha : (t.sh n).ali with
      | some a =>
        rw [ali_some ha] at c1
        have HH := Lib.hid (show hop t n = a by unfold hop; rw [ha])
        have al : a < t.L.length := (W.out.al n a ha).1
        have RK := Lib.hid (rk_less W.out (n := n) (by rw [ha]; simp))
        clear ha
        go_wp2
        go_round
        case rel => exact ⟨a, al, rfl, Lib.hid (by rw [← HH.out, canon_hop W.out, hc.out])⟩
        case measure =>
          have := RK.out
          rw [HH.out] at this
          simpa [intOf] using this
      | none =>
        rw [ali_none ha] at c1
        have HE := Lib.hid (show t.canonI (s : Int) = (n : Int) by rw [E.out, ← hc.out, canon_fix ha])
        clear ha
        go_wp2
        go_ret
        exact ⟨by rw [HE.out]; rfl, rfl⟩
set_option maxHeartbeats 1000000 in
theorem ref_root (w : World) (p : Nat) (t : Tre) (F : Nat → Prop) (m : Nat) (k : Int) (h : RefH w p t F) (hw : t.WF m) (hk : I64 k) :
    Calls Tryz.prog 21 #[.pointer (some ⟨p, 0, none⟩), .int .i64 k] w fun e w' => e = .returned (.int .i64 (t.rootI k)) ∧ w = w' := by
  have H := Lib.hid h
  obtain ⟨gL, cL, vR, hd, h⟩ := h
  obtain ⟨A, c, rfl, hr⟩ := h.rootV
  have c1 := h.c1
  have W := Lib.hid hw
  obtain ⟨k1, k2⟩ := hk
  have HR := Lib.hid hr
  have few := hw.few
  clear h hw hr
  by_cases h0 : k < 0
  · have E := Lib.hid (show t.rootI k = -1 by unfold Tre.rootI; rw [if_neg (by omega)])
    go_enter Tryz.func21, Tryz.ntmps21
    go_wp2
    go_ret
    exact ⟨by rw [E.out]; rfl, rfl⟩
  · by_cases h1 : (t.roots.length : Int) ≤ k
    · have E := Lib.hid (show t.rootI k = -1 by unfold Tre.rootI; rw [if_neg (by omega)])
      go_enter Tryz.func21, Tryz.ntmps21
      go_wp2
      go_ret
      exact ⟨by rw [E.out]; rfl, rfl⟩
    · obtain ⟨k, rfl⟩ := Int.eq_ofNat_of_zero_le (show 0 ≤ k by omega)
      have kl : k < t.roots.length := by omega
      obtain ⟨g, rfl, hc⟩ := HR.out k kl
      have km : k < m := by rw [← W.out.rl]; exact kl
      obtain ⟨r, hr⟩ : ∃ r, t.roots.getD k 0 = r := ⟨_, rfl⟩
      have rl : r < t.L.length := by rw [← hr]; exact (W.out.ro k km).1
      have E := Lib.hid (show t.canonI (r : Int) = t.rootI (k : Int) by rw [canonI_nat rl, ← hr]; unfold Tre.rootI; rw [if_pos ⟨by omega, by omega⟩]; rfl)
      have RI := Lib.hid (nat64 rl (by omega))
      rw [hr] at hc
      clear hr
      go_enter Tryz.func21, Tryz.ntmps21
      go_wp2_with fail
      refine (ref_canon _ p t F m (r : Int) H.out W.out RI.out).mono ?_
      rintro e w' ⟨rfl, rfl⟩
      go_wp2_with fail
      go_ret
      exact ⟨by rw [← E.out]; rfl, rfl⟩
set_option maxRecDepth 100000 in
set_option maxHeartbeats 1000000 in
theorem ref_names (w : World) (p : Nat) (t : Tre) (F : Nat → Prop) (s : Int) (h : RefH w p t F) (hs : I64 s) (h64 : ∀ s, (t.sh s).names.length ≤ 200) :
    Calls Tryz.prog 14 #[.pointer (some ⟨p, 0, none⟩), .int .i64 s] w fun e w' => ∃ v, e = .returned v ∧ OwnS w' w.heap.size v (t.namesI s) ∧ Below w.heap.size w w' := by
  have H := Lib.hid h
  obtain ⟨gL, cL, vR, hd, h⟩ := h
  have c0 := h.c0
  have hcap := h.cap
  have HS := Lib.hid hs
  cases hb : t.there s
  · have E := Lib.hid (show t.namesI s = [] by unfold Tre.namesI; rw [hb]; rfl)
    have HB := Lib.hid hb
    clear h hb hs h64
    go_enter Tryz.func14, Tryz.ntmps14
    go_wp2_with fail
    refine (ref_there _ p t F s H.out HS.out false HB.out).mono ?_
    rintro e w' ⟨rfl, rfl⟩
    go_wp2_with fail
    go_ret
    exact ⟨_, rfl, by rw [E.out]; exact OwnS.nil _ _, Below.refl _ _⟩
  · have HB := Lib.hid hb
    obtain ⟨s, rfl⟩ := Int.eq_ofNat_of_zero_le (there_iff.1 hb).1
    have sl : s < t.L.length := (there_iff.1 hb).2
    have E := Lib.hid (namesI_nat sl)
    have c2 := h.r2 sl
    have LT := Lib.hid h.lt
    have pl : p < w.heap.size := h.hp.lt
    have gl : gL < w.heap.size := h.lt gL h.fL
    have NS := Lib.hid (h.names s sl)
    have n64 := h64 s
    obtain ⟨ad, hA⟩ : ∃ ad, (hd s).nA = ad := ⟨_, rfl⟩
    obtain ⟨nc, hnc⟩ : ∃ nc, (hd s).nc = nc := ⟨_, rfl⟩
    obtain ⟨ns, hns⟩ : ∃ ns, (t.sh s).names = ns := ⟨_, rfl⟩
    rw [hA, hnc, hns] at c2
    rw [hA, hns] at NS
    rw [hns] at n64 E
    obtain ⟨i0, hi0, hz0, hz1, hz2⟩ := info_parts infoS
    clear h hb hs h64 hA hnc hns
    go_enter Tryz.func14, Tryz.ntmps14
    go_wp2_with fail
    refine (ref_there _ p t F _ H.out HS.out true HB.out).mono ?_
    rintro e w' ⟨rfl, rfl⟩
    go_wp2_with (at_builtin; refine wpList_append_own _ rfl _ _ 41 rfl w.heap.size 9 i0 (.string ⟨#[]⟩) 1 16 Tryz.underlying41 hi0 hz0 hz1 hz2 rfl (by decide) _ _ _ rfl (World.ownsRow_made w #[] 0 (Nat.le_refl _) (Nat.zero_le _) (by simp)) ad ns.length nc (ns.map Value.string) rfl ?qc1 ?qc2 ?qc3 ?qc4 ?qc5 ?qc6 ?_)
    case qc1 => rw [List.length_map, Nat.mul_one]
    case qc2 =>
      intro j u hj
      rw [List.getElem?_map, Option.map_eq_some_iff] at hj
      obtain ⟨z, hz, rfl⟩ := hj
      obtain ⟨ad', e, hb, hc⟩ := NS.out j z hz
      injection e with e
      subst e
      rw [World.cell?_alloc_lt _ _ _ (by rw [blk_add]; exact LT.out _ hb.1)]; exact hc
    case qc3 => exact onesS ns
    case qc4 => unfold maxLen; omega
    case qc5 => omega
    case qc6 => simp
    intro v' w1 hown hgrow _
    go_wp2
    go_ret
    refine ⟨v', rfl, by rw [E.out]; simpa [OwnS] using hown, ?_⟩
    exact ((Below.refl _ w).alloc (Nat.le_refl _) _).grown hgrow (by simp) (by intro k hk; simp [Value.ownBlock] at hk; omega)
/-- The place of a name. -/
theorem pos_step {nm : ByteArray} {l : List ByteArray} (k : Nat) (hk : k < l.length) (h : nm ∉ l.take k) (e : l[k] = nm) : slotL l nm = ((k : Int), true) := by
  have hm : nm ∈ l := by rw [← e]; exact List.getElem_mem hk
  have hp : ∀ l : List ByteArray, ∀ k (hk : k < l.length), nm ∉ l.take k → l[k] = nm → posL nm l = k := by
    intro l
    induction l with
    | nil => intro k hk; cases hk
    | cons x l ih =>
      intro k hk h e
      rcases k with _ | k
      · unfold posL; exact if_pos e
      · have hne : ¬ x = nm := fun e' => h (by rw [List.take_succ_cons, e']; exact List.mem_cons_self ..)
        unfold posL; rw [if_neg hne, ih k (by simpa using hk) (fun e' => h (by rw [List.take_succ_cons]; exact List.mem_cons_of_mem _ e')) (by simpa using e)]
  unfold slotL; rw [if_pos hm, hp l k hk h e]
set_option maxHeartbeats 1000000 in
theorem ref_slot (w : World) (p : Nat) (t : Tre) (F : Nat → Prop) (s : Int) (nm : ByteArray) (h : RefH w p t F) (hs : I64 s) (h64 : ∀ s, (t.sh s).names.length ≤ 200) :
    Calls Tryz.prog 12 #[.pointer (some ⟨p, 0, none⟩), .int .i64 s, .string nm] w fun e w' => e = .returned (.tuple #[.int .i64 (slotL (t.namesI s) nm).1, .bool (slotL (t.namesI s) nm).2]) ∧ Below w.heap.size w w' := by
  have H := Lib.hid h
  have HS := Lib.hid hs
  have H64 := Lib.hid h64
  have L2 : (t.namesI s).length ≤ 200 := by
    unfold Tre.namesI; split
    · exact h64 _
    · exact Nat.zero_le _
  clear h hs h64
  go_enter Tryz.func12, Tryz.ntmps12
  go_wp2_with fail
  refine (ref_names _ p t F s H.out HS.out H64.out).mono ?_
  rintro e w1 ⟨v, rfl, ho, hb⟩
  obtain ⟨A, c, rfl, _, hsl⟩ := ho.form
  have SL := Lib.hid hsl
  have HB := Lib.hid hb
  clear ho hb hsl H
  obtain ⟨ns, hns⟩ : ∃ ns, t.namesI s = ns := ⟨_, rfl⟩
  rw [hns] at SL L2 ⊢
  have HNS := Lib.hid hns
  clear hns
  go_wp2_with fail
  go_loop [9] (fun i => ∃ k : Nat, k ≤ ns.length ∧ i = .int .i64 k ∧ Hid (nm ∉ ns.take k)) (fun i => ns.length - (intOf i).toNat)
  case atStart => exact ⟨0, by omega, rfl, Lib.hid (by simp)⟩
  case round =>
    obtain ⟨k, hk, rfl, hn⟩ := hrel
    by_cases hlt : k < ns.length
    · obtain ⟨ad, rfl, _, hc⟩ := SL.out.get k hlt
      have hk2 : (k : Int) < ns.length := by omega
      have TN := Lib.hid (take_next ns k hlt)
      by_cases he : ns[k] = nm
      · have PS := Lib.hid (pos_step k hlt hn.out he)
        rw [he] at hc
        clear he
        go_wp2
        go_ret2
        exact ⟨by rw [HNS.out, PS.out]; rfl, HB.out⟩
      · have HE := Lib.hid he
        obtain ⟨x, hx⟩ : ∃ x, ns[k] = x := ⟨_, rfl⟩
        have hne : (x.toList == nm.toList) = false := by
          rw [beq_eq_false_iff_ne, ← hx]
          exact fun e => he (WideShapes.bytes_inj (by rwa [ByteArray.toList_eq, ByteArray.toList_eq] at e))
        rw [hx] at hc TN HE
        clear he hx
        go_wp2
        go_round
        case rel => exact ⟨k + 1, by omega, by go_num, Lib.hid (by rw [TN.out, List.mem_append, List.mem_singleton]; rintro (e | e); exact hn.out e; exact HE.out e.symm)⟩
        case measure => simp [intOf]; omega
    · obtain rfl : k = ns.length := by omega
      have hn2 := hn.out
      rw [List.take_length] at hn2
      have PS := Lib.hid (show slotL ns nm = (0, false) by unfold slotL; rw [if_neg hn2])
      clear hn2
      go_wp2
      go_ret2
      exact ⟨by rw [HNS.out, PS.out]; rfl, HB.out⟩
end Go.Proofs.YtjodmjadpooipaaGreatDoor.Sh
