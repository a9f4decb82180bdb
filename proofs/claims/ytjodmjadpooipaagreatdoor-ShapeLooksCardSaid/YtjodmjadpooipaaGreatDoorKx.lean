/-
  The map of transitions while a range turns it, one entry after another.
  A shape split off: the tree between the turning of the map and that of the root.
-/
import Derived.Test.YtjodmjadpooipaaGreatDoorKw
import Derived.OrdersHeld
import Derived.OrdersIn
namespace Go.Proofs.YtjodmjadpooipaaGreatDoor.Sh
open Go Go.RowKit

section Round
theorem op_round {P : Program} {o : Oper} {a : Go.Act} {w : World} {K : Go.Act → World → Prop} {Q : Exit → Go.Act → World → Prop} (l n : Nat) (hd : ∀ c, o.op ≠ .defer c) (h : o.wp P a w K Q) : o.wpIn (Fence.wide.inRound l) n P a w K Q := by
  unfold Oper.wp at h
  unfold Oper.wpIn
  refine ⟨fun _ _ => trivial, ?_⟩
  rw [show (Fence.wide.inRound l).round = some l from rfl, Oper.semAt_some l _ _ hd]
  generalize (execOp a.eval o).run P w = r at *
  cases r with
  | ok x w' =>
    cases x <;> simp only [Oper.upon, Oper.uponIn] at h ⊢
    case value => exact h
    case skip => exact h
    case defer => exact h
    case enter f args =>
      refine ⟨(fun hh => by cases hh), CallsIn.inRound l (callsIn_wide.2 (h.mono fun e w'' he => ?_))⟩
      cases e <;> exact he
    case row row args =>
      refine ⟨(fun hh => by cases hh), fun c cs _ => ?_⟩
      obtain ⟨v, w'', r, s⟩ := h c cs
      exact ⟨v, w'', r, stepsIn_wide.2 s⟩
  | halt x w' => cases x <;> simp only [Oper.upon, Oper.uponIn] at h ⊢ <;> exact h
theorem any_round {P : Program} {md : Region.Mode} {ops : Array Oper} {Q : Exit → Go.Act → World → Prop} (l n : Nat) (hd : ∀ (i : Nat) (o : Oper), ops[i]? = some o → ∀ c, o.op ≠ .defer c) (hQ : ¬ LetsOut Q) :
    ∀ (fuel : Nat) (listed : Array Bool) (a : Go.Act) (w : World), wpAny P md ops Q fuel listed a w → wpAnyIn (Fence.wide.inRound l) n P md ops Q fuel listed a w := by
  intro fuel
  induction fuel with
  | zero => exact fun _ _ _ h => h
  | succ fuel ih =>
    intro listed a w h
    refine ⟨h.1, fun i hi => ?_⟩
    have h2 := h.2 i hi
    unfold wpOp at h2
    unfold wpOpIn
    cases ho : ops[i]? with
    | none => simp only [ho] at h2 ⊢; exact ih _ _ _ h2
    | some o =>
      simp only [ho] at h2 ⊢
      by_cases hw : Region.wanted o (yielded ops a.tmps) = true
      · simp only [hw, if_true] at h2 ⊢
        rcases h2 with h2 | ⟨_, h2⟩
        · exact Oper.wpIn_mono (fun a' w' h' => ih _ a' w' h') (op_round l n (hd i o ho) h2)
        · exact absurd h2 hQ
      · simp only [hw] at h2 ⊢
        exact ⟨fun _ _ => trivial, ih _ _ _ h2⟩
theorem region_round {P : Program} {ops : Array Oper} {Q : Exit → Go.Act → World → Prop} (S : World → Prop) {l n id : Nat} {a : Go.Act} {w : World} (hm : P.follows .mixedOrders = true) (hd : ∀ (i : Nat) (o : Oper), ops[i]? = some o → ∀ c, o.op ≠ .defer c) (hQ : ¬ LetsOut Q)
    (h : wpAnyH P .any ops Q S ops.size (Array.replicate ops.size false) a w.drew) : (Code.region id ops true).wpIn (Fence.wide.inRound l) n P Q a w :=
  wpIn_region_any hm (any_round l n hd hQ _ _ _ _ (wpAny_of_held _ _ _ _ h))
theorem one_ready {P : Program} {ops : Array Oper} {Q : Exit → Go.Act → World → Prop} {S : World → Prop} {md : Region.Mode} {fuel : Nat} {listed : Array Bool} {a : Go.Act} {w : World} (i : Nat) {o : Oper} (ho : ops[i]? = some o) (hr : Region.ready md ops listed = [i]) (hw : Region.wanted o (yielded ops a.tmps) = true)
    (h : o.wp P a w (fun a' w' => S w' ∧ wpAnyH P md ops Q S fuel (listed.setIfInBounds i true) a' w') Q) : wpAnyH P md ops Q S (fuel + 1) listed a w := by
  refine wpAnyH_all hr (by simp) (fun j hj => ?_)
  obtain rfl : j = i := by simpa using hj
  unfold wpOp
  simp only [ho, hw, if_true]
  exact .inl h
end Round
section Part
open Classical
def PartC (t : Tre) (cv : Nat → Nat) (pre : List (Ky × Nat)) (D : DataW Unit) : Prop := ∀ f nm, I64 f → nm.size ≤ maxLen → Maps.has D (keyL f nm) = (lkC t f nm).isSome ∧
  ∀ a : Nat, lkC t f nm = some a → ∀ zd, D.atKey (keyL f nm) zd = .lit (.int .i64 ((if ((f, nm), a) ∈ pre then cv a else a : Nat) : Int))
theorem PartC.start {t : Tre} {cv : Nat → Nat} {D : DataW Unit} (h : Cont D t) : PartC t cv [] D := fun f nm hf hn => ⟨(h f nm hf hn).1, fun a ha zd => by rw [if_neg (by simp)]; exact (h f nm hf hn).2 a ha zd⟩
theorem PartC.first {t : Tre} {cv : Nat → Nat} {D : DataW Unit} (h : PartC t cv [] D) : Cont D t := fun f nm hf hn => ⟨(h f nm hf hn).1, fun a ha zd => by have := (h f nm hf hn).2 a ha zd; rw [if_neg (by simp)] at this; exact this⟩
theorem PartC.next {t : Tre} (hs : Srt t) {cv : Nat → Nat} {D : DataW Unit} {pre rest : List (Ky × Nat)} {x : Ky × Nat} (h : PartC t cv pre D) (hL : trs t t.L.length = pre ++ x :: rest) (hx : wfK x.1) :
    Maps.has D (kyL x.1) = true ∧ ∀ zd, D.atKey (kyL x.1) zd = .lit (.int .i64 (x.2 : Int)) := by
  have hm : lkC t x.1.1 x.1.2 = some x.2 := (trs_lk hs).1 (by rw [hL]; simp)
  obtain ⟨h1, h2⟩ := h x.1.1 x.1.2 hx.1 hx.2
  refine ⟨h1.trans (by rw [hm]; rfl), fun zd => (h2 _ hm zd).trans ?_⟩
  have hn : ((x.1.1, x.1.2), x.2) ∉ pre := fun hp => by
    have hd := trs_nodup hs t.L.length
    rw [hL, List.map_append, List.map_cons] at hd
    exact (List.nodup_append.1 hd).2.2 _ (List.mem_map.2 ⟨_, hp, rfl⟩) _ (List.mem_cons_self ..) rfl
  rw [if_neg hn]
theorem PartC.stay {t : Tre} {cv : Nat → Nat} {D : DataW Unit} {pre : List (Ky × Nat)} {x : Ky × Nat} (h : PartC t cv pre D) (hc : cv x.2 = x.2) : PartC t cv (pre ++ [x]) D := fun f nm hf hn =>
  ⟨(h f nm hf hn).1, fun a ha zd => by
    rw [(h f nm hf hn).2 a ha zd]
    by_cases hp : ((f, nm), a) ∈ pre
    · rw [if_pos hp, if_pos (List.mem_append_left _ hp)]
    · by_cases e : ((f, nm), a) = x
      · subst e; rw [if_neg hp, if_pos (by simp), hc]
      · rw [if_neg hp, if_neg (fun hm => (List.mem_append.1 hm).elim hp (fun h => e (by simpa using h)))]⟩
theorem PartC.put {t : Tre} {cv : Nat → Nat} {D : DataW Unit} {pre : List (Ky × Nat)} {x : Ky × Nat} {n : Nat} (h : PartC t cv pre D) (hD : Maps.IsMap D) (hx : wfK x.1) (hl : lkC t x.1.1 x.1.2 = some x.2) (hc : cv x.2 = n) : PartC t cv (pre ++ [x]) (D.put (kyL x.1) (.lit (.int .i64 (n : Int)))) := fun f nm hf hn => by
  have hk := keyed.key (keyOf_mk hx.1 hx.2)
  by_cases e : f = x.1.1 ∧ nm = x.1.2
  · obtain ⟨rfl, rfl⟩ := e
    refine ⟨(Maps.has_put_same hD hk _).trans (by rw [hl]; rfl), fun a ha zd => ?_⟩
    rw [hl] at ha
    injection ha with ha
    subst ha
    rw [if_pos (by simp), hc]
    exact Maps.atKey_put_same hD hk _ _
  · have hne : keyL f nm ≠ kyL x.1 := fun e2 => e (keyL_inj hf hn hx.1 hx.2 e2)
    rw [Maps.has_put_other hne]
    refine ⟨(h f nm hf hn).1, fun a ha zd => ?_⟩
    rw [Maps.atKey_put_other hne, (h f nm hf hn).2 a ha zd]
    by_cases hp : ((f, nm), a) ∈ pre
    · rw [if_pos hp, if_pos (List.mem_append_left _ hp)]
    · rw [if_neg hp, if_neg (fun hm => (List.mem_append.1 hm).elim hp (fun h => e (by simp at h; rw [← h]; exact ⟨rfl, rfl⟩)))]
/-- At the end: all targets are turned. -/
theorem PartC.done {t t' : Tre} (hs : Srt t) {cv : Nat → Nat} {D : DataW Unit} (h : PartC t cv (trs t t.L.length) D) (hl : ∀ f nm, lkC t' f nm = (lkC t f nm).map cv) : Cont D t' := fun f nm hf hn => by
  rw [hl]
  refine ⟨(h f nm hf hn).1.trans (by cases lkC t f nm <;> rfl), fun a ha zd => ?_⟩
  obtain ⟨b, hb, rfl⟩ := Option.map_eq_some_iff.1 ha
  rw [(h f nm hf hn).2 b hb zd, if_pos ((trs_lk hs).2 hb)]
end Part
end Go.Proofs.YtjodmjadpooipaaGreatDoor.Sh
namespace Go.Proofs.YtjodmjadpooipaaGreatDoor.Sh
open Go Go.RowKit

def Tre.mid (t : Tre) (c : Nat) : Tre := ⟨(t.cut c).L, t.roots⟩
section
variable {t : Tre} {m c : Nat}
theorem mid_sh (s : Nat) : (t.mid c).sh s = (t.cut c).sh s := rfl
theorem mid_len : (t.mid c).L.length = t.L.length + 1 := by simp [Tre.mid, Tre.cut]
theorem mid_ali (s : Nat) : ((t.mid c).sh s).ali = (t.sh s).ali := by
  rw [mid_sh, cut_sh]
  by_cases e : s = t.L.length
  · subst e; rw [if_pos rfl, sh_ge (Nat.le_refl _)]; rfl
  · rw [if_neg e]; rfl
variable (h : t.WF m) (hc : c < t.L.length) (hl : t.L.length < 200)
include h hc hl
theorem mid_wf : (t.mid c).WF m := by
  have C := cut_wf h hc hl
  refine ⟨h.rl, fun k hk => ?_, C.cl, C.al, ?_, C.li, C.na, C.few⟩
  · obtain ⟨a, b⟩ := h.ro k hk
    refine ⟨by rw [mid_len]; show t.roots.getD k 0 < _; omega, ?_⟩
    show ((t.cut c).sh (t.roots.getD k 0)).cls = k
    rw [cut_sh, if_neg (by omega)]; exact b
  · exact C.dp
theorem mid_canon (s : Nat) : (t.mid c).canon s = t.canon s :=
  canon_of (mid_wf h hc hl) s t.L.length _ (by rw [hop_same mid_ali]; rfl) (by rw [mid_ali]; exact canon_root h s)
theorem mid_root (k : Nat) : (t.mid c).root k = t.root k := mid_canon h hc hl _
end
theorem look_map {nm : ByteArray} (f : Nat → Nat) : ∀ l : List (ByteArray × Nat), lookL nm (l.map fun p => (p.1, f p.2)) = (lookL nm l).map f
  | [] => rfl
  | p :: l => by
    rw [List.map_cons]
    unfold lookL
    by_cases e : p.1 = nm
    · rw [if_pos e, if_pos e]; rfl
    · rw [if_neg e, if_neg e]; exact look_map f l
/-- What a split does to each target. -/
def cutv (t : Tre) (c a : Nat) : Nat := if t.canon a = c then t.L.length else a
theorem lk_mid (t : Tre) (c k : Nat) (ns : List ByteArray) (f : Int) (nm : ByteArray) : lkC (t.mid c) f nm = (lkC (t.push k ns) f nm).map (cutv t c) := by
  rw [lk_push]
  unfold lkC
  by_cases hf : 0 ≤ f
  · rw [mid_ali]
    by_cases ha : (t.sh f.toNat).ali = none
    · rw [if_pos ⟨hf, ha⟩, if_pos ⟨hf, ha⟩, mid_sh, cut_sh]
      by_cases e : f.toNat = t.L.length
      · rw [if_pos e, e, sh_ge (Nat.le_refl _)]; rfl
      · rw [if_neg e]; exact look_map (cutv t c) _
    · rw [if_neg (fun h => ha h.2), if_neg (fun h => ha h.2)]; rfl
  · rw [if_neg (fun h => hf h.1), if_neg (fun h => hf h.1)]; rfl
theorem mid_cut (t : Tre) (c : Nat) : t.cut c = if t.root (t.sh c).cls = c then ⟨(t.mid c).L, (t.mid c).roots.set (t.sh c).cls t.L.length⟩ else t.mid c := by
  unfold Tre.mid Tre.cut
  dsimp only
  split <;> rfl
/-- A root turned. -/
theorem rootC_set {w : World} {p : Nat} {t : Tre} {F : Nat → Prop} {vL : Value} {mb g c : Nat} {D : DataW Unit} {hd : Nat → Ld} (h : CodeAt w p t F vL (.slice (some ⟨g, 0, none⟩) t.roots.length c) mb D hd) (k n : Nat) :
    CodeAt (w.setCell ⟨g, k, none⟩ (.int .i64 (n : Int))) p ⟨t.L, t.roots.set k n⟩ F vL (.slice (some ⟨g, 0, none⟩) t.roots.length c) mb D hd := by
  have hz : (w.setCell ⟨g, k, none⟩ (.int .i64 (n : Int))).heap.size = w.heap.size := by simp [World.setCell]
  have far : ∀ b, b ≠ g → (w.setCell ⟨g, k, none⟩ (.int .i64 (n : Int))).heap[b]? = w.heap[b]? := fun b hb => Below.heap_setCell w _ _ b (fun e => hb e)
  obtain ⟨xs, o, hx⟩ := h.rows
  have gF : F g := h.fR g rfl
  have pg : p ≠ g := fun e => bk_ne h.roots h.hp (by decide) (by rw [e]; rfl)
  have mg : mb ≠ g := fun e => map_ne_own h.roots h.map (by rw [e]; rfl)
  refine ⟨fun b hb => by rw [hz]; exact h.lt b hb, ?_, h.fp, ⟨xs, ?_, hx⟩, h.fL, ?_, h.fR, fun s hs => ?_, h.nils, map_keep h.map (far mb mg), h.cont, h.fM⟩
  · unfold Bk; rw [far p pg]; exact h.hp
  · exact own_keep o fun b hb => far b (fun e => by subst e; exact own_ne o h.roots (by decide) _ hb rfl)
  · have := (World.ownsRow.stored h.roots k (.int .i64 (n : Int))).1
    show World.ownsRow _ 0 _ 1 _ (t.roots.set k n).length ((t.roots.set k n).map fun (k : Nat) => Value.int .i64 (k : Int))
    rw [List.length_set, List.map_set]
    exact this
  · refine (h.names s hs).keep fun b hb => ?_
    have e3 := far b (fun e => by subst e; exact str_ne h.roots hb.2 (by decide) rfl)
    obtain ⟨cs, hc⟩ := hb.2
    exact ⟨⟨hb.1, cs, by rw [e3]; exact hc⟩, e3⟩
theorem rows_count (w : World) (p n : Nat) (A : Option Addr) (c : Nat) (c0 : w.cell? ⟨p, 0, none⟩ = some (.slice A n c)) :
    Calls Tryz.prog 31 #[.pointer (some ⟨p, 0, none⟩)] w fun e w' => e = .returned (.int .i64 (n : Int)) ∧ w = w' := by
  go_enter Tryz.func31, Tryz.ntmps31
  go_wp2
  go_ret
  exact ⟨rfl, rfl⟩
set_option maxHeartbeats 1000000 in
/-- Canon, of what the rows say alone. -/
theorem rows_canon (w : World) (p g c : Nat) (t : Tre) (m s : Nat) (c0 : w.cell? ⟨p, 0, none⟩ = some (.slice (some ⟨g, 0, none⟩) t.L.length c)) (hr : ∀ r, r < t.L.length → w.cell? ⟨g, r * 3 + 2, none⟩ = some (.int .i64 (aliV (t.sh r)))) (hw : t.WF m) (sl : s < t.L.length) :
    Calls Tryz.prog 16 #[.pointer (some ⟨p, 0, none⟩), .int .i64 (s : Int)] w fun e w' => e = .returned (.int .i64 (t.canon s : Nat)) ∧ w = w' := by
  have HR := Lib.hid hr
  have W := Lib.hid hw
  have few := hw.few
  have CO := Lib.hid (rows_count w p t.L.length _ _ c0)
  clear hw hr
  go_enter Tryz.func16, Tryz.ntmps16
  go_wp2_with fail
  refine CO.out.mono ?_
  rintro e w' ⟨rfl, rfl⟩
  go_wp2_with fail
  go_loop [1] (fun i => ∃ n : Nat, n < t.L.length ∧ i = .int .i64 n ∧ Hid (t.canon n = t.canon s)) (fun i => rk t t.als (intOf i).toNat)
  case atStart => exact ⟨s, sl, rfl, Lib.hid rfl⟩
  case round =>
    obtain ⟨n, hn, rfl, hc⟩ := hrel
    have c2 := HR.out n hn
    cases ha : (t.sh n).ali with
    | some a =>
      rw [ali_some ha] at c2
      have HH := Lib.hid (show hop t n = a by unfold hop; rw [ha])
      have al : a < t.L.length := (W.out.al n a ha).1
      have RK := Lib.hid (rk_less W.out (n := n) (by rw [ha]; simp))
      clear ha
      go_wp2
      go_round
      case rel => exact ⟨a, al, rfl, Lib.hid (by rw [← HH.out, canon_hop W.out, hc.out])⟩
      case measure =>
        have := RK.out
        rw [HH.out] at this
        simpa [intOf] using this
    | none =>
      rw [ali_none ha] at c2
      have HE := Lib.hid (show t.canon s = n by rw [← hc.out, canon_fix ha])
      clear ha
      go_wp2
      go_ret
      exact ⟨by rw [HE.out]; rfl, rfl⟩
end Go.Proofs.YtjodmjadpooipaaGreatDoor.Sh
