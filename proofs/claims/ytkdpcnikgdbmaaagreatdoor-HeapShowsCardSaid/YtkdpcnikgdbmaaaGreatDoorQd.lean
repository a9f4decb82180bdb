/-
  begin: a heap and its model, with cells by numbers.
  The reference's comparisons: Strings, Values, Equal; Name.
  What HeapFields asks of a heap; names by numbers.
-/
import Derived.Test.YtkdpcnikgdbmaaaGreatDoorQc
import Derived.Test.YtkdpcnikgdbmaaaGreatDoorIh
import Derived.Test.YtkdpcnikgdbmaaaGreatDoorKa
import Derived.Test.YtkdpcnikgdbmaaaGreatDoorIb
import Derived.BigRegion
namespace Go.Proofs.YtkdpcnikgdbmaaaGreatDoor.Hp
open Go Go.RowKit Go.Maps Va

/-- What cells that numbers determine are. -/
structure Fine (l : List Ent) (next : Int) : Prop where
  len : l.length ≤ 8
  sorted : (ids l).Pairwise (· < ·)
  rng : ∀ e ∈ l, 0 ≤ e.1 ∧ e.1 < next
  nx : 0 ≤ next ∧ next ≤ 17
  ok : ∀ e ∈ l, Cok e.2
  few : ∀ e ∈ l, e.2.names.length ≤ 3 ∧ e.2.items.length ≤ 3
  shut : shutB l = true
theorem Fine.okay {l : List Ent} {next : Int} (h : Fine l next) : Okay l :=
  ⟨fun i hi => by
    obtain ⟨e, he, rfl⟩ := List.mem_map.1 hi
    have := h.rng e he; have := h.nx
    unfold I64; omega, fun e he => (h.ok e he).2.1, fun e he => (h.ok e he).1, by have := h.len; omega⟩
theorem St.since {w0 w1 w : World} {p : Nat} {l : List Ent} {next : Int} (h : St w1 w p l next) (hb : Below w0.heap.size w0 w1) (hB : Bnds w0) : St w0 w p l next := by
  obtain ⟨F, mb, f, h⟩ := h
  have := hb.size
  exact ⟨F, mb, f, h.heap, fun g hg => ⟨by have := (h.own g hg).1; omega, (h.own g hg).2⟩, hb.trans (h.low.mono hb.size), hB⟩
theorem ptr_ne (p : Nat) (w : World) : (binOp .neq 25 (.pointer (some ⟨p, 0, none⟩)) (.pointer none)).run Tryz.prog w = .ok (.bool true) w := by kernel_rfl
set_option maxRecDepth 100000 in
set_option maxHeartbeats 2000000 in
theorem begin_any (A : Option Addr) (zs : List Int) (c : Nat) (w : World) (hA : Ac.Sl w w.heap.size A zs) (hz : ∀ z ∈ zs, I64 z) (hl : zs.length ≤ 17592186044404) (hB : Bnds w) :
    Calls Tryz.prog 10 #[.slice A zs.length c] w fun e w' => ∃ (p q : Nat) (v : Value) (es : List Ac.En) (l : List Ent) (next : Int), e = .returned (.tuple #[.pointer (some ⟨p, 0, none⟩), .pointer (some ⟨q, 0, none⟩), .bool true]) ∧
      Hid (St1 w w' p l next ∧ RefL w' q v es l next ∧ w.heap.size ≤ q ∧ Below w.heap.size w w' ∧ Fine l next) := by
  have MD := Lib.hid (Ac.made_any A zs c w hA hz hl)
  have HB := Lib.hid hB
  clear hA hz hB
  go_enter Tryz.func10, Tryz.ntmps10
  go_wp2_with fail
  refine MD.out.mono ?_
  rintro e w1 ⟨v, es, nx, rfl, ho, hlen, hit, hap, hup, hnx, hb1⟩
  obtain ⟨A1, c1, l, rfl, hE, hids, hall⟩ := ents_made ho hit hup hnx.2
  have EA := Lib.hid hE
  have B1 := Lib.hid hb1
  have NIL := Lib.hid (show ∀ e ∈ es, (e.nA = none → e.nn = 0 ∧ e.nc = 0) ∧ (e.iA = none → e.m = 0 ∧ e.ic = 0) from fun e he => by
    obtain ⟨i, hi⟩ := List.mem_iff_getElem?.1 he
    obtain ⟨ns, vs, h1, h2, h3, h4, h5⟩ := hit i e hi
    exact ⟨own_nil h4, own_nil h5⟩)
  have FI := Lib.hid (show Fine l nx from ⟨by rw [← hE.len]; exact hlen, by rw [hids]; exact hup.1, fun e he => by
    have hm : e.1 ∈ es.map Ac.En.id := by rw [← hids]; exact List.mem_map.2 ⟨e, he, rfl⟩
    obtain ⟨d, hd, hde⟩ := List.mem_map.1 hm
    rw [← hde]
    exact hup.2 d hd, hnx, fun e he => by
    obtain ⟨h1, h2, h3, h4, h5⟩ := hall e he
    exact ⟨h1, fun u hu => (h2 u hu).1, h3, by omega, by omega⟩, fun e he => by
    obtain ⟨h1, h2, h3, h4, h5⟩ := hall e he
    exact ⟨h4, h5⟩, by
    unfold shutB okItems
    refine List.all_eq_true.2 fun e he => List.all_eq_true.2 fun u hu => ?_
    have := ((hall e he).2.1 u hu).2
    by_cases h5 : u.k = 5
    · simp [h5, this h5]
    · simp [h5]⟩)
  have B1' := hb1.size
  have BN1 := Lib.hid (show Bnds w1 from fun i hi => (hb1.cell (p := ⟨_, _, none⟩) HB.out.size).trans (HB.out i hi))
  clear ho hlen hit hap hup hnx hb1 hE hids hall MD
  go_wp2_with fail
  refine (load_any (fun g => w.heap.size ≤ g ∧ g < w1.heap.size) A1 es l nx l.length c1 w1 EA.out rfl (fun g h => h.2) (by have := FI.out.len; omega) FI.out.sorted FI.out.rng (by have := FI.out.nx; omega) FI.out.ok FI.out.shut BN1.out).mono ?_
  rintro e w2 ⟨p, rfl, hst⟩
  have S2 := Lib.hid (hst.out.since B1.out HB.out)
  have B2 := Lib.hid hst.out.below
  clear hst
  have z2 := B2.out.size
  go_wp2_with fail
  refine (refLoad_any (fun g => w.heap.size ≤ g ∧ g < w1.heap.size) A1 es l nx l.length c1 w2 (EA.out.keep fun b hb => ⟨hb, B2.out.block b hb.2⟩) rfl (fun g h => by omega) (by have := FI.out.len; omega) FI.out.sorted FI.out.rng (by have := FI.out.nx; omega) FI.out.ok FI.out.shut NIL.out).mono ?_
  rintro e w3 ⟨q, v, es', rfl, hr⟩
  obtain ⟨h1, h2, h3⟩ := hr.out
  have S3 := Lib.hid (S2.out.down h3)
  have R3 := Lib.hid h1
  have QB := Lib.hid (show w.heap.size ≤ q by omega)
  have B3 := Lib.hid ((B1.out.trans (B2.out.mono B1')).trans (h3.mono (by omega)))
  have hpn := ptr_ne p
  clear hr h1 h2 h3
  go_wp2_with fail
  go_ret3
  exact ⟨p, q, v, es', l, nx, rfl, Lib.hid ⟨S3.out, R3.out, QB.out, B3.out, FI.out⟩⟩
end Go.Proofs.YtkdpcnikgdbmaaaGreatDoor.Hp
namespace Go.Proofs.YtkdpcnikgdbmaaaGreatDoor.Hp
open Go Go.RowKit Go.Maps Va

theorem bytes_ne {x y : ByteArray} (h : ¬ x = y) : (x.toList == y.toList) = false := by
  rw [beq_eq_false_iff_ne]
  intro e
  rw [ByteArray.toList_eq, ByteArray.toList_eq] at e
  exact h (data_inj e)
theorem take_step {α : Type} {a b : List α} {q : Nat} (h1 : q < a.length) (h2 : q < b.length) : a.take (q + 1) = b.take (q + 1) ↔ a.take q = b.take q ∧ a[q] = b[q] := by
  rw [List.take_succ_eq_append_getElem h1, List.take_succ_eq_append_getElem h2]
  constructor
  · intro e
    have := List.append_inj e (by simp; omega)
    exact ⟨this.1, by simpa using this.2⟩
  · rintro ⟨e1, e2⟩
    rw [e1, e2]
instance : DecidableEq Val := fun a b => by
  cases a; cases b
  simp only [Val.mk.injEq]
  infer_instance
set_option maxHeartbeats 1000000 in
theorem strs_any (P Q : Nat → Prop) (A B : Option Addr) (a b : List ByteArray) (n c m d : Nat) (w : World) (hn : a.length = n) (hm : b.length = m) (hA : SlS w P A a) (hB : SlS w Q B b) (hl : n ≤ 4398046511104) (hm' : m ≤ 4398046511104) :
    Calls Tryz.prog 71 #[.slice A n c, .slice B m d] w fun e w' => e = .returned (.bool (decide (a = b))) ∧ Below w.heap.size w w' := by
  subst hn hm
  by_cases hlen : a.length = b.length
  · have HA := Lib.hid hA
    have HB := Lib.hid hB
    have hli : ((a.length : Int) != b.length) = false := by simp [hlen]
    have HL := Lib.hid hlen
    clear hA hB hlen
    go_enter Tryz.func71, Tryz.ntmps71
    go_wp2_with fail
    go_loopw [5] (fun i wr => ∃ q : Nat, q ≤ a.length ∧ i = .int .i64 q ∧ Hid (a.take q = b.take q) ∧ Hid (Below w.heap.size w wr)) (fun i _ => a.length - (intOf i).toNat)
    case atStart => exact ⟨0, by omega, rfl, Lib.hid rfl, Lib.hid (Below.refl _ _)⟩
    case round =>
      obtain ⟨q, hq, rfl, heq, hfr⟩ := hrel
      by_cases hlt : q < a.length
      · have hlt2 : q < b.length := by have := HL.out; omega
        obtain ⟨ga, oa, rfl, _, ca0⟩ := HA.out q _ (List.getElem?_eq_getElem hlt)
        obtain ⟨gb, ob, rfl, _, cb0⟩ := HB.out q _ (List.getElem?_eq_getElem hlt2)
        have ca := (hfr.out.cell (p := ⟨ga, oa + q, none⟩) (cell_lt ca0)).trans ca0
        have cb := (hfr.out.cell (p := ⟨gb, ob + q, none⟩) (cell_lt cb0)).trans cb0
        have ST := Lib.hid (take_step hlt hlt2)
        have ki : (q : Int) < a.length := by omega
        have kj : (q : Int) < b.length := by omega
        generalize a[q] = x at *
        generalize b[q] = y at *
        clear ca0 cb0
        by_cases hxy : x = y
        · subst hxy
          have E2 := Lib.hid (ST.out.2 ⟨heq.out, rfl⟩)
          go_wp2_with fail
          go_region
          have F2 := Lib.hid hfr.out.drew
          go_wp2_with fail
          go_roundw
          case rel => exact ⟨q + 1, by omega, by go_num, E2, F2⟩
          case measure => simp [intOf]; omega
        · have E2 := Lib.hid (show decide (a = b) = false from decide_eq_false fun e => hxy (ST.out.1 (by rw [e])).2)
          have hxy' := bytes_ne hxy
          clear hxy
          go_wp2_with fail
          go_region
          have F2 := Lib.hid hfr.out.drew
          go_wp2_with fail
          go_ret
          exact ⟨by rw [E2.out]; rfl, F2.out⟩
      · obtain rfl : q = a.length := by omega
        have E2 := Lib.hid (show decide (a = b) = true from decide_eq_true (by have := heq.out; rwa [List.take_length, HL.out, List.take_length] at this))
        go_wp2_with fail
        go_ret
        exact ⟨by rw [E2.out]; rfl, hfr.out⟩
  · have E : decide (a = b) = false := decide_eq_false (fun e => hlen (by rw [e]))
    rw [E]
    have hli : ((a.length : Int) != b.length) = true := by simp; omega
    clear hA hB E hlen
    go_enter Tryz.func71, Tryz.ntmps71
    go_wp2_with fail
    go_ret
    exact ⟨rfl, Below.refl _ _⟩
def veq (ka na kb nb : Int) (sa sb : ByteArray) : Bool := (ka == kb) && (na == nb) && (sa.toList == sb.toList)
theorem veq_is (ka na kb nb : Int) (sa sb : ByteArray) : veq ka na kb nb sa sb = decide ((⟨ka, na, sa⟩ : Val) = ⟨kb, nb, sb⟩) := by
  unfold veq
  rw [Bool.eq_iff_iff]
  simp only [Bool.and_eq_true, beq_iff_eq, decide_eq_true_eq, Val.mk.injEq]
  constructor
  · rintro ⟨⟨h1, h2⟩, h3⟩
    rw [ByteArray.toList_eq, ByteArray.toList_eq] at h3
    exact ⟨h1, h2, data_inj h3⟩
  · rintro ⟨h1, h2, h3⟩
    exact ⟨⟨h1, h2⟩, by rw [h3]⟩
theorem run_veq (ka na kb nb : Int) (sa sb : ByteArray) (w : World) : (Op.equalIn 10000 64 (.agg #[.int .i64 ka, .int .i64 na, .string sa]) (.agg #[.int .i64 kb, .int .i64 nb, .string sb])).run Tryz.prog w = .ok (decide ((⟨ka, na, sa⟩ : Val) = ⟨kb, nb, sb⟩)) w := by
  rw [← veq_is]
  unfold veq
  by_cases h1 : ka = kb <;> by_cases h2 : na = nb <;> by_cases h3 : sa.toList = sb.toList <;> simp [go_sem, h1, h2, h3]
set_option maxHeartbeats 1000000 in
theorem vals_any (P Q : Nat → Prop) (A B : Option Addr) (a b : List Val) (n c m d : Nat) (w : World) (hn : a.length = n) (hm : b.length = m) (hA : ValsAt w P A a) (hB : ValsAt w Q B b) (hl : n ≤ 4398046511104) (hm' : m ≤ 4398046511104) :
    Calls Tryz.prog 72 #[.slice A n c, .slice B m d] w fun e w' => e = .returned (.bool (decide (a = b))) ∧ Below w.heap.size w w' := by
  subst hn hm
  by_cases hlen : a.length = b.length
  · have HA := Lib.hid hA
    have HB := Lib.hid hB
    have hli : ((a.length : Int) != b.length) = false := by simp [hlen]
    have HL := Lib.hid hlen
    clear hA hB hlen
    go_enter Tryz.func72, Tryz.ntmps72
    go_wp2_with fail
    go_loopw [5] (fun i wr => ∃ q : Nat, q ≤ a.length ∧ i = .int .i64 q ∧ Hid (a.take q = b.take q) ∧ Hid (Below w.heap.size w wr)) (fun i _ => a.length - (intOf i).toNat)
    case atStart => exact ⟨0, by omega, rfl, Lib.hid rfl, Lib.hid (Below.refl _ _)⟩
    case round =>
      obtain ⟨q, hq, rfl, heq, hfr⟩ := hrel
      by_cases hlt : q < a.length
      · have hlt2 : q < b.length := by have := HL.out; omega
        obtain ⟨ga, oa, rfl, _, ca0, ca1, ca2⟩ := HA.out q _ (List.getElem?_eq_getElem hlt)
        obtain ⟨gb, ob, rfl, _, cb0, cb1, cb2⟩ := HB.out q _ (List.getElem?_eq_getElem hlt2)
        have da0 := (hfr.out.cell (p := ⟨ga, oa + q * 3, none⟩) (cell_lt ca0)).trans ca0
        have da1 := (hfr.out.cell (p := ⟨ga, oa + q * 3 + 1, none⟩) (cell_lt ca1)).trans ca1
        have da2 := (hfr.out.cell (p := ⟨ga, oa + q * 3 + 2, none⟩) (cell_lt ca2)).trans ca2
        have db0 := (hfr.out.cell (p := ⟨gb, ob + q * 3, none⟩) (cell_lt cb0)).trans cb0
        have db1 := (hfr.out.cell (p := ⟨gb, ob + q * 3 + 1, none⟩) (cell_lt cb1)).trans cb1
        have db2 := (hfr.out.cell (p := ⟨gb, ob + q * 3 + 2, none⟩) (cell_lt cb2)).trans cb2
        have ST := Lib.hid (take_step hlt hlt2)
        have ki : (q : Int) < a.length := by omega
        have kj : (q : Int) < b.length := by omega
        generalize a[q] = x at *
        generalize b[q] = y at *
        clear ca0 cb0 ca1 ca2 cb1 cb2
        obtain ⟨xk, xn, xs⟩ := x
        obtain ⟨yk, yn, ys⟩ := y
        simp only at da0 da1 da2 db0 db1 db2
        have hq := run_veq xk xn yk yn xs ys
        by_cases hxy : (⟨xk, xn, xs⟩ : Val) = ⟨yk, yn, ys⟩
        · have E2 := Lib.hid (ST.out.2 ⟨heq.out, hxy⟩)
          rw [decide_eq_true hxy] at hq
          clear hxy
          go_wp2_with fail
          go_region
          have F2 := Lib.hid hfr.out.drew
          go_wp2_with fail
          go_roundw
          case rel => exact ⟨q + 1, by omega, by go_num, E2, F2⟩
          case measure => simp [intOf]; omega
        · have E2 := Lib.hid (show decide (a = b) = false from decide_eq_false fun e => hxy (ST.out.1 (by rw [e])).2)
          rw [decide_eq_false hxy] at hq
          clear hxy
          go_wp2_with fail
          go_region
          have F2 := Lib.hid hfr.out.drew
          go_wp2_with fail
          go_ret
          exact ⟨by rw [E2.out]; rfl, F2.out⟩
      · obtain rfl : q = a.length := by omega
        have E2 := Lib.hid (show decide (a = b) = true from decide_eq_true (by have := heq.out; rwa [List.take_length, HL.out, List.take_length] at this))
        go_wp2_with fail
        go_ret
        exact ⟨by rw [E2.out]; rfl, hfr.out⟩
  · have E : decide (a = b) = false := decide_eq_false (fun e => hlen (by rw [e]))
    rw [E]
    have hli : ((a.length : Int) != b.length) = true := by simp; omega
    clear hA hB E hlen
    go_enter Tryz.func72, Tryz.ntmps72
    go_wp2_with fail
    go_ret
    exact ⟨rfl, Below.refl _ _⟩
instance : DecidableEq Cel := fun a b => by
  cases a; cases b
  simp only [Cel.mk.injEq]
  infer_instance
set_option maxHeartbeats 1000000 in
/-- Two cells that read alike. -/
theorem equal_any (P Q : Nat → Prop) (c d : Cel) (A B C D : Option Addr) (n nc m ic n' nc' m' ic' : Nat) (w : World) (hn : c.names.length = n) (hm : c.items.length = m) (hn' : d.names.length = n') (hm' : d.items.length = m') (hS : SlS w P A c.names) (hV : ValsAt w P B c.items) (hS' : SlS w Q C d.names) (hV' : ValsAt w Q D d.items)
    (hP : ∀ b, P b → b < w.heap.size) (hQ : ∀ b, Q b → b < w.heap.size) (l1 : n ≤ 4398046511104) (l2 : m ≤ 4398046511104) (l3 : n' ≤ 4398046511104) (l4 : m' ≤ 4398046511104) (r : Bool) (hr : decide (c = d) = r) :
    Calls Tryz.prog 28 #[celV c (.slice A n nc) (.slice B m ic), celV d (.slice C n' nc') (.slice D m' ic')] w fun e w' => e = .returned (.bool r) ∧ Below w.heap.size w w' := by
  have ST := Lib.hid (fun w' (hb : Below w.heap.size w w') => strs_any P Q A C c.names d.names n nc n' nc' w' hn hn' (hS.low hP hb) (hS'.low hQ hb) l1 l3)
  have VA := Lib.hid (fun w' (hb : Below w.heap.size w w') => vals_any P Q B D c.items d.items m ic m' ic' w' hm hm' (hV.low hP hb) (hV'.low hQ hb) l2 l4)
  have HR := Lib.hid hr
  clear hn hm hn' hm' hS hV hS' hV' hP hQ l1 l2 l3 l4 hr
  obtain ⟨k1, a1, f1, t1, ns1, vs1⟩ := c
  obtain ⟨k2, a2, f2, t2, ns2, vs2⟩ := d
  unfold celV
  simp only at ST VA ⊢
  have EQ := Lib.hid (show r = (decide (k1 = k2) && decide (a1 = a2) && decide (f1 = f2) && decide (t1 = t2) && decide (ns1 = ns2) && decide (vs1 = vs2)) by
    rw [← HR.out, Bool.eq_iff_iff]
    simp only [decide_eq_true_eq, Bool.and_eq_true, Cel.mk.injEq]
    constructor
    · rintro ⟨h1, h2, h3, h4, h5, h6⟩; exact ⟨⟨⟨⟨⟨h1, h2⟩, h3⟩, h4⟩, h5⟩, h6⟩
    · rintro ⟨⟨⟨⟨⟨h1, h2⟩, h3⟩, h4⟩, h5⟩, h6⟩; exact ⟨h1, h2, h3, h4, h5, h6⟩)
  by_cases q1 : k1 = k2
  · by_cases q2 : a1 = a2
    · by_cases q3 : f1 = f2
      · by_cases q4 : t1 = t2
        · subst q1 q2 q3 q4
          generalize decide (ns1 = ns2) = s1 at *
          generalize decide (vs1 = vs2) = s2 at *
          have EQ2 := Lib.hid (show r = (s1 && s2) by have := EQ.out; simpa using this)
          go_enter Tryz.func28, Tryz.ntmps28
          have HB0 := Lib.hid (show Below w.heap.size w ((w.alloc (.cells #[.int .i64 k1, .int .i64 a1, .int .i64 f1, .int .i64 t1, .slice A n nc, .slice B m ic] 46)).alloc (.cells #[.int .i64 k1, .int .i64 a1, .int .i64 f1, .int .i64 t1, .slice C n' nc', .slice D m' ic'] 46)) from ((Below.refl _ w).alloc (Nat.le_refl _) _).alloc (by simp) _)
          have KA := Lib.hid (show Bk ((w.alloc (.cells #[.int .i64 k1, .int .i64 a1, .int .i64 f1, .int .i64 t1, .slice A n nc, .slice B m ic] 46)).alloc (.cells #[.int .i64 k1, .int .i64 a1, .int .i64 f1, .int .i64 t1, .slice C n' nc', .slice D m' ic'] 46)) w.heap.size #[.int .i64 k1, .int .i64 a1, .int .i64 f1, .int .i64 t1, .slice A n nc, .slice B m ic] 46 from (Bk.new w _ _).alloc _)
          have KB := Lib.hid (show Bk ((w.alloc (.cells #[.int .i64 k1, .int .i64 a1, .int .i64 f1, .int .i64 t1, .slice A n nc, .slice B m ic] 46)).alloc (.cells #[.int .i64 k1, .int .i64 a1, .int .i64 f1, .int .i64 t1, .slice C n' nc', .slice D m' ic'] 46)) (w.heap.size + 1) #[.int .i64 k1, .int .i64 a1, .int .i64 f1, .int .i64 t1, .slice C n' nc', .slice D m' ic'] 46 from Bk.new2 w _ _ _)
          have SZ := Lib.hid (show ((w.alloc (.cells #[.int .i64 k1, .int .i64 a1, .int .i64 f1, .int .i64 t1, .slice A n nc, .slice B m ic] 46)).alloc (.cells #[.int .i64 k1, .int .i64 a1, .int .i64 f1, .int .i64 t1, .slice C n' nc', .slice D m' ic'] 46)).heap.size = w.heap.size + 2 by simp)
          go_wp2_with fail
          generalize ((w.alloc (.cells #[.int .i64 k1, .int .i64 a1, .int .i64 f1, .int .i64 t1, .slice A n nc, .slice B m ic] 46)).alloc (.cells #[.int .i64 k1, .int .i64 a1, .int .i64 f1, .int .i64 t1, .slice C n' nc', .slice D m' ic'] 46)) = W0 at *
          refine (ST.out _ HB0.out).mono ?_
          rintro e w1 ⟨rfl, hb1⟩
          have HB1 := Lib.hid (HB0.out.trans (hb1.mono HB0.out.size))
          have sz := SZ.out
          have a5 := (KA.out.below hb1 (by omega)).cell 5 (.slice B m ic) rfl
          have b5 := (KB.out.below hb1 (by omega)).cell 5 (.slice D m' ic') rfl
          clear hb1 sz
          cases s1
          · have e : r = false := by have := EQ2.out; simpa using this
            subst e
            go_wp2_with fail
            go_ret
            exact ⟨rfl, HB1.out⟩
          · have e : r = s2 := by have := EQ2.out; simpa using this
            subst e
            go_wp2_with fail
            refine (VA.out _ HB1.out).mono ?_
            rintro e w2 ⟨rfl, hb2⟩
            have HB2 := Lib.hid (HB1.out.trans (hb2.mono HB1.out.size))
            clear hb2
            go_wp2_with fail
            go_ret
            exact ⟨rfl, HB2.out⟩
        · have e : r = false := by have := EQ.out; simpa [q4] using this
          subst e
          have hq : (t1 == t2) = false := by simp [q4]
          clear ST VA HR EQ
          go_enter Tryz.func28, Tryz.ntmps28
          go_wp2_with fail
          go_ret
          exact ⟨rfl, ((Below.refl _ w).alloc (Nat.le_refl _) _).alloc (by simp) _⟩
      · have e : r = false := by have := EQ.out; simpa [q3] using this
        subst e
        have hq : (f1 == f2) = false := by simp [q3]
        clear ST VA HR EQ
        go_enter Tryz.func28, Tryz.ntmps28
        go_wp2_with fail
        go_ret
        exact ⟨rfl, ((Below.refl _ w).alloc (Nat.le_refl _) _).alloc (by simp) _⟩
    · have e : r = false := by have := EQ.out; simpa [q2] using this
      subst e
      have hq : (a1 == a2) = false := by simp [q2]
      clear ST VA HR EQ
      go_enter Tryz.func28, Tryz.ntmps28
      go_wp2_with fail
      go_ret
      exact ⟨rfl, ((Below.refl _ w).alloc (Nat.le_refl _) _).alloc (by simp) _⟩
  · have e : r = false := by have := EQ.out; simpa [q1] using this
    subst e
    have hq : (k1 == k2) = false := by simp [q1]
    clear ST VA HR EQ
    go_enter Tryz.func28, Tryz.ntmps28
    go_wp2_with fail
    go_ret
    exact ⟨rfl, ((Below.refl _ w).alloc (Nat.le_refl _) _).alloc (by simp) _⟩
end Go.Proofs.YtkdpcnikgdbmaaaGreatDoor.Hp
namespace Go.Proofs.YtkdpcnikgdbmaaaGreatDoor.Hp
open Go Go.RowKit Go.Maps Va

def nmL : List ByteArray := [⟨#[120]⟩, ⟨#[121]⟩, ⟨#[110, 101, 120, 116]⟩, ⟨#[122]⟩, ⟨#[119]⟩, ⟨#[]⟩]
set_option maxHeartbeats 1000000 in
theorem name_any (n : Int) (hn : I64 n) (w : World) : Calls Tryz.prog 43 #[.int .i64 n] w fun e w' => ∃ s, e = .returned (.string s) ∧ Hid (nmL[(n % 6).toNat]? = some s ∧ Below w.heap.size w w') := by
  have M := Lib.hid (fun w => Ac.mod_any n 6 hn (by omega) (by omega) w)
  go_enter Tryz.func43, Tryz.ntmps43
  go_wp2_with fail
  refine (M.out _).mono ?_
  rintro e w1 ⟨rfl, rfl⟩
  obtain ⟨m, hm⟩ : ∃ m : Nat, n % 6 = m := ⟨(n % 6).toNat, by omega⟩
  have m6 : m < 6 := by omega
  have mi : (m : Int) < 6 := by omega
  have hs := List.getElem?_eq_getElem (l := nmL) (i := m) m6
  have c0 := (Bk.new w (nmL.map Value.string).toArray 9).cell m (.string nmL[m]) (by rw [List.getElem?_toArray, List.getElem?_map, hs]; rfl)
  have HS := Lib.hid (show nmL[(n % 6).toNat]? = some nmL[m] by rw [hm]; exact hs)
  have HB := Lib.hid ((Below.refl w.heap.size w).alloc (Nat.le_refl _) (.cells (nmL.map Value.string).toArray 9))
  rw [hm]
  generalize nmL[m] = s at *
  change (w.alloc (.cells #[.string ⟨#[120]⟩, .string ⟨#[121]⟩, .string ⟨#[110, 101, 120, 116]⟩, .string ⟨#[122]⟩, .string ⟨#[119]⟩, .string ⟨#[]⟩] 9)).cell? _ = _ at c0
  change Hid (Below w.heap.size w (w.alloc (.cells #[.string ⟨#[120]⟩, .string ⟨#[121]⟩, .string ⟨#[110, 101, 120, 116]⟩, .string ⟨#[122]⟩, .string ⟨#[119]⟩, .string ⟨#[]⟩] 9))) at HB
  clear hs hm M
  generalize w.alloc (.cells #[.string ⟨#[120]⟩, .string ⟨#[121]⟩, .string ⟨#[110, 101, 120, 116]⟩, .string ⟨#[122]⟩, .string ⟨#[119]⟩, .string ⟨#[]⟩] 9) = W1 at *
  go_wp2_with fail
  go_ret
  exact ⟨s, rfl, Lib.hid ⟨HS.out, HB.out⟩⟩
theorem st_entries (w0 w : World) (p : Nat) (l : List Ent) (next : Int) (h : St w0 w p l next) (hf : Fine l next) :
    Calls Tryz.prog 14 #[.pointer (some ⟨p, 0, none⟩)] w fun e w' => ∃ v es, e = .returned v ∧ Hid (Cps w' w.heap.size v es l ∧ Below w.heap.size w w') := by
  obtain ⟨F, mb, f, h⟩ := h
  exact entries_any F p mb f l next w (by have := hf.len; omega) hf.okay.ids h.heap h.fl fun e he => by have := hf.few e he; omega
theorem st_set_bad (w0 w : World) (p : Nat) (l : List Ent) (next : Int) (v x : Val) (nm : ByteArray) (h : St w0 w p l next) (hid : I64 v.n) (hu : operF l 1 v [x] ≠ ⟨#[]⟩) :
    Calls Tryz.prog 33 #[.pointer (some ⟨p, 0, none⟩), valV v, .string nm, valV x] w fun e w' => e = .returned (.tuple #[.bool false, .string (operF l 1 v [x])]) ∧ Below w.heap.size w w' := by
  obtain ⟨F, mb, f, h⟩ := h
  exact set_bad F p mb f l next v x nm w h.heap h.fl hid hu
theorem st_set_range (w0 w : World) (p : Nat) (l : List Ent) (next : Int) (v x : Val) (nm : ByteArray) (c0 : Cel) (h : St w0 w p l next) (hid : I64 v.n) (hv : v.k = 5) (hx : x.k ≠ 0) (hm : (v.n, c0) ∈ l) (hk0 : c0.kind = 1) (hl : c0.names.length ≤ 4398046511104) (hp : pos c0.names nm = none) (hr : nm.toList.isEmpty = true ∨ (nm.toList.isEmpty = false ∧ 64 ≤ c0.items.length)) :
    Calls Tryz.prog 33 #[.pointer (some ⟨p, 0, none⟩), valV v, .string nm, valV x] w fun e w' => e = .returned (.tuple #[.bool false, .string sRange]) ∧ Below w.heap.size w w' := by
  obtain ⟨F, mb, f, h⟩ := h
  exact set_range F p mb f l next v x nm c0 w h.heap h.fl hid hv hx hm hk0 hl hp hr
theorem st_getf_item (w0 w : World) (p : Nat) (l : List Ent) (next : Int) (v x : Val) (nm : ByteArray) (j : Nat) (c0 : Cel) (h : St w0 w p l next) (hid : I64 v.n) (hv : v.k = 5) (hm : (v.n, c0) ∈ l) (hk0 : c0.kind = 1) (hl : c0.names.length ≤ 4398046511104) (hp : pos c0.names nm = some j) (hx : c0.items[j]? = some x) :
    Calls Tryz.prog 37 #[.pointer (some ⟨p, 0, none⟩), valV v, .string nm] w fun e w' => e = .returned (.tuple #[valV x, .string ⟨#[]⟩]) ∧ Below w.heap.size w w' := by
  obtain ⟨F, mb, f, h⟩ := h
  exact getf_item F p mb f l next v x nm j c0 w h.heap h.fl hid hv hm hk0 hl hp hx
theorem ent_one {l : List Ent} (hs : (ids l).Pairwise (· < ·)) {i : Int} {c d : Cel} (h1 : (i, c) ∈ l) (h2 : (i, d) ∈ l) : c = d := by
  obtain ⟨a, ha⟩ := List.mem_iff_getElem?.1 h1
  obtain ⟨b, hb⟩ := List.mem_iff_getElem?.1 h2
  have la := (List.getElem?_eq_some_iff.1 ha).1
  have lb := (List.getElem?_eq_some_iff.1 hb).1
  have ea : (ids l)[a]'(by rw [ids_len]; exact la) = i := by simp [ids, (List.getElem?_eq_some_iff.1 ha).2]
  have eb : (ids l)[b]'(by rw [ids_len]; exact lb) = i := by simp [ids, (List.getElem?_eq_some_iff.1 hb).2]
  have hab : a = b := by
    rcases Nat.lt_trichotomy a b with h | h | h
    · have := List.pairwise_iff_getElem.1 hs a b (by rw [ids_len]; exact la) (by rw [ids_len]; exact lb) h
      omega
    · exact h
    · have := List.pairwise_iff_getElem.1 hs b a (by rw [ids_len]; exact lb) (by rw [ids_len]; exact la) h
      omega
  subst hab
  rw [ha] at hb
  injection hb with hb
  injection hb
theorem oper_type {l : List Ent} (hs : (ids l).Pairwise (· < ·)) {i r : Int} {c : Cel} (hm : (i, c) ∈ l) (hk : c.kind ≠ 1) : operF l 1 ⟨5, i, ⟨#[]⟩⟩ [⟨3, r, ⟨#[]⟩⟩] = sType := by
  rcases operF_cases l 1 ⟨5, i, ⟨#[]⟩⟩ [⟨3, r, ⟨#[]⟩⟩] with ⟨e, h⟩ | ⟨e, _⟩ | ⟨e, _⟩ | ⟨_, _, d, hd, h1⟩
  · cases h
  · exact e
  · exact e
  · exact absurd (by rw [ent_one hs hm (denC_some hd).2]; exact h1) hk
theorem in_setC {l : List Ent} {i : Int} {c d : Cel} (hm : (i, c) ∈ l) : (i, d) ∈ setC l i d := by
  unfold setC
  exact List.mem_map.2 ⟨(i, c), hm, if_pos rfl⟩
/-- Blocks that were made behind a heap are as they were. -/
def Far (w1 w w' : World) : Prop := w.heap.size ≤ w'.heap.size ∧ ∀ g, w1.heap.size ≤ g → g < w.heap.size → w'.heap[g]? = w.heap[g]?
theorem Far.of {w1 w w' : World} (h : Below w.heap.size w w') : Far w1 w w' := ⟨h.size, fun g _ hg => h.block g hg⟩
theorem Far.bk {w1 w w' : World} (h : Far w1 w w') {b : Nat} {c : Array Value} {T : TypeId} (hb : Bk w b c T) (h1 : w1.heap.size ≤ b) : Bk w' b c T := (h.2 b h1 hb.lt).trans hb
/-- What a call of Set with a number does to a cell. -/
def SetOut (cel : Cel) (s : ByteArray) (r : Int) (gr : Bool) (ft : ByteArray) (d : Cel) : Prop :=
  (cel.kind ≠ 1 ∧ gr = false ∧ ft = sType ∧ d = cel) ∨
  (cel.kind = 1 ∧ pos cel.names s = none ∧ s.toList.isEmpty = true ∧ gr = false ∧ ft = sRange ∧ d = cel) ∨
  (cel.kind = 1 ∧ (∃ j, pos cel.names s = some j ∧ j < cel.items.length ∧ d = cel.put j ⟨3, r, ⟨#[]⟩⟩) ∧ gr = false ∧ ft = ⟨#[]⟩) ∨
  (cel.kind = 1 ∧ pos cel.names s = none ∧ s.toList.isEmpty = false ∧ gr = true ∧ ft = ⟨#[]⟩ ∧ d = ⟨cel.kind, cel.cls, cel.fn, cel.ten, cel.names ++ [s], cel.items ++ [⟨3, r, ⟨#[]⟩⟩]⟩)
theorem SetOut.few {cel d : Cel} {s ft : ByteArray} {r : Int} {gr : Bool} (h : SetOut cel s r gr ft d) (hn : cel.names.length ≤ 3 ∧ cel.items.length ≤ 3) : d.names.length ≤ 4 ∧ d.items.length ≤ 4 := by
  rcases h with ⟨_, _, _, rfl⟩ | ⟨_, _, _, _, _, rfl⟩ | ⟨_, ⟨j, _, _, rfl⟩, _⟩ | ⟨_, _, _, _, _, rfl⟩
  · omega
  · omega
  · unfold Cel.put; simp only [List.length_set]; omega
  · simp only [List.length_append, List.length_cons, List.length_nil]; omega
/-- What Set leaves of an object, seen by its fields. -/
structure Fld (cel : Cel) (s : ByteArray) (r : Int) (gr : Bool) (d : Cel) : Prop where
  kind : d.kind = 1
  at_ : ∃ j, pos d.names s = some j ∧ d.items[j]? = some ⟨3, r, ⟨#[]⟩⟩
  nms : ∀ (k : Nat), k < cel.names.length → d.names[k]? = cel.names[k]?
  its : ∀ (k : Nat) (o : ByteArray), cel.names[k]? = some o → o ≠ s → d.items[k]? = cel.items[k]?
  nlen : d.names.length = cel.names.length + (if gr then 1 else 0)
  ilen : d.items.length = cel.names.length + (if gr then 1 else 0)
  last : gr = true → d.names[cel.names.length]? = some s
  same : cel.items.length = cel.names.length
theorem pos_append {l : List ByteArray} {s : ByteArray} (h : pos l s = none) : pos (l ++ [s]) s = some l.length := by
  induction l with
  | nil => simp [pos]
  | cons z l ih =>
    unfold pos at h
    split at h
    · cases h
    · rename_i hz
      have h' : pos l s = none := by
        cases hp : pos l s with
        | none => rfl
        | some j => rw [hp] at h; cases h
      rw [List.cons_append]
      unfold pos
      rw [if_neg hz, ih h']
      simp
theorem fld_item {cel : Cel} {s : ByteArray} {r : Int} {j : Nat} (hk : cel.kind = 1) (hl : cel.names.length = cel.items.length) (hp : pos cel.names s = some j) (hj : j < cel.items.length) : Fld cel s r false (cel.put j ⟨3, r, ⟨#[]⟩⟩) := by
  refine ⟨hk, ⟨j, hp, by unfold Cel.put; simp [hj]⟩, fun k _ => rfl, fun k o ho hne => ?_, by unfold Cel.put; simp, by unfold Cel.put; simp [hl], fun h => (by cases h), hl.symm⟩
  unfold Cel.put
  simp only
  rw [List.getElem?_set_ne]
  rintro rfl
  have := (pos_lt hp).2
  rw [this] at ho
  injection ho with ho
  exact hne ho.symm
theorem fld_add {cel : Cel} {s : ByteArray} {r : Int} (hk : cel.kind = 1) (hl : cel.names.length = cel.items.length) (hp : pos cel.names s = none) : Fld cel s r true ⟨cel.kind, cel.cls, cel.fn, cel.ten, cel.names ++ [s], cel.items ++ [⟨3, r, ⟨#[]⟩⟩]⟩ := by
  refine ⟨hk, ⟨cel.names.length, pos_append hp, by rw [hl]; simp⟩, fun k hk' => List.getElem?_append_left hk', fun k o ho hne => ?_, by simp, by simp [hl], fun _ => by simp, hl.symm⟩
  have := (List.getElem?_eq_some_iff.1 ho).1
  exact List.getElem?_append_left (by omega)
theorem st_set_any (w0 w1 w : World) (p : Nat) (l : List Ent) (next i r : Int) (s : ByteArray) (cel : Cel) (h : St w0 w1 p l next) (hb : Below w1.heap.size w1 w) (hf : Fine l next) (hm : (i, cel) ∈ l) (hi : I64 i) :
    ∃ gr ft d, SetOut cel s r gr ft d ∧ Calls Tryz.prog 33 #[.pointer (some ⟨p, 0, none⟩), .agg #[.int .i64 5, .int .i64 i, .string ⟨#[]⟩], .string s, .agg #[.int .i64 3, .int .i64 r, .string ⟨#[]⟩]] w fun e w' =>
      e = .returned (.tuple #[.bool gr, .string ft]) ∧ Hid ((∃ l', St w0 w' p l' next ∧ (i, d) ∈ l') ∧ Far w1 w w') := by
  obtain ⟨n3, i3⟩ := hf.few _ hm
  simp only at n3 i3
  obtain ⟨_, _, hni⟩ := right_len (hf.ok _ hm).1
  simp only at hni
  have hd := h.down hb
  by_cases hk : cel.kind = 1
  · cases hp : pos cel.names s with
    | none =>
      by_cases he : s.toList.isEmpty = true
      · refine ⟨false, sRange, cel, .inr (.inl ⟨hk, hp, he, rfl, rfl, rfl⟩), (st_set_range w0 w p l next ⟨5, i, ⟨#[]⟩⟩ ⟨3, r, ⟨#[]⟩⟩ s cel hd hi rfl (by simp) hm hk (by omega) hp (.inl he)).mono ?_⟩
        rintro e w' ⟨rfl, hb'⟩
        exact ⟨rfl, Lib.hid ⟨⟨l, hd.down hb', hm⟩, Far.of hb'⟩⟩
      · have he : s.toList.isEmpty = false := by simpa using he
        obtain ⟨F, mb, f, h⟩ := h
        have H := h.heap.low h.fl hb
        refine ⟨true, ⟨#[]⟩, _, .inr (.inr (.inr ⟨hk, hp, he, rfl, rfl, rfl⟩)), (set_add F p mb f l next ⟨5, i, ⟨#[]⟩⟩ ⟨3, r, ⟨#[]⟩⟩ s cel w H (fun g hg => Nat.lt_of_lt_of_le (h.fl g hg) hb.size) hi rfl (by simp) hm hk (by omega) hp he (by omega)).mono ?_⟩
        rintro e w' ⟨rfl, hh⟩
        obtain ⟨f', H', _, hfr⟩ := hh.out
        have h2 : St0 w0 w F p mb f l next := ⟨H, fun g hg => ⟨(h.own g hg).1, Nat.lt_of_lt_of_le (h.own g hg).2 hb.size⟩, h.low.trans (hb.mono h.low.size), h.bnd⟩
        exact ⟨rfl, Lib.hid ⟨⟨_, St.turned h2 H' hfr, in_setC hm⟩, hfr.size, fun g h1 h2 => hfr.block g h2 fun hF => by have := (h.own g hF).2; omega⟩⟩
    | some j =>
      have hj : j < cel.items.length := by have := (pos_lt hp).1; have := hni hk; omega
      obtain ⟨F, mb, f, h⟩ := h
      have H := h.heap.low h.fl hb
      refine ⟨false, ⟨#[]⟩, _, .inr (.inr (.inl ⟨hk, ⟨j, hp, hj, rfl⟩, rfl, rfl⟩)), (set_item F p mb f l next ⟨5, i, ⟨#[]⟩⟩ ⟨3, r, ⟨#[]⟩⟩ s j cel w H (fun g hg => Nat.lt_of_lt_of_le (h.fl g hg) hb.size) hi rfl (by simp) hm hk (by omega) hp hj).mono ?_⟩
      rintro e w' ⟨rfl, hh⟩
      have h2 : St0 w0 w F p mb f l next := ⟨H, fun g hg => ⟨(h.own g hg).1, Nat.lt_of_lt_of_le (h.own g hg).2 hb.size⟩, h.low.trans (hb.mono h.low.size), h.bnd⟩
      exact ⟨rfl, Lib.hid ⟨⟨_, St.turned0 h2 hh.out.1 hh.out.2, in_setC hm⟩, hh.out.2.size, fun g h1 h2 => hh.out.2.block g h2 fun hF => by have := (h.own g hF).2; omega⟩⟩
  · have ot := oper_type (r := r) hf.sorted hm hk
    refine ⟨false, sType, cel, .inl ⟨hk, rfl, rfl, rfl⟩, (st_set_bad w0 w p l next ⟨5, i, ⟨#[]⟩⟩ ⟨3, r, ⟨#[]⟩⟩ s hd hi (by rw [ot]; decide)).mono ?_⟩
    rintro e w' ⟨rfl, hb'⟩
    exact ⟨by rw [ot], Lib.hid ⟨⟨l, hd.down hb', hm⟩, Far.of hb'⟩⟩
end Go.Proofs.YtkdpcnikgdbmaaaGreatDoor.Hp
