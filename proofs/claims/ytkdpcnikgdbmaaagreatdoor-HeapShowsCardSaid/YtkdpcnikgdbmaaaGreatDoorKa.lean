/-
  The reference's Index.
  The reference's Right on right cells.
  The reference's Copy.
  The reference's place.
-/
import Derived.Test.YtkdpcnikgdbmaaaGreatDoorHs
import Derived.Test.YtkdpcnikgdbmaaaGreatDoorKr
import Derived.Test.YtkdpcnikgdbmaaaGreatDoorNc
namespace Go.Proofs.YtkdpcnikgdbmaaaGreatDoor.Hp
open Go Go.RowKit Go.Maps Va

theorem pos_at {l : List ByteArray} {x : ByteArray} {j : Nat} (h : l[j]? = some x) (hn : x ∉ l.take j) : pos l x = some j := by
  induction l generalizing j with
  | nil => simp at h
  | cons z l ih =>
    unfold pos
    rcases j with _ | j
    · rw [if_pos (by simpa using h)]
    · have hz : ¬ z = x := fun e => hn (by rw [List.take_succ_cons, e]; exact List.mem_cons_self)
      rw [if_neg hz, ih (by simpa using h) (fun hm => hn (by rw [List.take_succ_cons]; exact List.mem_cons_of_mem _ hm))]
      rfl
theorem pos_not {l : List ByteArray} {x : ByteArray} (h : x ∉ l) : pos l x = none := by
  induction l with
  | nil => rfl
  | cons z l ih =>
    unfold pos
    rw [if_neg (fun e => h (by rw [e]; exact List.mem_cons_self)), ih (fun hm => h (List.mem_cons_of_mem _ hm))]
    rfl
theorem refIndex_any (P : Nat → Prop) (A : Option Addr) (xs : List ByteArray) (n c : Nat) (x : ByteArray) (w : World) (hn : xs.length = n) (h : SlS w P A xs) (hx : n ≤ 4398046511104) :
    Calls Tryz.prog 84 #[.slice A n c, .string x] w fun e w' => e = .returned (.int .i64 (posI xs x)) ∧ w = w' := by
  subst hn
  have HS := Lib.hid h
  clear h
  go_enter Tryz.func84, Tryz.ntmps84
  go_wp2_with fail
  go_loopw [5] (fun i wr => ∃ k : Nat, k ≤ xs.length ∧ i = .int .i64 k ∧ Hid (x ∉ xs.take k) ∧ w = wr) (fun i _ => xs.length - (intOf i).toNat)
  case atStart => exact ⟨0, by omega, rfl, Lib.hid (by simp), rfl⟩
  case round =>
    obtain ⟨k, hk, rfl, hnot, rfl⟩ := hrel
    by_cases hlt : k < xs.length
    · have hg := List.getElem?_eq_getElem hlt
      have HG := Lib.hid hg
      have TK := Lib.hid (List.take_succ_eq_append_getElem hlt)
      obtain ⟨b, o, rfl, hb, hc⟩ := HS.out k _ hg
      have ki : (k : Int) < xs.length := by omega
      generalize xs[k] = z at *
      clear hg
      by_cases hz : z = x
      · subst hz
        have hp : posI xs z = k := by unfold posI; rw [pos_at HG.out hnot.out]
        have HPI := Lib.hid hp
        clear hp
        go_wp2_with fail
        go_ret
        exact ⟨by rw [HPI.out]; rfl, rfl⟩
      · have hz' : (z.toList == x.toList) = false := by
          rw [beq_eq_false_iff_ne]
          intro e
          rw [ByteArray.toList_eq, ByteArray.toList_eq] at e
          exact hz (data_inj e)
        have NT := Lib.hid (show x ∉ xs.take (k + 1) by
          rw [TK.out]
          intro hm
          rcases List.mem_append.1 hm with hm | hm
          · exact hnot.out hm
          · exact hz (List.mem_singleton.1 hm).symm)
        clear hz
        go_wp2_with fail
        go_roundw
        case rel => exact ⟨k + 1, by omega, by go_num, NT, by trivial⟩
        case measure => simp [intOf]; omega
    · have hp : posI xs x = -1 := by unfold posI; rw [pos_not (by have := hnot.out; rwa [List.take_of_length_le (by omega)] at this)]
      have HPI := Lib.hid hp
      clear hp
      have hge : (xs.length : Int) ≤ k := by omega
      go_wp2_with fail
      go_ret
      exact ⟨by rw [HPI.out]; rfl, rfl⟩
end Go.Proofs.YtkdpcnikgdbmaaaGreatDoor.Hp
namespace Go.Proofs.YtkdpcnikgdbmaaaGreatDoor.Hp
open Go Go.RowKit Go.Maps Va

set_option maxRecDepth 100000 in
set_option maxHeartbeats 2000000 in
theorem refRight_cell (P : Nat → Prop) (c : Cel) (A B : Option Addr) (n nc m ic : Nat) (w : World) (hn : c.names.length = n) (hm : c.items.length = m) (hS : SlS w P A c.names) (hV : ValsAt w P B c.items) (hP : ∀ b, P b → b < w.heap.size) (hn' : n ≤ 4398046511104) (hm' : m ≤ 64)
    (hf : ∀ v ∈ c.items, okB v = true ∧ v.s.size ≤ maxLen) (ht : 0 ≤ c.ten ∧ c.ten < 4)
    (hk : (c.kind = 1 ∧ 0 ≤ c.cls ∧ c.fn = 0 ∧ n = m ∧ (∀ j s, c.names[j]? = some s → s.size ≠ 0 ∧ pos c.names s = some j)) ∨ (c.kind = 2 ∧ c.cls = 0 ∧ c.fn = 0 ∧ n = 0) ∨ (c.kind = 3 ∧ c.cls = 0 ∧ 0 ≤ c.fn ∧ n = 0) ∨ (c.kind = 4 ∧ c.cls = 0 ∧ c.fn = 0 ∧ n = 0 ∧ ∃ v, c.items = [v] ∧ (v.k = 1 ∨ v.k = 5))) :
    Calls Tryz.prog 57 #[celV c (.slice A n nc) (.slice B m ic)] w fun e w' => e = .returned (.bool true) ∧ Below w.heap.size w w' := by
  obtain ⟨kind, cls, fn, ten, names, items⟩ := c
  unfold celV
  simp only at *
  subst hn; subst hm
  obtain ⟨t0, t1⟩ := ht
  have KS := Lib.hid (fun (w' : World) (hb : Below w.heap.size w w') => hS.low hP hb)
  have KV := Lib.hid (fun (w' : World) (hb : Below w.heap.size w w') => hV.low hP hb)
  have HF := Lib.hid hf
  have HK := Lib.hid hk
  clear hS hV hP hf hk
  have ht1 : ¬ 4 ≤ ten := by omega
  have hm1 : ¬ 64 < (items.length : Int) := by omega
  go_enter Tryz.func57, Tryz.ntmps57
  have K1 := Lib.hid (Bk.new w #[.int .i64 kind, .int .i64 cls, .int .i64 fn, .int .i64 ten, .slice A names.length nc, .slice B items.length ic] 46)
  have B1 := Lib.hid ((Below.refl _ w).alloc (Nat.le_refl _) (.cells #[.int .i64 kind, .int .i64 cls, .int .i64 fn, .int .i64 ten, .slice A names.length nc, .slice B items.length ic] 46))
  have s1 : (w.alloc (.cells #[.int .i64 kind, .int .i64 cls, .int .i64 fn, .int .i64 ten, .slice A names.length nc, .slice B items.length ic] 46)).heap.size = w.heap.size + 1 := World.size_alloc ..
  go_wp2_with fail
  generalize w.alloc (.cells #[.int .i64 kind, .int .i64 cls, .int .i64 fn, .int .i64 ten, .slice A names.length nc, .slice B items.length ic] 46) = w1 at *
  go_loopw [3] (fun i wr => ∃ k : Nat, k ≤ items.length ∧ i = .int .i64 k ∧ Hid (Below w1.heap.size w1 wr)) (fun i _ => items.length - (intOf i).toNat)
  case atStart => exact ⟨0, by omega, rfl, Lib.hid (Below.refl _ _)⟩
  case round =>
    obtain ⟨k, hk, rfl, hbr⟩ := hrel
    have Br := Lib.hid (show Below w.heap.size w wr from B1.out.trans (hbr.out.mono (by omega)))
    have Kr := Lib.hid (K1.out.below hbr.out (by omega))
    have srz := hbr.out.size
    by_cases hlt : k < items.length
    · have hg := List.getElem?_eq_getElem hlt
      obtain ⟨b, o, rfl, hb, x0, x1, x2⟩ := KV.out _ Br.out k _ hg
      obtain ⟨v1, v2⟩ := HF.out _ (List.getElem_mem hlt)
      have ki : (k : Int) < items.length := by omega
      generalize items[k] = v at *
      clear hg
      obtain ⟨vk, vn, vs⟩ := v
      simp only at x0 x1 x2 v2
      have hr : rightB vk vn vs = true := by
        unfold okB Val.right at v1
        simp only [Bool.and_eq_true] at v1
        exact v1.2
      have vk0 : (vk == 0) = false := by
        unfold okB at v1
        simp only [Bool.and_eq_true] at v1
        simpa using v1.1
      have RR := Lib.hid (fun (W : World) => refRight_at vk vn vs true hr v2 W)
      unfold vv at RR
      have k5 := Kr.out.cell 5 _ rfl
      clear v1 hr v2
      go_wp2_with fail
      refine (RR.out _).mono ?_
      rintro e w2 ⟨rfl, hb2⟩
      have BR2 := Lib.hid (show Below w1.heap.size w1 w2 from hbr.out.trans (hb2.mono srz))
      have B2 := Lib.hid (show Below w.heap.size w w2 from B1.out.trans (BR2.out.mono (by omega)))
      have k5' := (K1.out.below BR2.out (by omega)).cell 5 (.slice (some ⟨b, o, none⟩) items.length ic) rfl
      have y0 := (hb2.cell (p := ⟨b, o + k * 3, none⟩) (by exact cell_lt x0)).trans x0
      clear hb2 RR x0 x1 x2 k5
      go_wp2_with fail
      go_roundw
      case rel => exact ⟨k + 1, by omega, by go_num, BR2⟩
      case measure => simp [intOf]; omega
    · obtain rfl : k = items.length := by omega
      have k0 := Kr.out.cell 0 (.int .i64 kind) rfl
      have k1 := Kr.out.cell 1 (.int .i64 cls) rfl
      have k2 := Kr.out.cell 2 (.int .i64 fn) rfl
      have k4 := Kr.out.cell 4 (.slice A names.length nc) rfl
      have k5 := Kr.out.cell 5 (.slice B items.length ic) rfl
      rcases HK.out with ⟨rfl, c1, rfl, c3, c4⟩ | ⟨rfl, rfl, rfl, c3⟩ | ⟨rfl, rfl, c2, c3⟩ | ⟨rfl, rfl, rfl, c3, v, rfl, c5⟩
      · have C4 := Lib.hid c4
        have C3 := Lib.hid c3
        clear c4 c3 HK
        go_wp2_with fail
        go_loopw [5] (fun i wr => ∃ k : Nat, k ≤ names.length ∧ i = .int .i64 k ∧ Hid (Below w1.heap.size w1 wr)) (fun i _ => names.length - (intOf i).toNat)
        case atStart => exact ⟨0, by omega, rfl, hbr⟩
        case round =>
          clear Kr Br k0 k1 k2 k4 k5
          obtain ⟨k, hk, rfl, hbr2⟩ := hrel
          have Br := Lib.hid (show Below w.heap.size w wr from B1.out.trans (hbr2.out.mono (by omega)))
          have Kr := Lib.hid (K1.out.below hbr2.out (by omega))
          have k4 := Kr.out.cell 4 (.slice A names.length nc) rfl
          by_cases hlt : k < names.length
          · have hg := List.getElem?_eq_getElem hlt
            obtain ⟨q1, q2⟩ := C4.out k _ hg
            have HS := Lib.hid (KS.out _ Br.out)
            obtain ⟨b, o, rfl, hb, x0⟩ := HS.out k _ hg
            have ki : (k : Int) < names.length := by omega
            generalize names[k] = s at *
            clear hg
            have q3 : posI names s = (k : Int) := by unfold posI; rw [q2]
            have IX := Lib.hid (fun (d : Nat) => show Calls Tryz.prog 84 #[.slice (some ⟨b, o, none⟩) names.length nc, .string s] (wr.drewN d) fun e w' => e = .returned (.int .i64 k) ∧ ∃ m, w' = wr.drewN m from (refIndex_any P (some ⟨b, o, none⟩) names names.length nc s (wr.drewN d) rfl (HS.out.keep fun b hb => ⟨hb, rfl⟩) hn').mono fun e w' ⟨he, hw⟩ => ⟨by rw [he, q3], d, hw.symm⟩)
            have q1' : (s.toList == []) = false := by
              rw [beq_eq_false_iff_ne]
              intro e
              apply q1
              rw [ByteArray.toList_eq] at e
              have : s = ⟨#[]⟩ := data_inj (by simpa using e)
              rw [this]; rfl
            clear q1 q2 q3
            go_wp2_with fail
            go_quiet ((go_at_call 84; exact IX.out _))
            clear IX x0
            have BQ := Lib.hid (show Below w1.heap.size w1 (wr.drewN nq) from ⟨hbr2.out.os, hbr2.out.tape, hbr2.out.output, hbr2.out.size, hbr2.out.block⟩)
            go_wp2_with fail
            go_roundw
            case rel => exact ⟨k + 1, by omega, by go_num, BQ⟩
            case measure => simp [intOf]; omega
          · have hge : (names.length : Int) ≤ k := by omega
            have k1 := Kr.out.cell 1 (.int .i64 cls) rfl
            have k2 := Kr.out.cell 2 (.int .i64 0) rfl
            have k5 := Kr.out.cell 5 (.slice B items.length ic) rfl
            have c3 : (names.length : Int) = items.length := by have := C3.out; omega
            go_wp2_with fail
            go_ret
            exact ⟨ret_bool (by simp), Br.out⟩
      · clear HK
        go_wp2_with fail
        go_ret
        exact ⟨rfl, Br.out⟩
      · clear HK
        go_wp2_with fail
        go_ret
        exact ⟨rfl, Br.out⟩
      · obtain ⟨b, o, rfl, hb, x0, x1, x2⟩ := KV.out _ Br.out 0 v rfl
        obtain ⟨vk, vn, vs⟩ := v
        simp only [Nat.zero_mul, Nat.add_zero] at x0 x1 x2 c5
        clear HK
        simp only [List.length_singleton] at *
        rcases c5 with rfl | rfl
        · go_wp2_with fail
          go_ret
          exact ⟨rfl, Br.out⟩
        · go_wp2_with fail
          go_ret
          exact ⟨rfl, Br.out⟩
end Go.Proofs.YtkdpcnikgdbmaaaGreatDoor.Hp
namespace Go.Proofs.YtkdpcnikgdbmaaaGreatDoor.Hp
open Go Go.RowKit Go.Maps Va

/-- append of a row that is read onto an empty row of the call's own. -/
theorem wpList_app {P : Program} {w : World} {ops : Array Oper} {rest : List Oper} {o : Oper} {a : Act} {Q : Exit → Act → World → Prop} (hgd : o.guard = none) (s x : Operand) (t : TypeId)
    (ho : o.op = .call { callee := .builtin .append, args := #[s, x], argTypes := #[t, t] })
    (base : Nat) (e : TypeId) (i : TypeInfo) (z : Value) (size bytes : Nat) (ht : P.underlying t = some (.slice e)) (hi : P.info? e = some i) (hz : i.zero = some z)
    (hsize : i.size = size) (hby : i.bytes = bytes) (hzs : z.cells.size = size) (hsz : 0 < size) (hb32 : bytes ≤ 32)
    (v : Value) (hs : a.eval s = v) (hown : w.ownsRow base e size v 0 [])
    (A : Option Addr) (m c : Nat) (news : List Value) (hx : a.eval x = .slice A m c) (hA : A = none → m = 0 ∧ c = 0) (hl : news.length = m * size) (hnews : ∀ ad, A = some ad → ∀ j u, news[j]? = some u → w.cell? (ad.add j) = some u) (h1 : ∀ u ∈ news, u.oneCell' = true)
    (hm : m ≤ 4398046511104) (hbase : base ≤ w.heap.size)
    (h : ∀ v' w', w'.ownsRow base e size v' m news → w.grownBy w' v.ownBlock → wpList P ops Q rest (a.put o.dst v') w') : wpList P ops Q (o :: rest) a w := by
  rcases A with _ | ad
  · obtain ⟨rfl, rfl⟩ := hA rfl
    have hn : news = [] := List.eq_nil_of_length_eq_zero (by omega)
    subst hn
    exact wpList_append_own_none hgd s x t ho base e i size ht hi v 0 [] hs hown hx (h v w hown (World.grownBy.refl w _))
  · refine wpList_append_own w hgd s x t ho base e i z size bytes ht hi hz hsize hby hzs hsz v 0 [] hs hown ad m c news hx hl (hnews ad rfl) h1 (by unfold maxLen; omega) ?_ hbase (fun v' w' h2 h3 _ => h v' w' (by simpa using h2) h3)
    have : (0 + m) * bytes ≤ 4398046511104 * 32 := Nat.mul_le_mul (by omega) hb32
    omega
set_option maxRecDepth 100000 in
set_option maxHeartbeats 1000000 in
theorem refCopy_any (P : Nat → Prop) (c : Cel) (A B : Option Addr) (n nc m ic : Nat) (w : World) (hn : c.names.length = n) (hm : c.items.length = m) (hS : SlS w P A c.names) (hV : ValsAt w P B c.items) (hP : ∀ b, P b → b < w.heap.size) (hn' : n ≤ 4398046511104) (hm' : m ≤ 4398046511104) (hA : A = none → n = 0 ∧ nc = 0) (hB : B = none → m = 0 ∧ ic = 0) :
    Calls Tryz.prog 60 #[celV c (.slice A n nc) (.slice B m ic)] w fun e w' => ∃ D d E e', e = .returned (celV c (.slice D n d) (.slice E m e')) ∧ Hid ((w'.ownsRow w.heap.size 9 1 (.slice D n d) n (c.names.map Value.string) ∧ w'.ownsRow w.heap.size 64 3 (.slice E m e') m (flatV c.items)) ∧ Below w.heap.size w w') := by
  obtain ⟨iS, hiS, hS0, hS1, hS2⟩ := info_parts Ac.infoS
  obtain ⟨iV, hiV, hV0, hV1, hV2⟩ := info_parts Ac.infoV
  obtain ⟨kind, cls, fn, ten, names, items⟩ := c
  unfold celV
  simp only at hn hm hS hV ⊢
  have HS := Lib.hid hS
  have HV := Lib.hid hV
  have HP := Lib.hid hP
  clear hS hV hP
  have s3 : (((w.alloc (.cells #[.int .i64 kind, .int .i64 cls, .int .i64 fn, .int .i64 ten, .slice A n nc, .slice B m ic] 46)).alloc (.cells #[.int .i64 0, .int .i64 0, .int .i64 0, .int .i64 0, .slice none 0 0, .slice none 0 0] 46)).alloc (.cells #[.int .i64 kind, .int .i64 cls, .int .i64 fn, .int .i64 ten, .slice A n nc, .slice B m ic] 46)).heap.size = w.heap.size + 3 := by simp
  have B3 := Lib.hid (show Below w.heap.size w (((w.alloc (.cells #[.int .i64 kind, .int .i64 cls, .int .i64 fn, .int .i64 ten, .slice A n nc, .slice B m ic] 46)).alloc (.cells #[.int .i64 0, .int .i64 0, .int .i64 0, .int .i64 0, .slice none 0 0, .slice none 0 0] 46)).alloc (.cells #[.int .i64 kind, .int .i64 cls, .int .i64 fn, .int .i64 ten, .slice A n nc, .slice B m ic] 46)) from (((Below.refl _ w).alloc (Nat.le_refl _) _).alloc (by simp) _).alloc (by simp; omega) _)
  have K0 := Lib.hid (show Bk (((w.alloc (.cells #[.int .i64 kind, .int .i64 cls, .int .i64 fn, .int .i64 ten, .slice A n nc, .slice B m ic] 46)).alloc (.cells #[.int .i64 0, .int .i64 0, .int .i64 0, .int .i64 0, .slice none 0 0, .slice none 0 0] 46)).alloc (.cells #[.int .i64 kind, .int .i64 cls, .int .i64 fn, .int .i64 ten, .slice A n nc, .slice B m ic] 46)) w.heap.size _ _ from ((Bk.new w _ _).alloc _).alloc _)
  have K1 := Lib.hid (show Bk (((w.alloc (.cells #[.int .i64 kind, .int .i64 cls, .int .i64 fn, .int .i64 ten, .slice A n nc, .slice B m ic] 46)).alloc (.cells #[.int .i64 0, .int .i64 0, .int .i64 0, .int .i64 0, .slice none 0 0, .slice none 0 0] 46)).alloc (.cells #[.int .i64 kind, .int .i64 cls, .int .i64 fn, .int .i64 ten, .slice A n nc, .slice B m ic] 46)) (w.heap.size + 1) _ _ from by have := ((Bk.new (w.alloc (.cells #[.int .i64 kind, .int .i64 cls, .int .i64 fn, .int .i64 ten, .slice A n nc, .slice B m ic] 46)) #[.int .i64 0, .int .i64 0, .int .i64 0, .int .i64 0, .slice none 0 0, .slice none 0 0] 46).alloc (.cells #[.int .i64 kind, .int .i64 cls, .int .i64 fn, .int .i64 ten, .slice A n nc, .slice B m ic] 46)); rwa [World.size_alloc] at this)
  have K2 := Lib.hid (show Bk (((w.alloc (.cells #[.int .i64 kind, .int .i64 cls, .int .i64 fn, .int .i64 ten, .slice A n nc, .slice B m ic] 46)).alloc (.cells #[.int .i64 0, .int .i64 0, .int .i64 0, .int .i64 0, .slice none 0 0, .slice none 0 0] 46)).alloc (.cells #[.int .i64 kind, .int .i64 cls, .int .i64 fn, .int .i64 ten, .slice A n nc, .slice B m ic] 46)) (w.heap.size + 1 + 1) #[.int .i64 kind, .int .i64 cls, .int .i64 fn, .int .i64 ten, .slice A n nc, .slice B m ic] 46 from by have := (Bk.new ((w.alloc (.cells #[.int .i64 kind, .int .i64 cls, .int .i64 fn, .int .i64 ten, .slice A n nc, .slice B m ic] 46)).alloc (.cells #[.int .i64 0, .int .i64 0, .int .i64 0, .int .i64 0, .slice none 0 0, .slice none 0 0] 46)) #[.int .i64 kind, .int .i64 cls, .int .i64 fn, .int .i64 ten, .slice A n nc, .slice B m ic] 46); rwa [World.size_alloc, World.size_alloc] at this)
  go_enter Tryz.func60, Tryz.ntmps60
  go_wp2_with (at_builtin; refine wpList_app rfl _ _ 43 rfl (w.heap.size + 3) 9 iS _ 1 16 Tryz.underlying43 hiS hS0 hS1 hS2 rfl (by decide) (by decide) _ rfl ?o1 A n nc (names.map Value.string) rfl hA ?o2 ?o3 ?o4 hn' ?o5 ?_)
  case o2 => simp [hn]
  case o4 => intro u hu; obtain ⟨z, _, rfl⟩ := List.mem_map.1 hu; rfl
  all_goals
    generalize ((w.alloc (.cells #[.int .i64 kind, .int .i64 cls, .int .i64 fn, .int .i64 ten, .slice A n nc, .slice B m ic] 46)).alloc (.cells #[.int .i64 0, .int .i64 0, .int .i64 0, .int .i64 0, .slice none 0 0, .slice none 0 0] 46)).alloc (.cells #[.int .i64 kind, .int .i64 cls, .int .i64 fn, .int .i64 ten, .slice A n nc, .slice B m ic] 46) = W3 at *
  case o1 =>
    have := World.ownsRow_made (base := w.heap.size + 3) (e := 9) (size := 1) W3 #[] 0 (by omega) (Nat.zero_le _) (by simp)
    rw [s3] at this; exact this
  case o5 => rw [World.size_alloc]; omega
  case o3 =>
    rintro ad rfl j u hu
    have h1 := HS.out.low HP.out (B3.out.alloc (by omega) (.cells #[] 9))
    exact (h1.flat j u hu).2
  intro N w4 hN gN
  obtain ⟨D, d, rfl⟩ := own_slice hN
  have HN := Lib.hid hN
  have NB := Lib.hid (fun (g : Nat) (h : g < w.heap.size + 3) => show w4.heap[g]? = W3.heap[g]? from (gN.block g (by simp; omega) (fun e => by
    simp [Value.ownBlock] at e
    omega)).trans (Below.heap_alloc _ _ _ (by omega)))
  have s4 : w.heap.size + 4 ≤ w4.heap.size := by have := gN.size; rw [World.size_alloc] at this; omega
  have B4 := Lib.hid (show Below w.heap.size w w4 from ⟨gN.os.trans B3.out.os, gN.tape.trans B3.out.tape, gN.output.trans B3.out.output, by omega, fun g hg => (NB.out g (by omega)).trans (B3.out.block g hg)⟩)
  have L0 := Lib.hid (show Bk w4 w.heap.size _ _ from (NB.out _ (by omega)).trans K0.out)
  have L1 := Lib.hid (show Bk w4 (w.heap.size + 1) _ _ from (NB.out _ (by omega)).trans K1.out)
  have L2 := Lib.hid (show Bk w4 (w.heap.size + 1 + 1) _ _ from (NB.out _ (by omega)).trans K2.out)
  have NG := Lib.hid (show ∀ g, (Value.slice D n d).ownBlock = some g → w.heap.size + 3 ≤ g from fun g hg => (hN.lt g hg).1)
  clear hN gN K0 K1 K2
  have f4 := L2.out.frozen 4
  have l4 := L2.out.cell 4 _ rfl
  have l0 := L0.out.cell 5 _ rfl
  have S5 : (w4.setCell ⟨w.heap.size + 1 + 1, 4, none⟩ (.slice D n d)).heap.size = w4.heap.size := by simp [World.setCell]
  have N5 := Lib.hid (own_keep (w' := w4.setCell ⟨w.heap.size + 1 + 1, 4, none⟩ (.slice D n d)) HN.out (fun g hg _ => set_other _ _ _ _ _ (by omega)))
  have B5 := Lib.hid (B4.out.setCell (p := ⟨w.heap.size + 1 + 1, 4, none⟩) (by show w.heap.size ≤ w.heap.size + 1 + 1; omega) (.slice D n d))
  have M0 := Lib.hid (show Bk (w4.setCell ⟨w.heap.size + 1 + 1, 4, none⟩ (.slice D n d)) w.heap.size _ _ from (set_other _ _ _ _ _ (by omega)).trans L0.out)
  have M1 := Lib.hid (show Bk (w4.setCell ⟨w.heap.size + 1 + 1, 4, none⟩ (.slice D n d)) (w.heap.size + 1) _ _ from (set_other _ _ _ _ _ (by omega)).trans L1.out)
  have M2 := Lib.hid (L2.out.set 4 (.slice D n d))
  have m0 := (M0.out.alloc (.cells #[] 64)).cell 5 (.slice B m ic) rfl
  clear L0 L1 L2 B4 HN
  go_wp2_with (at_builtin; refine wpList_app rfl _ _ 44 rfl w4.heap.size 64 iV _ 3 32 Tryz.underlying44 hiV hV0 hV1 hV2 rfl (by decide) (by decide) _ rfl ?o1 B m ic (flatV items) rfl hB ?o2 ?o3 ?o4 hm' ?o5 ?_)
  case o2 => rw [flatV_len, hm]
  case o4 => exact onesV items
  all_goals
    generalize w4.setCell ⟨w.heap.size + 1 + 1, 4, none⟩ (.slice D n d) = w5 at *
  case o1 =>
    have := World.ownsRow_made (base := w4.heap.size) (e := 64) (size := 3) w5 #[] 0 (by omega) (Nat.zero_le _) (by simp)
    first | exact this | (rw [S5] at this; exact this)
  case o5 => rw [World.size_alloc]; omega
  case o3 =>
    rintro ad rfl j u hu
    have h1 := HV.out.low HP.out (B5.out.alloc (by omega) (.cells #[] 64))
    exact (h1.flat j u hu).2
  intro I w6 hI gI
  obtain ⟨E, e', rfl⟩ := own_slice hI
  have HI := Lib.hid hI
  have NB6 := Lib.hid (fun (g : Nat) (h : g < w4.heap.size) => show w6.heap[g]? = w5.heap[g]? from (gI.block g (by simp; omega) (fun e => by
    simp [Value.ownBlock] at e
    omega)).trans (Below.heap_alloc _ _ _ (by omega)))
  have s6 : w4.heap.size ≤ w6.heap.size := by have := gI.size; rw [World.size_alloc] at this; omega
  have HB := Lib.hid (show Below w.heap.size w w6 from ⟨gI.os.trans B5.out.os, gI.tape.trans B5.out.tape, gI.output.trans B5.out.output, by omega, fun g hg => (NB6.out g (by omega)).trans (B5.out.block g hg)⟩)
  have K2 := Lib.hid (show Bk w6 (w.heap.size + 1) _ _ from (NB6.out _ (by omega)).trans M1.out)
  have K1 := Lib.hid (show Bk w6 (w.heap.size + 1 + 1) _ _ from (NB6.out _ (by omega)).trans M2.out)
  have HN := Lib.hid (own_keep (w' := w6) N5.out (fun g _ hg => NB6.out g (by omega)))
  clear hI gI M0 M1 M2 N5 B5 f4 l4 l0 m0
  have c0 := K1.out.cell 0 (.int .i64 kind) rfl
  have c1 := K1.out.cell 1 (.int .i64 cls) rfl
  have c2 := K1.out.cell 2 (.int .i64 fn) rfl
  have c3 := K1.out.cell 3 (.int .i64 ten) rfl
  have c4 := K1.out.cell 4 (.slice D n d) rfl
  have f5 := K1.out.frozen 5
  have c5 := K1.out.cell 5 (.slice B m ic) rfl
  have r0 := K2.out.cell 0 _ rfl
  have r1 := K2.out.cell 1 _ rfl
  have r2 := K2.out.cell 2 _ rfl
  have r3 := K2.out.cell 3 _ rfl
  have r4 := K2.out.cell 4 _ rfl
  have r5 := K2.out.cell 5 _ rfl
  have g0 := K2.out.frozen 0
  have g1 := K2.out.frozen 1
  have g2 := K2.out.frozen 2
  have g3 := K2.out.frozen 3
  have g4 := K2.out.frozen 4
  have g5 := K2.out.frozen 5
  go_wp2_with fail
  have FB : Below w.heap.size w (((((((w6.setCell ⟨w.heap.size + 1 + 1, 5, none⟩ (.slice E m e')).setCell ⟨w.heap.size + 1, 0, none⟩ (.int .i64 kind)).setCell ⟨w.heap.size + 1, 1, none⟩ (.int .i64 cls)).setCell ⟨w.heap.size + 1, 2, none⟩ (.int .i64 fn)).setCell ⟨w.heap.size + 1, 3, none⟩ (.int .i64 ten)).setCell ⟨w.heap.size + 1, 4, none⟩ (.slice D n d)).setCell ⟨w.heap.size + 1, 5, none⟩ (.slice E m e')) :=
    ((((((HB.out.setCell (p := ⟨_, _, none⟩) (by simp only; omega) _).setCell (p := ⟨_, _, none⟩) (by simp) _).setCell (p := ⟨_, _, none⟩) (by simp) _).setCell (p := ⟨_, _, none⟩) (by simp) _).setCell (p := ⟨_, _, none⟩) (by simp) _).setCell (p := ⟨_, _, none⟩) (by simp) _).setCell (p := ⟨_, _, none⟩) (by simp) _
  have FK : ∀ g, w.heap.size + 3 ≤ g → (((((((w6.setCell ⟨w.heap.size + 1 + 1, 5, none⟩ (.slice E m e')).setCell ⟨w.heap.size + 1, 0, none⟩ (.int .i64 kind)).setCell ⟨w.heap.size + 1, 1, none⟩ (.int .i64 cls)).setCell ⟨w.heap.size + 1, 2, none⟩ (.int .i64 fn)).setCell ⟨w.heap.size + 1, 3, none⟩ (.int .i64 ten)).setCell ⟨w.heap.size + 1, 4, none⟩ (.slice D n d)).setCell ⟨w.heap.size + 1, 5, none⟩ (.slice E m e')).heap[g]? = w6.heap[g]? := fun g hg => by
    repeat rw [set_other _ _ _ _ g (by omega)]
  have FR : Bk (((((((w6.setCell ⟨w.heap.size + 1 + 1, 5, none⟩ (.slice E m e')).setCell ⟨w.heap.size + 1, 0, none⟩ (.int .i64 kind)).setCell ⟨w.heap.size + 1, 1, none⟩ (.int .i64 cls)).setCell ⟨w.heap.size + 1, 2, none⟩ (.int .i64 fn)).setCell ⟨w.heap.size + 1, 3, none⟩ (.int .i64 ten)).setCell ⟨w.heap.size + 1, 4, none⟩ (.slice D n d)).setCell ⟨w.heap.size + 1, 5, none⟩ (.slice E m e')) (w.heap.size + 1) #[.int .i64 kind, .int .i64 cls, .int .i64 fn, .int .i64 ten, .slice D n d, .slice E m e'] 46 :=
    ((((((show Bk (w6.setCell ⟨w.heap.size + 1 + 1, 5, none⟩ (.slice E m e')) (w.heap.size + 1) _ _ from (set_other _ _ _ _ _ (by omega)).trans K2.out).set 0 (.int .i64 kind)).set 1 (.int .i64 cls)).set 2 (.int .i64 fn)).set 3 (.int .i64 ten)).set 4 (.slice D n d)).set 5 (.slice E m e')
  generalize (((((((w6.setCell ⟨w.heap.size + 1 + 1, 5, none⟩ (.slice E m e')).setCell ⟨w.heap.size + 1, 0, none⟩ (.int .i64 kind)).setCell ⟨w.heap.size + 1, 1, none⟩ (.int .i64 cls)).setCell ⟨w.heap.size + 1, 2, none⟩ (.int .i64 fn)).setCell ⟨w.heap.size + 1, 3, none⟩ (.int .i64 ten)).setCell ⟨w.heap.size + 1, 4, none⟩ (.slice D n d)).setCell ⟨w.heap.size + 1, 5, none⟩ (.slice E m e')) = w7 at *
  have FB := Lib.hid FB
  have FK := Lib.hid FK
  (try simp only [Exit.inBlock, Exit.then])
  refine bodyPost_ret (v := .agg #[.int .i64 kind, .int .i64 cls, .int .i64 fn, .int .i64 ten, .slice D n d, .slice E m e']) ?_ rfl ?_
  · exact results_cell_row rfl _ _ (w.heap.size + 1) _ _ (0, 0) _ rfl FR Tryz.underlying46 rfl (by kernel_rfl)
  · exact ⟨D, d, E, e', rfl, Lib.hid ⟨⟨own_mono (own_keep HN.out (fun g hg _ => FK.out g (by omega))) (by omega), own_mono (own_keep HI.out (fun g hg _ => FK.out g (by omega))) (by omega)⟩, FB.out⟩⟩
end Go.Proofs.YtkdpcnikgdbmaaaGreatDoor.Hp
namespace Go.Proofs.YtkdpcnikgdbmaaaGreatDoor.Hp
open Go Go.RowKit Go.Maps Va

/-- A row of entries whose ids are read. -/
def IdRow (w : World) (P : Nat → Prop) (A : Option Addr) (L : List Int) : Prop := ∀ (j : Nat) (i : Int), L[j]? = some i → ∃ g, A = some ⟨g, 0, none⟩ ∧ P g ∧ w.cell? ⟨g, j * 7, none⟩ = some (.int .i64 i)
/-- Where an id stands; -1 if it is not there. -/
def plc (L : List Int) (i : Int) : Int := if i ∈ L then ((L.idxOf i : Nat) : Int) else -1
theorem plc_at {L : List Int} (hs : L.Pairwise (· < ·)) {k : Nat} {i : Int} (h : L[k]? = some i) : plc L i = k := by
  obtain ⟨hk, rfl⟩ := List.getElem?_eq_some_iff.1 h
  unfold plc
  rw [if_pos (List.getElem_mem hk)]
  have hn : L.Nodup := hs.imp (fun h => by omega)
  rw [hn.idxOf_getElem k hk]
theorem plc_not {L : List Int} {lo : Nat} {i : Int} (h1 : ∀ (j : Nat) (x : Int), L[j]? = some x → j < lo → x < i) (h2 : ∀ (j : Nat) (x : Int), L[j]? = some x → lo ≤ j → i ≤ x) (hs : L.Pairwise (· < ·)) (h3 : ∀ x, L[lo]? = some x → x ≠ i) : plc L i = -1 := by
  unfold plc
  rw [if_neg]
  intro hm
  obtain ⟨j, hj⟩ := List.mem_iff_getElem?.1 hm
  rcases Nat.lt_trichotomy j lo with hl | hl | hl
  · have := h1 j i hj hl; omega
  · subst hl; exact h3 i hj rfl
  · have hjl := (List.getElem?_eq_some_iff.1 hj).1
    have hlo := List.getElem?_eq_getElem (l := L) (i := lo) (by omega)
    have a1 := h2 lo _ hlo (Nat.le_refl _)
    have a2 := List.pairwise_iff_getElem.1 hs lo j (by omega) hjl hl
    obtain ⟨_, e⟩ := List.getElem?_eq_some_iff.1 hj
    rw [e] at a2
    omega
set_option maxHeartbeats 1000000 in
theorem place_any (P : Nat → Prop) (q : Nat) (A : Option Addr) (L : List Int) (n c : Nat) (nx i : Int) (w : World) (hn : L.length = n) (hq : Bk w q #[.slice A n c, .int .i64 nx] 35) (hL : IdRow w P A L) (hn' : n ≤ 8000) (hs : L.Pairwise (· < ·)) :
    Calls Tryz.prog 63 #[.pointer (some ⟨q, 0, none⟩), .int .i64 i] w fun e w' => e = .returned (.int .i64 (plc L i)) ∧ w = w' := by
  subst hn
  have q0 := hq.cell 0 _ rfl
  have HL := Lib.hid hL
  have HS := Lib.hid hs
  clear hq hL hs
  go_enter Tryz.func63, Tryz.ntmps63
  go_wp2_with fail
  go_loopw [5, 6] (fun a b wr => ∃ lo hi : Nat, lo ≤ hi ∧ hi ≤ L.length ∧ a = .int .i64 lo ∧ b = .int .i64 hi ∧ Hid ((∀ (j : Nat) (x : Int), L[j]? = some x → j < lo → x < i) ∧ ∀ (j : Nat) (x : Int), L[j]? = some x → hi ≤ j → i ≤ x) ∧ w = wr) (fun a b _ => (intOf b).toNat - (intOf a).toNat)
  case atStart => exact ⟨0, L.length, by omega, by omega, rfl, rfl, Lib.hid ⟨fun j x _ h => by omega, fun j x hx h => by have := (List.getElem?_eq_some_iff.1 hx).1; omega⟩, rfl⟩
  case round =>
    obtain ⟨lo, hi, hlh, hhn, rfl, rfl, hin, rfl⟩ := hrel
    by_cases hlt : lo < hi
    · obtain ⟨m, hm⟩ : ∃ m : Nat, m = (lo + hi) / 2 := ⟨_, rfl⟩
      have hm1 : lo ≤ m := by omega
      have hm2 : m < hi := by omega
      have hq : (((lo : Int) + hi).tdiv 2) = (m : Int) := by rw [Int.tdiv_eq_ediv_of_nonneg (by omega)]; omega
      have hml : m < L.length := by omega
      have hx := List.getElem?_eq_getElem hml
      obtain ⟨g, rfl, hPg, y0⟩ := HL.out m _ hx
      have HX := Lib.hid hx
      generalize L[m] = x at *
      have ki : (m : Int) < L.length := by omega
      have kl : (lo : Int) < hi := by omega
      clear hx hm
      by_cases hxi : x < i
      · have IN := Lib.hid (show (∀ (j : Nat) (z : Int), L[j]? = some z → j < m + 1 → z < i) ∧ ∀ (j : Nat) (z : Int), L[j]? = some z → hi ≤ j → i ≤ z from ⟨fun j z hz hj => by
          rcases Nat.lt_or_ge j m with h | h
          · have hjl := (List.getElem?_eq_some_iff.1 hz).1
            have h1 := List.pairwise_iff_getElem.1 HS.out j m hjl hml h
            obtain ⟨_, e1⟩ := List.getElem?_eq_some_iff.1 hz
            obtain ⟨_, e2⟩ := List.getElem?_eq_some_iff.1 HX.out
            rw [e1, e2] at h1
            omega
          · obtain rfl : j = m := by omega
            have e := hz.symm.trans HX.out
            injection e with e
            omega, hin.out.2⟩)
        go_wp2_with fail
        go_roundw
        case rel => exact ⟨m + 1, hi, by omega, by omega, by go_num, rfl, IN, by trivial⟩
        case measure => simp [intOf]; omega
      · have IN := Lib.hid (show (∀ (j : Nat) (z : Int), L[j]? = some z → j < lo → z < i) ∧ ∀ (j : Nat) (z : Int), L[j]? = some z → m ≤ j → i ≤ z from ⟨hin.out.1, fun j z hz hj => by
          rcases Nat.lt_or_ge m j with h | h
          · have hjl := (List.getElem?_eq_some_iff.1 hz).1
            have h1 := List.pairwise_iff_getElem.1 HS.out m j hml hjl h
            obtain ⟨_, e1⟩ := List.getElem?_eq_some_iff.1 hz
            obtain ⟨_, e2⟩ := List.getElem?_eq_some_iff.1 HX.out
            rw [e1, e2] at h1
            omega
          · obtain rfl : j = m := by omega
            have e := hz.symm.trans HX.out
            injection e with e
            omega⟩)
        go_wp2_with fail
        go_roundw
        case rel => exact ⟨lo, m, by omega, by omega, rfl, rfl, IN, by trivial⟩
        case measure => simp [intOf]; omega
    · obtain rfl : lo = hi := by omega
      by_cases hll : lo < L.length
      · have hx := List.getElem?_eq_getElem hll
        obtain ⟨g, rfl, hPg, y0⟩ := HL.out lo _ hx
        have HX := Lib.hid hx
        generalize L[lo] = x at *
        have ki : (lo : Int) < L.length := by omega
        clear hx
        by_cases hxi : x = i
        · subst hxi
          have PL := Lib.hid (plc_at HS.out HX.out)
          go_wp2_with fail
          go_ret
          exact ⟨by rw [PL.out]; rfl, rfl⟩
        · have PL := Lib.hid (plc_not hin.out.1 hin.out.2 HS.out (fun z hz => by
            have e := hz.symm.trans HX.out
            injection e with e
            rw [e]; exact hxi))
          go_wp2_with fail
          go_ret
          exact ⟨by rw [PL.out]; rfl, rfl⟩
      · have PL := Lib.hid (plc_not hin.out.1 hin.out.2 HS.out (fun z hz => absurd (List.getElem?_eq_some_iff.1 hz).1 (by omega)))
        have ki : (L.length : Int) ≤ lo := by omega
        go_wp2_with fail
        go_ret
        exact ⟨by rw [PL.out]; rfl, rfl⟩
end Go.Proofs.YtkdpcnikgdbmaaaGreatDoor.Hp
