/-
  The walk of CachePlays: both sites, apart; one call with both; what both show.
-/
import Derived.Test.YtpgjmmlgaanelaaDoorRt
import Derived.Test.YtpgjmmlgaanelaaDoorShelf
namespace Go.Proofs.YtpgjmmlgaanelaaDoor.Ch
open Go Go.RowKit

/-- The site and the reference's one, apart. -/
structure Pr (K : Kit) (w0 w : World) (p : Nat) (t : Ste) (F : Nat → Prop) (n q : Nat) (u : Ste) (G : Nat → Prop) : Prop where
  a : Tr K w0 w p t F n
  r : RefS w q u G
  g : ∀ b, G b → w0.heap.size ≤ b
  d : ∀ b, G b → ¬ F b
section
variable {K : Kit} {w0 w w' : World} {p n n' q : Nat} {t t' u u' : Ste} {F F' G G' : Nat → Prop}
theorem Pr.low (h : Pr K w0 w p t F n q u G) (hb : Below w.heap.size w w') : Pr K w0 w' p t F n q u G := ⟨h.a.below hb, h.r.below hb, h.g, h.d⟩
theorem Pr.drewN (h : Pr K w0 w p t F n q u G) (k : Nat) : Pr K w0 (w.drewN k) p t F n q u G := ⟨h.a.drewN k, h.r.keep fun _ _ => rfl, h.g, h.d⟩
theorem Pr.drew (h : Pr K w0 w p t F n q u G) : Pr K w0 w.drew p t F n q u G := h.drewN 1
theorem Pr.alloc (h : Pr K w0 w p t F n q u G) (o : Obj) : Pr K w0 (w.alloc o) p t F n q u G := ⟨h.a.alloc o, h.r.alloc o, h.g, h.d⟩
theorem Pr.code (h : Pr K w0 w p t F n q u G) (h' : Tr K w0 w' p t' F' n') (c : Chg F w w') (s : Sub F F' w) : Pr K w0 w' p t' F' n' q u G :=
  ⟨h', h.r.keep fun b hb => c.block b (h.r.lt b hb) (h.d b hb), h.g, fun b hb e => (s b e).elim (h.d b hb) (by have := h.r.lt b hb; omega)⟩
theorem Pr.ref (h : Pr K w0 w p t F n q u G) (h' : RefS w' q u' G') (c : Chg G w w') (s : Sub G G' w) : Pr K w0 w' p t F n q u' G' :=
  ⟨⟨K.keep h.a.h fun b hb => c.block b (K.lt h.a.h b hb) (fun e => h.d b e hb), h.a.b.trans (c.below h.g h.a.b.size), h.a.f, h.a.v, h.a.k, h.a.s⟩, h', fun b hb => (s b hb).elim (h.g b) fun g => Nat.le_trans h.a.b.size g,
    fun b hb e => (s b hb).elim (fun g => h.d b g e) (by have := K.lt h.a.h b e; omega)⟩
end
/-- The same, with an act's own block. -/
structure Pa (K : Kit) (w0 w : World) (p : Nat) (t : Ste) (F : Nat → Prop) (n q : Nat) (u : Ste) (G : Nat → Prop) (b : Nat) (cs : Array Value) : Prop where
  r : Pr K w0 w p t F n q u G
  x : Bk w b cs 30
  fx : ¬ F b
  gx : ¬ G b
section
variable {K : Kit} {w0 w w' : World} {p n n' q m b : Nat} {t t' u u' : Ste} {F F' G G' : Nat → Prop} {cs : Array Value}
theorem Pr.act (h : Pr K w0 w p t F n q u G) (cs : Array Value) : Pa K w0 (w.alloc (.cells cs 30)) p t F n q u G w.heap.size cs :=
  ⟨h.alloc _, Bk.new w _ _, fun e => Nat.lt_irrefl _ (K.lt h.a.h _ e), fun e => Nat.lt_irrefl _ (h.r.lt _ e)⟩
theorem Pa.drewN (h : Pa K w0 w p t F n q u G b cs) (k : Nat) : Pa K w0 (w.drewN k) p t F n q u G b cs := ⟨h.r.drewN k, h.x, h.fx, h.gx⟩
theorem Pa.drew (h : Pa K w0 w p t F n q u G b cs) : Pa K w0 w.drew p t F n q u G b cs := h.drewN 1
theorem Pa.code (h : Pa K w0 w p t F n q u G b cs) (h' : Tr K w0 w' p t' F' n') (c : Chg F w w') (s : Sub F F' w) : Pa K w0 w' p t' F' n' q u G b cs :=
  ⟨h.r.code h' c s, by have := h.x; unfold Bk at *; rw [c.block _ h.x.lt h.fx]; exact this, fun e => (s _ e).elim h.fx (by have := h.x.lt; omega), h.gx⟩
theorem Pa.ref (h : Pa K w0 w p t F n q u G b cs) (h' : RefS w' q u' G') (c : Chg G w w') (s : Sub G G' w) : Pa K w0 w' p t F n q u' G' b cs :=
  ⟨h.r.ref h' c s, by have := h.x; unfold Bk at *; rw [c.block _ h.x.lt h.gx]; exact this, h.fx, fun e => (s _ e).elim h.gx (by have := h.x.lt; omega)⟩
theorem learn_c (h : Pa K w0 w p t F n q u G b cs) {s v a : Int} (hs : I64 s) (hv : I64 v) (r : t.learn s v = (a, t')) :
    Calls Tryd.prog 15 #[.pointer (some ⟨p, 0, none⟩), .int .i64 s, .int .i64 v] w fun e w' => ∃ F', e = .returned (.int .i64 a) ∧ Pa K w0 w' p t' F' n q u G b cs :=
  (learn_at h.r.a hs hv r).mono fun _ _ ⟨F', he, ht, c, s⟩ => ⟨F', he, h.code ht c s⟩
theorem learn_r (h : Pa K w0 w p t F n q u G b cs) (k : u.Ok m) {s v a : Int} (hs : I64 s) (hv : I64 v) (r : u.learn s v = (a, u')) :
    Calls Tryd.prog 26 #[.pointer (some ⟨q, 0, none⟩), .int .i64 s, .int .i64 v] w fun e w' => ∃ G', e = .returned (.int .i64 a) ∧ Pa K w0 w' p t F n q u' G' b cs :=
  (ref_learn w q u G m s v h.r.r k hs hv).mono fun _ _ ⟨G', he, hr, c, s⟩ => by rw [r] at he hr; exact ⟨G', he, h.ref hr c s⟩
theorem forget_c (h : Pa K w0 w p t F n q u G b cs) {s : Int} {a : Bool} (hs : I64 s) (r : t.forget s = (a, t')) :
    Calls Tryd.prog 16 #[.pointer (some ⟨p, 0, none⟩), .int .i64 s] w fun e w' => ∃ F', e = .returned (.bool a) ∧ Pa K w0 w' p t' F' n q u G b cs :=
  (forget_at h.r.a hs r).mono fun _ _ ⟨F', he, ht, c, s⟩ => ⟨F', he, h.code ht c s⟩
theorem forget_r (h : Pa K w0 w p t F n q u G b cs) (k : u.Ok m) {s : Int} {a : Bool} (hs : I64 s) (r : u.forget s = (a, u')) :
    Calls Tryd.prog 27 #[.pointer (some ⟨q, 0, none⟩), .int .i64 s] w fun e w' => ∃ G', e = .returned (.bool a) ∧ Pa K w0 w' p t F n q u' G' b cs :=
  (ref_forget w q u G m s h.r.r k hs).mono fun _ _ ⟨G', he, hr, c, s⟩ => by rw [r] at he hr; exact ⟨G', he, h.ref hr c s⟩
theorem find_c (h : Pa K w0 w p t F n q u G b cs) (hn : n < 1000) {s a : Int} {o : Bool} (hs : I64 s) (r : t.find s = ((a, o), t')) :
    Calls Tryd.prog 18 #[.pointer (some ⟨p, 0, none⟩), .int .i64 s] w fun e w' => ∃ F', e = .returned (.tuple #[.int .i64 a, .bool o]) ∧ Pa K w0 w' p t' F' (n + 1) q u G b cs :=
  (find_at h.r.a hn hs r).mono fun _ _ ⟨F', he, ht, c, s⟩ => ⟨F', he, h.code ht c s⟩
theorem find_r (h : Pa K w0 w p t F n q u G b cs) (k : u.Ok m) (hm : m ≤ 4611686018427387904) {s a : Int} {o : Bool} (hs : I64 s) (r : u.find s = ((a, o), u')) :
    Calls Tryd.prog 28 #[.pointer (some ⟨q, 0, none⟩), .int .i64 s] w fun e w' => ∃ G', e = .returned (.tuple #[.int .i64 a, .bool o]) ∧ Pa K w0 w' p t F n q u' G' b cs :=
  (ref_find w q u G m s h.r.r k hm hs).mono fun _ _ ⟨G', he, hr, c, s⟩ => by rw [r] at he hr; exact ⟨G', he, h.ref hr c s⟩
theorem Pa.low (h : Pa K w0 w p t F n q u G b cs) (hb : Below w.heap.size w w') : Pa K w0 w' p t F n q u G b cs := ⟨h.r.low hb, Bk.low hb h.x, h.fx, h.gx⟩
end
/-- How a call of the law's own ends that turns both. -/
def PrTo (K : Kit) (w0 : World) (p : Nat) (t' : Ste) (n' q : Nat) (e : Ending) (w' : World) : Prop := ∃ F' G', e = .returned (.bool true) ∧ Pr K w0 w' p t' F' n' q t' G'
def doS (t : Ste) (x : Act) : Ste := if x.what % 4 = 2 then (t.learn x.a x.b).2 else if x.what % 4 = 3 then (t.forget x.a).2 else (t.find x.a).2
theorem Pr.up {K : Kit} {w0 w : World} {p n m q : Nat} {t u : Ste} {F G : Nat → Prop} (h : Pr K w0 w p t F n q u G) (hm : n ≤ m) (h1 : m ≤ 1000) : Pr K w0 w p t F m q u G := ⟨h.a.up hm h1, h.r, h.g, h.d⟩
set_option maxRecDepth 100000 in
set_option maxHeartbeats 4000000 in
theorem do_any (K : Kit) (w0 w : World) (p : Nat) (t : Ste) (F : Nat → Prop) (n q : Nat) (G : Nat → Prop) (x : Act) (h : Pr K w0 w p t F n q t G) (hn : n < 999) (hx : x.OK) :
    Calls Tryd.prog 13 #[.pointer (some ⟨p, 0, none⟩), .pointer (some ⟨q, 0, none⟩), .agg #[.int .i64 x.what, .int .i64 x.a, .int .i64 x.b]] w (PrTo K w0 p (doS t x) (n + 1) q) := by
  obtain ⟨qq, xa, xb⟩ := x
  obtain ⟨x1, x2, x3⟩ := hx
  simp only at x1 x2 x3
  have XA := Lib.hid x2
  have XB := Lib.hid x3
  obtain ⟨q1, q2⟩ := x1
  obtain ⟨t4, e4, l4, g4, v4⟩ := tm qq 4 (by omega)
  have r0 := Int.emod_nonneg qq (show (4 : Int) ≠ 0 by omega)
  have r1 := Int.emod_lt_of_pos qq (show 0 < (4 : Int) by omega)
  have OK := Lib.hid h.a.k
  have OK1 := Lib.hid (fun s => find_ok h.a.k s)
  have TW := Lib.hid (h.act #[.int .i64 qq, .int .i64 xa, .int .i64 xb])
  have c0 := TW.out.x.cell 0 (.int .i64 qq) rfl
  have c1 := TW.out.x.cell 1 (.int .i64 xa) rfl
  have c2 := TW.out.x.cell 2 (.int .i64 xb) rfl
  obtain ⟨b, hb⟩ : ∃ b, w.heap.size = b := ⟨_, rfl⟩
  clear h x2 x3
  go_enter Tryd.func13, Tryd.ntmps13
  rw [hb] at c0 c1 c2 TW
  rcases (show qq % 4 = 2 ∨ qq % 4 = 3 ∨ (qq % 4 = 0 ∨ qq % 4 = 1) by omega) with hr | hr | hr
  · have v5 : (t4 + 4) % 4 = 2 := by rw [v4]; exact hr
    have DS := Lib.hid (show doS t ⟨qq, xa, xb⟩ = (t.learn xa xb).2 by unfold doS; rw [if_pos hr])
    obtain ⟨t', ht'⟩ : ∃ t', (t.learn xa xb).2 = t' := ⟨_, rfl⟩
    obtain ⟨y, hy⟩ : ∃ y, (t.learn xa xb).1 = y := ⟨_, rfl⟩
    have LE := Lib.hid (show t.learn xa xb = (y, t') by rw [← ht', ← hy])
    rw [ht'] at DS
    clear v4 hr r0 r1 ht' hy
    go_wp2_with fail
    go_region_held3 (fun w' => w'.cell? ⟨b, 1, none⟩ = some (.int .i64 xa) ∧ w'.cell? ⟨b, 2, none⟩ = some (.int .i64 xb)) (first | exact ⟨c1, c2⟩) ((first
      | (go_at_call 15
         (refine (learn_c (by first | exact TW.out | exact TW.out.drew | exact TW.out.drew.drew) XA.out XB.out LE.out).mono ?_)
         rintro e w' ⟨F', rfl, h⟩
         have TX := Lib.hid h
         replace c1 := h.x.cell 1 (.int .i64 xa) rfl
         replace c2 := h.x.cell 2 (.int .i64 xb) rfl
         clear h TW)
      | (go_at_call 26
         (refine (learn_r (by first | exact TX.out | exact TX.out.drew | exact TX.out.drew.drew) OK.out XA.out XB.out LE.out).mono ?_)
         rintro e w' ⟨G', rfl, h⟩
         have TY := Lib.hid h
         replace c1 := h.x.cell 1 (.int .i64 xa) rfl
         replace c2 := h.x.cell 2 (.int .i64 xb) rfl
         clear h TX)))
    go_wp2_with fail
    go_ret
    exact ⟨F', G', by simp, by rw [DS.out]; exact TY.out.r.up (by omega) (by omega)⟩
  · have v5 : (t4 + 4) % 4 = 3 := by rw [v4]; exact hr
    have DS := Lib.hid (show doS t ⟨qq, xa, xb⟩ = (t.forget xa).2 by unfold doS; rw [if_neg (show ¬ qq % 4 = 2 by omega), if_pos hr])
    obtain ⟨t', ht'⟩ : ∃ t', (t.forget xa).2 = t' := ⟨_, rfl⟩
    obtain ⟨y, hy⟩ : ∃ y, (t.forget xa).1 = y := ⟨_, rfl⟩
    have LE := Lib.hid (show t.forget xa = (y, t') by rw [← ht', ← hy])
    rw [ht'] at DS
    clear v4 hr r0 r1 ht' hy
    go_wp2_with fail
    go_region_held3 (fun w' => w'.cell? ⟨b, 1, none⟩ = some (.int .i64 xa)) (first | exact c1) ((first
      | (go_at_call 16
         (refine (forget_c (by first | exact TW.out | exact TW.out.drew | exact TW.out.drew.drew) XA.out LE.out).mono ?_)
         rintro e w' ⟨F', rfl, h⟩
         have TX := Lib.hid h
         replace c1 := h.x.cell 1 (.int .i64 xa) rfl
         clear h TW)
      | (go_at_call 27
         (refine (forget_r (by first | exact TX.out | exact TX.out.drew | exact TX.out.drew.drew) OK.out XA.out LE.out).mono ?_)
         rintro e w' ⟨G', rfl, h⟩
         have TY := Lib.hid h
         replace c1 := h.x.cell 1 (.int .i64 xa) rfl
         clear h TX)))
    go_wp2_with fail
    go_ret
    exact ⟨F', G', by simp, by rw [DS.out]; exact TY.out.r.up (by omega) (by omega)⟩
  · have n2 : ¬ (t4 + 4) % 4 = 2 := by rw [v4]; omega
    have n3 : ¬ (t4 + 4) % 4 = 3 := by rw [v4]; omega
    have DS := Lib.hid (show doS t ⟨qq, xa, xb⟩ = (t.find xa).2 by unfold doS; rw [if_neg (show ¬ qq % 4 = 2 by omega), if_neg (show ¬ qq % 4 = 3 by omega)])
    obtain ⟨t', ht'⟩ : ∃ t', (t.find xa).2 = t' := ⟨_, rfl⟩
    obtain ⟨y, hy⟩ : ∃ y, (t.find xa).1.1 = y := ⟨_, rfl⟩
    obtain ⟨z, hz⟩ : ∃ z, (t.find xa).1.2 = z := ⟨_, rfl⟩
    have LE := Lib.hid (show t.find xa = ((y, z), t') by rw [← ht', ← hy, ← hz])
    rw [ht'] at DS
    clear v4 hr r0 r1 ht' hy hz
    go_wp2_with fail
    refine (find_c TW.out (by omega) XA.out LE.out).mono ?_
    rintro e w3 ⟨F', rfl, h⟩
    have TX := Lib.hid h
    clear h TW c1 c2 c0
    have c1 := TX.out.x.cell 1 (.int .i64 xa) rfl
    go_wp2_with fail
    refine (find_r TX.out OK.out (by omega) XA.out LE.out).mono ?_
    rintro e w4 ⟨G', rfl, h⟩
    have TY := Lib.hid h
    clear h TX
    go_wp2_with fail
    go_ret
    exact ⟨F', G', by simp, by rw [DS.out]; exact TY.out.r⟩
theorem SlI.plain {w : World} {P : Nat → Prop} {A : Option Addr} {ns : List Int} (h : SlI w P A ns) (hn : 0 < ns.length) : ∃ g, A = some ⟨g, 0, none⟩ := by
  obtain ⟨g, rfl, _⟩ := h 0 _ (List.getElem?_eq_getElem hn)
  exact ⟨g, rfl⟩
theorem SlI.cells {w : World} {P : Nat → Prop} {g : Nat} {ns : List Int} (h : SlI w P (some ⟨g, 0, none⟩) ns) : ∀ j, j < ns.length → w.cell? ⟨g, 0 + j, none⟩ = some (.int .i64 (ns.getD j 0)) := fun j hj => by
  obtain ⟨g', e, _, hc⟩ := h j _ (List.getElem?_eq_getElem hj)
  injection e with e
  injection e with e
  subst e
  rw [Nat.zero_add, hc, List.getD_eq_getElem?_getD, List.getElem?_eq_getElem hj]; rfl
/-- slices.Equal of lists of ints. -/
theorem equal_any (P Q : Nat → Prop) (A C : Option Addr) (xs ys : List Int) (c d : Nat) (w : World) (h : SlI w P A xs) (h' : SlI w Q C ys) (hx : xs.length ≤ 8796093022208) (hy : ys.length ≤ 8796093022208) (b : Bool) (hb : decide (xs = ys) = b) :
    Calls Tryd.prog 22 #[.slice A xs.length c, .slice C ys.length d] w fun e w' => e = .returned (.bool b) ∧ ∃ q, w' = w.drewN q := by
  by_cases hl : xs.length = ys.length
  · rcases Nat.eq_zero_or_pos xs.length with h0 | h0
    · obtain rfl := List.eq_nil_of_length_eq_zero h0
      obtain rfl := List.eq_nil_of_length_eq_zero (hl.symm.trans h0)
      refine (Tryd.slices_Equal_int_empty A C c 0 d w (by omega)).mono ?_
      rintro e w' ⟨rfl, rfl⟩
      exact ⟨by rw [← hb]; simp, 0, rfl⟩
    · obtain ⟨b1, rfl⟩ := h.plain h0
      obtain ⟨b2, rfl⟩ := h'.plain (by omega)
      refine (Tryd.slices_Equal_int b1 0 xs.length c b2 0 ys.length d xs ys w (Nat.le_refl _) (Nat.le_refl _) (by omega) (by omega) h.cells h'.cells).mono ?_
      rintro e w' ⟨rfl, q, rfl⟩
      refine ⟨?_, q, rfl⟩
      rw [← hb, List.take_length, List.take_length]
      congr 2
      by_cases e : xs = ys <;> simp [e]
  · refine (Tryd.slices_Equal_int_lens A C xs.length c ys.length d w hl).mono ?_
    rintro e w' ⟨rfl, rfl⟩
    exact ⟨by rw [← hb, decide_eq_false (fun e => hl (by rw [e]))], 0, rfl⟩
set_option maxRecDepth 100000 in
set_option maxHeartbeats 4000000 in
theorem same_any (K : Kit) (w0 w : World) (p : Nat) (t : Ste) (F : Nat → Prop) (n q : Nat) (G : Nat → Prop) (h : Pr K w0 w p t F n q t G) :
    Calls Tryd.prog 14 #[.pointer (some ⟨p, 0, none⟩), .pointer (some ⟨q, 0, none⟩)] w fun e w' => e = .returned (.bool true) ∧ Pr K w0 w' p t F n q t G := by
  have TW := Lib.hid h
  have OK := Lib.hid h.a.k
  obtain ⟨st, hst⟩ : ∃ st, t.state = st := ⟨_, rfl⟩
  obtain ⟨l, hl⟩ : ∃ l, t.shapes = l := ⟨_, rfl⟩
  obtain ⟨tx, htx⟩ : ∃ tx : ByteArray, t.text = tx.data.toList := ⟨⟨t.text.toArray⟩, by simp⟩
  obtain ⟨hh, hhe⟩ : ∃ hh, t.hits = hh := ⟨_, rfl⟩
  obtain ⟨mm, hme⟩ : ∃ mm, t.miss = mm := ⟨_, rfl⟩
  have l4 : l.length ≤ 4 := by rw [← hl]; unfold Ste.shapes; rw [List.length_map]; exact OK.out.len
  have ST := Lib.hid hst
  have SH := Lib.hid hl
  have TX := Lib.hid htx
  have HH := Lib.hid hhe
  have HM := Lib.hid hme
  have T2 := Lib.hid (show bsL t.text = tx from bytes_of_list (by rw [bs_list, htx]))
  clear h hst hl htx hhe hme
  go_enter Tryd.func14, Tryd.ntmps14
  go_wp2_with fail
  refine (counts_at TW.out.a HH.out HM.out).mono ?_
  rintro e w1 ⟨rfl, _, hb⟩
  replace TW := Lib.hid (TW.out.low hb)
  clear hb
  go_wp2_with fail
  refine (state_at TW.out.a ST.out).mono ?_
  rintro e w2 ⟨rfl, _, hb⟩
  replace TW := Lib.hid (TW.out.low hb)
  clear hb
  go_wp2_with fail
  refine (ref_state w2 q t G TW.out.r OK.out.len).mono ?_
  rintro e w3 ⟨rfl, hw⟩
  subst hw
  rw [ST.out]
  go_wp2_with fail
  refine (shapes_at TW.out.a SH.out).mono ?_
  rintro e w4 ⟨v, rfl, ho, _, hb⟩
  obtain ⟨A1, c1, rfl, _, _, hs⟩ := ho.form
  have S1 := Lib.hid hs
  replace TW := Lib.hid (TW.out.low hb)
  clear hb ho hs
  go_wp2_with fail
  refine (ref_shapes w4 q t G TW.out.r OK.out.len).mono ?_
  rintro e w5 ⟨v, rfl, ho, hb⟩
  rw [SH.out] at ho
  obtain ⟨A2, c2, rfl, _, _, hs⟩ := ho.form
  have S2 := Lib.hid hs
  replace S1 := Lib.hid (S1.out.low (fun b h => h.2) hb)
  replace TW := Lib.hid (TW.out.low hb)
  clear hb ho hs
  go_wp2_with fail
  refine (equal_any _ _ A1 A2 l l c1 c2 _ S1.out S2.out (by omega) (by omega) true (by simp)).mono ?_
  rintro e w6 ⟨rfl, nq, rfl⟩
  replace TW := Lib.hid (TW.out.drewN nq)
  clear S1 S2
  go_wp2_with fail
  refine (text_at TW.out.a TX.out).mono ?_
  rintro e w7 ⟨rfl, _, hb⟩
  replace TW := Lib.hid (TW.out.low hb)
  clear hb
  go_wp2_with fail
  refine (ref_text _ q t G n TW.out.r OK.out).mono ?_
  rintro e w8 ⟨rfl, hb⟩
  rw [T2.out]
  replace TW := Lib.hid (TW.out.low hb)
  clear hb
  obtain ⟨rv, hr⟩ := TW.out.r
  have d2 := hr.c2
  have d3 := hr.c3
  rw [HH.out] at d2
  rw [HM.out] at d3
  clear hr
  go_wp2_with fail
  go_ret
  exact ⟨by simp, TW.out⟩
set_option maxRecDepth 100000 in
set_option maxHeartbeats 4000000 in
theorem plays_walk (K : Kit) (acts : List Act) (A : Option Addr) (c B : Nat) (w : World) (ha : ActS w B A acts) (hB : B ≤ w.heap.size) (hl : acts.length ≤ 5864062014634) (hok : ∀ x ∈ acts, x.OK) (hk : K.V w) :
    Calls Tryd.prog 3 #[.slice A acts.length c] w fun e w' => e = .returned (.bool true) ∧ Below w.heap.size w w' := by
  have HV := Lib.hid hk
  have HA := Lib.hid ha
  have HOK := Lib.hid hok
  clear hk ha hok
  go_enter Tryd.func3, Tryd.ntmps3
  go_wp2_with fail
  refine (sanity_any K _ HV.out).mono ?_
  rintro e w1 ⟨rfl, hb⟩
  have B1 := Lib.hid hb
  clear hb
  go_wp2_with fail
  refine (new_at (w0 := w) HV.out B1.out).mono ?_
  rintro e w2 ⟨p, F, rfl, h, _⟩
  have TA := Lib.hid h
  clear h
  go_wp2_with fail
  refine (ref_new w2).mono ?_
  rintro e w3 ⟨q, G, rfl, hr, hb, hG⟩
  have TW := Lib.hid (show Pr K w w3 p st0 F 0 q st0 G from ⟨TA.out.below hb, hr, fun b h => Nat.le_trans TA.out.b.size (hG b h), fun b h e => by have := hG b h; have := K.lt TA.out.h b e; omega⟩)
  clear hr hb hG TA
  go_wp2_with fail
  go_loopw [6] (fun i wr => ∃ (k : Nat) (F G : Nat → Prop) (t : Ste), k ≤ 60 ∧ k ≤ acts.length ∧ i = .int .i64 k ∧ Hid (Pr K w wr p t F k q t G)) (fun i _ => 60 - (intOf i).toNat)
  case atStart => exact ⟨0, F, G, st0, by omega, by omega, rfl, TW⟩
  case round =>
    clear TW
    obtain ⟨k, F, G, t, h60, hk, rfl, TW⟩ := hrel
    by_cases h1 : k < acts.length
    · by_cases h2 : k < 60
      · obtain ⟨b, o, rfl, hb, c0, c1, c2⟩ := HA.out.below TW.out.a.b hB k _ (List.getElem?_eq_getElem h1)
        have XO := Lib.hid (HOK.out _ (List.getElem_mem h1))
        generalize acts[k] = x at *
        have h3 : (k : Int) < acts.length := by omega
        have h4 : (k : Int) < 60 := by omega
        clear hb
        go_wp2_with fail
        refine (do_any K w wr p t F k q G x TW.out (by omega) XO.out).mono ?_
        rintro e w4 ⟨F', G', rfl, h⟩
        replace TW := Lib.hid h
        clear h
        go_wp2_with fail
        refine (same_any K w _ p _ F' _ q G' TW.out).mono ?_
        rintro e w5 ⟨rfl, h⟩
        replace TW := Lib.hid h
        clear h
        go_wp2_with fail
        go_roundw
        case rel => exact ⟨k + 1, F', G', _, by omega, by omega, by go_num, TW⟩
        case measure => simp [intOf]; omega
      · obtain rfl : k = 60 := by omega
        go_wp2_with fail
        refine (same_any K w _ p _ F _ q G TW.out).mono ?_
        rintro e w5 ⟨rfl, h⟩
        replace TW := Lib.hid h
        clear h
        go_wp2_with fail
        go_ret
        exact ⟨rfl, TW.out.a.b⟩
    · obtain rfl : k = acts.length := by omega
      go_wp2_with fail
      refine (same_any K w _ p _ F _ q G TW.out).mono ?_
      rintro e w5 ⟨rfl, h⟩
      replace TW := Lib.hid h
      clear h
      go_wp2_with fail
      go_ret
      exact ⟨rfl, TW.out.a.b⟩
end Go.Proofs.YtpgjmmlgaanelaaDoor.Ch
