/-
  The law's own calls: made; do.
-/
import Derived.Test.YtjoffbgfokedlaaDoorPd
namespace Go.Proofs.YtjoffbgfokedlaaDoor.Pf
open Go Go.RowKit

/-- Only the profile's blocks have turned, and new ones. -/
structure Gd (F : Nat → Prop) (w w' : World) (F' : Nat → Prop) : Prop where
  c : Chg F w w'
  s : Sub F F' w
theorem Gd.refl (F : Nat → Prop) (w : World) : Gd F w w F := ⟨Chg.refl F w, Sub.refl F w⟩
theorem Gd.low {F : Nat → Prop} {w w' : World} (h : Below w.heap.size w w') : Gd F w w' F := ⟨Chg.of_below h, fun _ hb => .inl hb⟩
theorem Gd.trans {F G H : Nat → Prop} {a b c : World} (h : Gd F a b G) (k : Gd G b c H) : Gd F a c H :=
  ⟨h.c.trans k.c h.s, fun x hx => (k.s x hx).elim (h.s x) fun e => .inr (Nat.le_trans h.c.size e)⟩
theorem Gd.off {F F' : Nat → Prop} {w w' : World} (h : Gd F w w' F') {G : Nat → Prop} (hG : ∀ b, G b → b < w.heap.size) (hd : ∀ b, F b → ¬ G b) : (∀ b, G b → w'.heap[b]? = w.heap[b]?) ∧ ∀ b, F' b → ¬ G b :=
  ⟨fun b hb => h.c.block b (hG b hb) fun e => hd b e hb, fun b hb hg => (h.s b hb).elim (fun e => hd b e hg) fun e => by have := hG b hg; omega⟩
theorem Own.gd {F F' : Nat → Prop} {w w' : World} {b : Nat} {c : Array Value} {T : TypeId} (h : Own F w b c T) (k : Gd F w w' F') : Own F' w' b c T := h.code k.c k.s
def bc (t : Pst) (a : Plc) : Nat → Int
  | 0 => 0
  | k + 1 => bc t a k + if ((itB t a k).back a).1 = true then 1 else 0
theorem bc_le (t : Pst) (a : Plc) : ∀ k, 0 ≤ bc t a k ∧ bc t a k ≤ k
  | 0 => by unfold bc; omega
  | k + 1 => by
    have := bc_le t a k
    unfold bc
    split <;> omega
/-- What the law's do makes of a profile. -/
def doP (t : Pst) (x : Act) : Int × Pst :=
  if x.what % 6 = 4 then (if (t.left x.plc x.exit).1 = true then 1 else 0, (t.left x.plc x.exit).2)
  else if x.what % 6 = 5 then (0, t.failed x.plc x.err)
  else (bc t x.plc x.times.toNat, itB t x.plc x.times.toNat)
section
variable {K : Kit} {w0 w : World} {p n : Nat} {t : Pst} {F : Nat → Prop}
/-- How do ends. -/
def DoTo (K : Kit) (w0 : World) (p : Nat) (t : Pst) (F : Nat → Prop) (n : Nat) (x : Act) (w : World) (e : Ending) (w' : World) : Prop :=
  ∃ F', e = .returned (.int .i64 (doP t x).1) ∧ Tr K w0 w' p (doP t x).2 F' (n + 9) ∧ Gd F w w' F'
set_option maxRecDepth 100000 in
set_option maxHeartbeats 4000000 in
theorem do_left (h : Tr K w0 w p t F n) (hn : n + 9 ≤ 100000) (x : Act) (hx : x.OK) (hm : x.what % 6 = 4) :
    Calls Tryd.prog 12 #[.pointer (some ⟨p, 0, none⟩), actV x] w (DoTo K w0 p t F n x w) := by
  have EQ := Lib.hid (show doP t x = (if (t.left x.plc x.exit).1 = true then 1 else 0, (t.left x.plc x.exit).2) by unfold doP; rw [if_pos hm])
  have HX := Lib.hid hx
  have M := Lib.hid (fun W => mod_any x.what 6 hx.1 (by omega) (by omega) W)
  rw [hm] at M
  have HN := Lib.hid hn
  have BA := Lib.hid ((Below.refl _ w).alloc (Nat.le_refl _) (.cells (rowA x) 32))
  have T0 := Lib.hid (h.alloc (.cells (rowA x) 32))
  have XA := Lib.hid (Own.new h (rowA x) 32)
  clear hm hn hx h
  obtain ⟨o, t', hl⟩ : ∃ o t', t.left x.plc x.exit = (o, t') := ⟨_, _, rfl⟩
  rw [hl] at EQ
  have HL := Lib.hid hl
  clear hl
  simp only at EQ
  have c0 := XA.out.k.cell 0 (.int .i64 x.what) rfl
  have c1 := XA.out.k.cell 1 (.int .i64 x.a) rfl
  have c2 := XA.out.k.cell 2 (.int .i64 x.b) rfl
  rw [show actV x = .agg #[.int .i64 x.what, .int .i64 x.a, .int .i64 x.b] from rfl]
  unfold rowA at BA T0 XA c0 c1 c2
  go_enter Tryd.func12, Tryd.ntmps12
  go_wp2_with fail
  refine (M.out _).mono ?_
  rintro e w1 ⟨rfl, rfl⟩
  obtain ⟨b1, hb1⟩ : ∃ b, w.heap.size = b := ⟨_, rfl⟩
  rw [hb1] at XA c0 c1 c2
  generalize w.alloc (.cells #[.int .i64 x.what, .int .i64 x.a, .int .i64 x.b] 32) = v1 at *
  have hf0 := XA.out.k.frozen 0
  rw [hb1] at BA ⊢
  go_wp2_with fail
  have GG := Lib.hid (Gd.low (F := F) (hb1.symm ▸ BA.out))
  replace T0 := Lib.hid T0.out.drew
  replace GG := Lib.hid (GG.out.trans (Gd.low (F := F) ((Below.refl v1.heap.size v1).drew)))
  replace XA := Lib.hid (XA.out.low ((Below.refl v1.heap.size v1).drew))
  clear BA
  go_region_held3 (fun w' => w'.cell? ⟨b1, 0, none⟩ = some (.int .i64 x.what) ∧ w'.cell? ⟨b1, 1, none⟩ = some (.int .i64 x.a) ∧ w'.cell? ⟨b1, 2, none⟩ = some (.int .i64 x.b)) (first | exact ⟨c0, c1, c2⟩ | go_keep) ((first
    | (go_at_call 21
       (with_reducible refine (place_any x HX.out _).mono ?_)
       rintro e w5 ⟨rfl, hb⟩
       replace T0 := Lib.hid (T0.out.below hb)
       replace XA := Lib.hid (XA.out.low hb)
       replace GG := Lib.hid (GG.out.trans (Gd.low hb))
       replace c0 := XA.out.k.cell 0 (.int .i64 x.what) rfl
       replace c1 := XA.out.k.cell 1 (.int .i64 x.a) rfl
       replace c2 := XA.out.k.cell 2 (.int .i64 x.b) rfl
       clear hb)
    | (go_at_call 28
       (with_reducible refine (exit_any x HX.out _).mono ?_)
       rintro e w5 ⟨rfl, hb⟩
       replace T0 := Lib.hid (T0.out.below hb)
       replace XA := Lib.hid (XA.out.low hb)
       replace GG := Lib.hid (GG.out.trans (Gd.low hb))
       replace c0 := XA.out.k.cell 0 (.int .i64 x.what) rfl
       replace c1 := XA.out.k.cell 1 (.int .i64 x.a) rfl
       replace c2 := XA.out.k.cell 2 (.int .i64 x.b) rfl
       clear hb)
    | (go_at_call 24
       (with_reducible refine (left_at T0.out (by have := HN.out; omega) x.plc_ok x.exit_ok HL.out).mono ?_)
       rintro e w6 ⟨F', rfl, h1, h2, h3⟩
       have T1 := Lib.hid h1
       have G1 := Lib.hid (GG.out.trans ⟨h2, h3⟩)
       have XA1 := Lib.hid (XA.out.code h2 h3)
       replace c0 := XA1.out.k.cell 0 (.int .i64 x.what) rfl
       replace c1 := XA1.out.k.cell 1 (.int .i64 x.a) rfl
       replace c2 := XA1.out.k.cell 2 (.int .i64 x.b) rfl
       clear h1 h2 h3 T0 XA GG)))
  all_goals
    clear c0 c1 c2 hf0
    cases o
    · go_wp2_with fail
      go_ret
      exact ⟨F', by rw [EQ.out]; rfl, by rw [EQ.out]; exact T1.out.up (by omega) HN.out, G1.out⟩
    · go_wp2_with fail
      go_ret
      exact ⟨F', by rw [EQ.out]; rfl, by rw [EQ.out]; exact T1.out.up (by omega) HN.out, G1.out⟩
set_option maxRecDepth 100000 in
set_option maxHeartbeats 4000000 in
theorem do_failed (h : Tr K w0 w p t F n) (hn : n + 9 ≤ 100000) (x : Act) (hx : x.OK) (hm : x.what % 6 = 5) :
    Calls Tryd.prog 12 #[.pointer (some ⟨p, 0, none⟩), actV x] w (DoTo K w0 p t F n x w) := by
  have EQ := Lib.hid (show doP t x = (0, t.failed x.plc x.err) by unfold doP; rw [if_neg (by omega), if_pos hm])
  have HX := Lib.hid hx
  have M := Lib.hid (fun W => mod_any x.what 6 hx.1 (by omega) (by omega) W)
  rw [hm] at M
  have HN := Lib.hid hn
  have BA := Lib.hid ((Below.refl _ w).alloc (Nat.le_refl _) (.cells (rowA x) 32))
  have T0 := Lib.hid (h.alloc (.cells (rowA x) 32))
  have XA := Lib.hid (Own.new h (rowA x) 32)
  clear hm hn hx h
  obtain ⟨t', hl⟩ : ∃ t', t.failed x.plc x.err = t' := ⟨_, rfl⟩
  rw [hl] at EQ
  have HL := Lib.hid hl
  clear hl
  have c0 := XA.out.k.cell 0 (.int .i64 x.what) rfl
  have c1 := XA.out.k.cell 1 (.int .i64 x.a) rfl
  have c2 := XA.out.k.cell 2 (.int .i64 x.b) rfl
  rw [show actV x = .agg #[.int .i64 x.what, .int .i64 x.a, .int .i64 x.b] from rfl]
  unfold rowA at BA T0 XA c0 c1 c2
  go_enter Tryd.func12, Tryd.ntmps12
  go_wp2_with fail
  refine (M.out _).mono ?_
  rintro e w1 ⟨rfl, rfl⟩
  obtain ⟨b1, hb1⟩ : ∃ b, w.heap.size = b := ⟨_, rfl⟩
  rw [hb1] at XA c0 c1 c2
  generalize w.alloc (.cells #[.int .i64 x.what, .int .i64 x.a, .int .i64 x.b] 32) = v1 at *
  have hf0 := XA.out.k.frozen 0
  rw [hb1] at BA ⊢
  go_wp2_with fail
  have GG := Lib.hid (Gd.low (F := F) (hb1.symm ▸ BA.out))
  replace T0 := Lib.hid T0.out.drew
  replace GG := Lib.hid (GG.out.trans (Gd.low (F := F) ((Below.refl v1.heap.size v1).drew)))
  replace XA := Lib.hid (XA.out.low ((Below.refl v1.heap.size v1).drew))
  clear BA
  go_region_held3 (fun w' => w'.cell? ⟨b1, 0, none⟩ = some (.int .i64 x.what) ∧ w'.cell? ⟨b1, 1, none⟩ = some (.int .i64 x.a) ∧ w'.cell? ⟨b1, 2, none⟩ = some (.int .i64 x.b)) (first | exact ⟨c0, c1, c2⟩ | go_keep) ((first
    | (go_at_call 21
       (with_reducible refine (place_any x HX.out _).mono ?_)
       rintro e w5 ⟨rfl, hb⟩
       replace T0 := Lib.hid (T0.out.below hb)
       replace XA := Lib.hid (XA.out.low hb)
       replace GG := Lib.hid (GG.out.trans (Gd.low hb))
       replace c0 := XA.out.k.cell 0 (.int .i64 x.what) rfl
       replace c1 := XA.out.k.cell 1 (.int .i64 x.a) rfl
       replace c2 := XA.out.k.cell 2 (.int .i64 x.b) rfl
       clear hb)
    | (go_at_call 29
       (with_reducible refine (err_any x HX.out _).mono ?_)
       rintro e w5 ⟨rfl, hb⟩
       replace T0 := Lib.hid (T0.out.below hb)
       replace XA := Lib.hid (XA.out.low hb)
       replace GG := Lib.hid (GG.out.trans (Gd.low hb))
       replace c0 := XA.out.k.cell 0 (.int .i64 x.what) rfl
       replace c1 := XA.out.k.cell 1 (.int .i64 x.a) rfl
       replace c2 := XA.out.k.cell 2 (.int .i64 x.b) rfl
       clear hb)
    | (go_at_call 26
       (with_reducible refine (failed_at T0.out (by have := HN.out; omega) x.plc_ok x.err_ok HL.out).mono ?_)
       rintro e w6 ⟨F', rfl, h1, h2, h3⟩
       have T1 := Lib.hid h1
       have G1 := Lib.hid (GG.out.trans ⟨h2, h3⟩)
       have XA1 := Lib.hid (XA.out.code h2 h3)
       replace c0 := XA1.out.k.cell 0 (.int .i64 x.what) rfl
       replace c1 := XA1.out.k.cell 1 (.int .i64 x.a) rfl
       replace c2 := XA1.out.k.cell 2 (.int .i64 x.b) rfl
       clear h1 h2 h3 T0 XA GG)))
  all_goals
    clear c0 c1 c2 hf0
    go_wp2_with fail
    go_ret
    exact ⟨F', by rw [EQ.out]; rfl, by rw [EQ.out]; exact T1.out.up (by omega) HN.out, G1.out⟩
set_option maxRecDepth 100000 in
set_option maxHeartbeats 4000000 in
theorem do_back (h : Tr K w0 w p t F n) (hn : n + 9 ≤ 100000) (x : Act) (hx : x.OK) (h4 : ¬ x.what % 6 = 4) (h5 : ¬ x.what % 6 = 5) :
    Calls Tryd.prog 12 #[.pointer (some ⟨p, 0, none⟩), actV x] w (DoTo K w0 p t F n x w) := by
  have EQ := Lib.hid (show doP t x = (bc t x.plc x.times.toNat, itB t x.plc x.times.toNat) by unfold doP; rw [if_neg h4, if_neg h5])
  have HX := Lib.hid hx
  have M := Lib.hid (fun W => mod_any x.what 6 hx.1 (by omega) (by omega) W)
  obtain ⟨m, hm⟩ : ∃ m, x.what % 6 = m := ⟨_, rfl⟩
  rw [hm] at M h4 h5
  have k4 : (m == 4) = false := by rw [beq_eq_false_iff_ne]; exact h4
  have k5 : (m == 5) = false := by rw [beq_eq_false_iff_ne]; exact h5
  obtain ⟨tm0, tm9⟩ := x.times_ok
  have HN := Lib.hid hn
  have BA := Lib.hid ((Below.refl _ w).alloc (Nat.le_refl _) (.cells (rowA x) 32))
  have T0 := Lib.hid (h.alloc (.cells (rowA x) 32))
  have XA := Lib.hid (Own.new h (rowA x) 32)
  clear hm hn hx h h4 h5
  have c0 := XA.out.k.cell 0 (.int .i64 x.what) rfl
  rw [show actV x = .agg #[.int .i64 x.what, .int .i64 x.a, .int .i64 x.b] from rfl]
  unfold rowA at BA T0 XA c0
  go_enter Tryd.func12, Tryd.ntmps12
  go_wp2_with fail
  refine (M.out _).mono ?_
  rintro e w1 ⟨rfl, rfl⟩
  obtain ⟨b1, hb1⟩ : ∃ b, w.heap.size = b := ⟨_, rfl⟩
  rw [hb1] at XA c0
  generalize w.alloc (.cells #[.int .i64 x.what, .int .i64 x.a, .int .i64 x.b] 32) = v1 at *
  rw [hb1] at BA ⊢
  clear c0
  go_wp2_with fail
  have GG := Lib.hid (Gd.low (F := F) (hb1.symm ▸ BA.out))
  obtain ⟨N, hN⟩ : ∃ N, x.times.toNat = N := ⟨_, rfl⟩
  rw [hN] at EQ
  have TI := Lib.hid (fun W => times_any x HX.out W)
  rw [show x.times = (N : Int) by omega] at TI tm0 tm9
  clear hN BA hb1
  go_loopw [6, 5] (fun i c wr => ∃ (k : Nat) (G : Nat → Prop), k ≤ N ∧ i = .int .i64 k ∧ c = .int .i64 (bc t x.plc k) ∧ Hid (Tr K w0 wr p (itB t x.plc k) G (n + k)) ∧ Hid (Own G wr b1 #[.int .i64 x.what, .int .i64 x.a, .int .i64 x.b] 32) ∧ Hid (Gd F w wr G)) (fun i _ _ => N - (intOf i).toNat)
  case atStart => exact ⟨0, F, by omega, rfl, rfl, T0, XA, GG⟩
  case round =>
    clear T0 XA GG
    obtain ⟨k, G, hk, rfl, rfl, T, XA, GG⟩ := hrel
    obtain ⟨q0, q1⟩ := bc_le t x.plc k
    obtain ⟨o, t', hb⟩ : ∃ o t', (itB t x.plc k).back x.plc = (o, t') := ⟨_, _, rfl⟩
    have HB := Lib.hid hb
    have TE := Lib.hid (show itB t x.plc (k + 1) = t' by show ((itB t x.plc k).back x.plc).2 = t'; rw [hb])
    have CE := Lib.hid (show bc t x.plc (k + 1) = bc t x.plc k + if o = true then 1 else 0 by show _ + (if ((itB t x.plc k).back x.plc).1 = true then 1 else 0) = _; rw [hb])
    clear hb
    have c0 := XA.out.k.cell 0 (.int .i64 x.what) rfl
    have c1 := XA.out.k.cell 1 (.int .i64 x.a) rfl
    have c2 := XA.out.k.cell 2 (.int .i64 x.b) rfl
    go_wp2_with fail
    refine (TI.out wr).mono ?_
    rintro e w2 ⟨rfl, hb⟩
    have T2 := Lib.hid (T.out.below hb)
    have XA2 := Lib.hid (XA.out.low hb)
    have GG2 := Lib.hid (GG.out.trans (Gd.low hb))
    clear hb
    replace c0 := XA2.out.k.cell 0 (.int .i64 x.what) rfl
    replace c1 := XA2.out.k.cell 1 (.int .i64 x.a) rfl
    replace c2 := XA2.out.k.cell 2 (.int .i64 x.b) rfl
    by_cases hlt : k < N
    · have hd : decide ((k : Int) < N) = true := decide_eq_true (by omega)
      go_wp2_with fail
      refine (place_any x HX.out _).mono ?_
      rintro e w3 ⟨rfl, hb⟩
      have T3 := Lib.hid (T2.out.below hb)
      have XA3 := Lib.hid (XA2.out.low hb)
      have GG3 := Lib.hid (GG2.out.trans (Gd.low hb))
      clear hb c0 c1 c2
      go_wp2_with fail
      refine (back_at T3.out (by have := HN.out; omega) x.plc_ok HB.out).mono ?_
      rintro e w4 ⟨G4, rfl, h1, h2, h3⟩
      have T4 := Lib.hid h1
      have XA4 := Lib.hid (XA3.out.code h2 h3)
      have GG4 := Lib.hid (GG3.out.trans ⟨h2, h3⟩)
      clear h1 h2 h3
      have TN := Lib.hid (show Tr K w0 w4 p (itB t x.plc (k + 1)) G4 (n + (k + 1)) by rw [TE.out]; exact T4.out)
      cases o
      · go_wp2_with fail
        go_roundw
        case rel => exact ⟨k + 1, G4, hlt, by go_num, by rw [CE.out]; simp, TN, XA4, GG4⟩
        case measure => simp [intOf]; omega
      · go_wp2_with fail
        go_roundw
        case rel => exact ⟨k + 1, G4, hlt, by go_num, by rw [CE.out]; simp, TN, XA4, GG4⟩
        case measure => simp [intOf]; omega
    · obtain rfl : k = N := by omega
      have hd : decide ((k : Int) < k) = false := decide_eq_false (by omega)
      clear c0 c1 c2
      go_wp2_with fail
      go_ret
      exact ⟨G, by rw [EQ.out]; rfl, by rw [EQ.out]; exact T2.out.up (by omega) HN.out, GG2.out⟩
theorem do_any (h : Tr K w0 w p t F n) (hn : n + 9 ≤ 100000) (x : Act) (hx : x.OK) :
    Calls Tryd.prog 12 #[.pointer (some ⟨p, 0, none⟩), actV x] w (DoTo K w0 p t F n x w) := by
  by_cases h4 : x.what % 6 = 4
  · exact do_left h hn x hx h4
  · by_cases h5 : x.what % 6 = 5
    · exact do_failed h hn x hx h5
    · exact do_back h hn x hx h4 h5
/-- How made ends. -/
def st0L (a b c d : Int) : Pst := st0 (1 + a % 3) (1 + b % 4) (1 + b % 4 + 1 + c % 5) (1 + d % 3)
def MadeTo (K : Kit) (w0 : World) (a b c d : Int) (w : World) (e : Ending) (w' : World) : Prop :=
  ∃ p F q G, e = .returned (.tuple #[.pointer (some ⟨p, 0, none⟩), .pointer (some ⟨q, 0, none⟩)]) ∧ Tr K w0 w' p (st0L a b c d) F 0 ∧ RefS w' q (st0L a b c d) G ∧ Below w.heap.size w w' ∧ (∀ b, G b → w.heap.size ≤ b) ∧ (∀ b, F b → ¬ G b) ∧ ∀ b, F b → w.heap.size ≤ b
set_option maxRecDepth 100000 in
set_option maxHeartbeats 4000000 in
theorem made_any (K : Kit) (w0 w : World) (hv : K.V w0) (hb : Below w0.heap.size w0 w) (a b c d : Int) (ia : I64 a) (ib : I64 b) (ic : I64 c) (id' : I64 d) :
    Calls Tryd.prog 11 #[.agg #[.int .i64 a, .int .i64 b, .int .i64 c, .int .i64 d]] w (MadeTo K w0 a b c d w) := by
  have M0 := Lib.hid (fun W => q_same (fun W => mod_any a 3 ia (by omega) (by omega) W) W)
  have M1 := Lib.hid (fun W => q_same (fun W => mod_any b 4 ib (by omega) (by omega) W) W)
  have M2 := Lib.hid (fun W => q_same (fun W => mod_any c 5 ic (by omega) (by omega) W) W)
  have M3 := Lib.hid (fun W => q_same (fun W => mod_any d 3 id' (by omega) (by omega) W) W)
  obtain ⟨a0, a1⟩ := mod_range a 3 (by omega)
  obtain ⟨b0, b1⟩ := mod_range b 4 (by omega)
  obtain ⟨e0, e1⟩ := mod_range c 5 (by omega)
  obtain ⟨d0, d1⟩ := mod_range d 3 (by omega)
  have HL := Lib.hid (show okLim (1 + a % 3) (1 + b % 4) (1 + b % 4 + 1 + c % 5) (1 + d % 3) by unfold okLim; omega)
  have ES := Lib.hid (show st0L a b c d = st0 (1 + a % 3) (1 + b % 4) (1 + b % 4 + 1 + c % 5) (1 + d % 3) from rfl)
  have HV := Lib.hid hv
  have HB := Lib.hid hb
  have BA := Lib.hid ((Below.refl _ w).alloc (Nat.le_refl _) (.cells #[.int .i64 a, .int .i64 b, .int .i64 c, .int .i64 d] 23))
  have XA := Bk.new w #[.int .i64 a, .int .i64 b, .int .i64 c, .int .i64 d] 23
  have c0 := XA.cell 0 (.int .i64 a) rfl
  have c1 := XA.cell 1 (.int .i64 b) rfl
  have c2 := XA.cell 2 (.int .i64 c) rfl
  have c3 := XA.cell 3 (.int .i64 d) rfl
  clear XA hv hb ia ib ic id'
  generalize a % 3 = A at *
  generalize b % 4 = B at *
  generalize c % 5 = C at *
  generalize d % 3 = D at *
  go_enter Tryd.func11, Tryd.ntmps11
  go_wp2_with fail
  obtain ⟨g, hg⟩ : ∃ g, w.heap.size = g := ⟨_, rfl⟩
  rw [hg] at c0 c1 c2 c3
  generalize w.alloc (.cells #[.int .i64 a, .int .i64 b, .int .i64 c, .int .i64 d] 23) = v1 at *
  rw [hg]
  go_quiet ((go_at_call 20; first | with_reducible exact qq _ _ M0.out | with_reducible exact qq _ _ M1.out | with_reducible exact qq _ _ M2.out | with_reducible exact qq _ _ M3.out))
  go_wp2_with fail
  clear M0 M1
  obtain ⟨M, hM⟩ : ∃ M, 1 + B = M := ⟨_, rfl⟩
  obtain ⟨S, hS⟩ : ∃ S, 1 + A = S := ⟨_, rfl⟩
  rw [hM, hS] at HL ES
  rw [hM, hS]
  have m0 : 1 ≤ M := by omega
  have m1 : M ≤ 4 := by omega
  clear hM hS a0 a1 b0 b1
  have f2 : (v1.drewN nq).cell? ⟨g, 2, none⟩ = some (.int .i64 c) := c2
  have f3 : (v1.drewN nq).cell? ⟨g, 3, none⟩ = some (.int .i64 d) := c3
  have BD := Lib.hid (show Below w.heap.size w (v1.drewN nq) from BA.out.trans ⟨rfl, rfl, rfl, Nat.le_refl _, fun _ _ => rfl⟩)
  clear c0 c1 c2 c3 BA
  generalize v1.drewN nq = v2 at *
  go_quiet ((go_at_call 20; first | with_reducible exact qq _ _ M2.out | with_reducible exact qq _ _ M3.out))
  clear f2 f3 M2 M3
  go_wp2_with fail
  have B2 := Lib.hid (show Below w.heap.size w (v2.drewN nq) from BD.out.trans ⟨rfl, rfl, rfl, Nat.le_refl _, fun _ _ => rfl⟩)
  clear BD
  refine (new_at (K := K) (w0 := w0) HV.out (HB.out.trans (B2.out.mono HB.out.size)) HL.out).mono ?_
  rintro e w3 ⟨p, F, rfl, h1, h2, h3⟩
  have T3 := Lib.hid h1
  have B3 := Lib.hid (B2.out.trans (h2.mono B2.out.size))
  have F3 := Lib.hid (show ∀ b, F b → w.heap.size ≤ b from fun b hb => Nat.le_trans B2.out.size (h3 b hb))
  clear h1 h2 h3 B2
  go_wp2_with fail
  refine (ref_new w3 S M (M + 1 + C) (1 + D) HL.out).mono ?_
  rintro e w4 ⟨q, G, rfl, h1, h2, h3⟩
  have T4 := Lib.hid (T3.out.below h2)
  have R4 := Lib.hid h1
  have B4 := Lib.hid (B3.out.trans (h2.mono B3.out.size))
  have G4 := Lib.hid (show ∀ b, G b → w.heap.size ≤ b from fun b hb => Nat.le_trans B3.out.size (h3 b hb))
  have FG := Lib.hid (show ∀ b, F b → ¬ G b from fun b hb hg => by
    have := K.lt T3.out.h b hb
    have := h3 b hg
    omega)
  clear h1 h2 h3 T3 B3
  go_wp2_with fail
  go_ret2
  exact ⟨p, F, q, G, rfl, by rw [ES.out]; exact T4.out, by rw [ES.out]; exact R4.out, B4.out, G4.out, FG.out, F3.out⟩
end
end Go.Proofs.YtjoffbgfokedlaaDoor.Pf
