/-
  The law's own calls: Mod, an act's place, exit, error, times; made.
-/
import Derived.Test.YtjoffbgfokedlaaDoorPs
import Derived.Test.YtjoffbgfokedlaaDoorRa
import Derived.Test.YtjoffbgfokedlaaDoorPo
import Derived.BigQuiet
namespace Go.Proofs.YtjoffbgfokedlaaDoor.Pf
open Go Go.RowKit

theorem bkKeep {w w' : World} {b : Nat} {c : Array Value} {T : TypeId} (h : Bk w b c T) (hk : w'.heap[b]? = w.heap[b]?) : Bk w' b c T := by
  unfold Bk at *; rw [hk]; exact h
theorem ret_int {k : IntKind} {a b : Int} (h : a = b) : Ending.returned (.int k a) = .returned (.int k b) := by rw [h]
theorem tmod_fix (a m : Int) (hm : 1 ≤ m) : (if a.tmod m < 0 then a.tmod m + m else a.tmod m) = a % m := by
  by_cases h : 0 ≤ a
  · rw [Int.tmod_eq_emod_of_nonneg h]
    have := Int.emod_nonneg a (show m ≠ 0 by omega)
    rw [if_neg (by omega)]
  · have h1 := Int.lt_tmod_of_pos a (show 0 < m by omega)
    have h2 : a.tmod m ≤ 0 := by
      have := Int.tmod_nonneg (a := -a) m (by omega)
      rw [Int.neg_tmod] at this; omega
    have h3 : a.tmod m % m = a % m := by rw [Int.tmod_def]; rw [Int.sub_emod, Int.mul_emod_right, Int.sub_zero, Int.emod_emod]
    by_cases h4 : a.tmod m < 0
    · rw [if_pos h4, ← h3, ← Int.add_emod_right, Int.emod_eq_of_lt (by omega) (by omega)]
    · rw [if_neg h4, ← h3, Int.emod_eq_of_lt (by omega) (by omega)]
theorem mod_any (a m : Int) (ha : I64 a) (hm : 1 ≤ m) (hm' : m ≤ 9223372036854775807) (w : World) :
    Calls Tryd.prog 20 #[.int .i64 a, .int .i64 m] w fun e w' => e = .returned (.int .i64 (a % m)) ∧ w = w' := by
  obtain ⟨ha1, ha2⟩ := ha
  have T := Lib.hid (tmod_fix a m hm)
  have h1 := Int.lt_tmod_of_pos a (show 0 < m by omega)
  have h2 := Int.tmod_lt_of_pos a (show 0 < m by omega)
  have hne : ¬ m = 0 := by omega
  go_enter Tryd.func20, Tryd.ntmps20
  go_wp2
  all_goals
    go_ret
    exact ⟨ret_int (by have := T.out; split at this <;> omega), rfl⟩
/-- A quiet contract behind draws. -/
theorem qq {P : Program} {f : FuncId} {args : Array Value} {v : Value} (w : World) (n : Nat) (h : ∀ W : World, Calls P f args W fun e w' => e = .returned v ∧ ∃ m, w' = W.drewN m) :
    Calls P f args (w.drewN n) fun e w' => e = .returned v ∧ ∃ m, w' = w.drewN m :=
  (h _).mono fun _ _ ⟨he, m, hm⟩ => ⟨he, n + m, by rw [hm, World.drewN_drewN]⟩
theorem q_same {P : Program} {f : FuncId} {args : Array Value} {v : Value} (h : ∀ W : World, Calls P f args W fun e w' => e = .returned v ∧ W = w') :
    ∀ W : World, Calls P f args W fun e w' => e = .returned v ∧ ∃ m, w' = W.drewN m := fun W => (h W).mono fun _ _ ⟨he, hm⟩ => ⟨he, 0, by rw [hm]; rfl⟩
@[reducible] def actV (x : Act) : Value := .agg #[.int .i64 x.what, .int .i64 x.a, .int .i64 x.b]
def rowA (x : Act) : Array Value := #[.int .i64 x.what, .int .i64 x.a, .int .i64 x.b]
def Act.plc (x : Act) : Plc := (x.a % 2, x.a % 3)
def Act.exit (x : Act) : Int := x.b % 4 - 1
def Act.times (x : Act) : Int := 1 + x.b % 9
def Act.err (x : Act) : Int := if x.b % 3 = 0 then 0 else if x.b % 3 = 1 then 30 else 2
theorem mod_range (a m : Int) (hm : 1 ≤ m) : 0 ≤ a % m ∧ a % m < m := ⟨Int.emod_nonneg _ (by omega), Int.emod_lt_of_pos _ (by omega)⟩
theorem Act.plc_ok (x : Act) : okP x.plc := by
  have h1 := mod_range x.a 2 (by omega)
  have h2 := mod_range x.a 3 (by omega)
  unfold Act.plc okP I64
  simp only
  omega
theorem Act.exit_ok (x : Act) : I64 x.exit := by
  have h1 := mod_range x.b 4 (by omega)
  unfold Act.exit I64; omega
theorem Act.err_ok (x : Act) : I64 x.err := by
  unfold Act.err I64
  split
  · omega
  · split <;> omega
theorem Act.times_ok (x : Act) : 1 ≤ x.times ∧ x.times ≤ 9 := by
  have h1 := mod_range x.b 9 (by omega)
  unfold Act.times; omega
theorem times_any (x : Act) (hx : x.OK) (w : World) : Calls Tryd.prog 30 #[actV x] w fun e w' => e = .returned (.int .i64 x.times) ∧ Below w.heap.size w w' := by
  obtain ⟨f, a, b⟩ := x
  obtain ⟨_, _, hb⟩ := hx
  have M := Lib.hid (fun W => mod_any b 9 hb (by omega) (by omega) W)
  obtain ⟨r0, r1⟩ := mod_range b 9 (by omega)
  have E := Lib.hid (show (1 + b % 9 : Int) = (⟨f, a, b⟩ : Act).times from rfl)
  generalize b % 9 = r at *
  have c2 := (Bk.new w #[.int .i64 f, .int .i64 a, .int .i64 b] 32).cell 2 (.int .i64 b) rfl
  rw [show actV ⟨f, a, b⟩ = .agg #[.int .i64 f, .int .i64 a, .int .i64 b] from rfl]
  go_enter Tryd.func30, Tryd.ntmps30
  go_wp2_with fail
  refine (M.out _).mono ?_
  rintro e w1 ⟨rfl, rfl⟩
  go_wp2_with fail
  go_ret
  exact ⟨ret_int E.out, (Below.refl _ w).alloc (Nat.le_refl _) _⟩
theorem exit_any (x : Act) (hx : x.OK) (w : World) : Calls Tryd.prog 28 #[actV x] w fun e w' => e = .returned (.int .i64 x.exit) ∧ Below w.heap.size w w' := by
  obtain ⟨f, a, b⟩ := x
  obtain ⟨_, _, hb⟩ := hx
  have M := Lib.hid (fun W => mod_any b 4 hb (by omega) (by omega) W)
  obtain ⟨r0, r1⟩ := mod_range b 4 (by omega)
  have E := Lib.hid (show (b % 4 - 1 : Int) = (⟨f, a, b⟩ : Act).exit from rfl)
  generalize b % 4 = r at *
  have c2 := (Bk.new w #[.int .i64 f, .int .i64 a, .int .i64 b] 32).cell 2 (.int .i64 b) rfl
  rw [show actV ⟨f, a, b⟩ = .agg #[.int .i64 f, .int .i64 a, .int .i64 b] from rfl]
  go_enter Tryd.func28, Tryd.ntmps28
  go_wp2_with fail
  refine (M.out _).mono ?_
  rintro e w1 ⟨rfl, rfl⟩
  go_wp2_with fail
  go_ret
  exact ⟨ret_int E.out, (Below.refl _ w).alloc (Nat.le_refl _) _⟩
theorem err_any (x : Act) (hx : x.OK) (w : World) : Calls Tryd.prog 29 #[actV x] w fun e w' => e = .returned (.int .i64 x.err) ∧ Below w.heap.size w w' := by
  obtain ⟨f, a, b⟩ := x
  obtain ⟨_, _, hb⟩ := hx
  have M := Lib.hid (fun W => mod_any b 3 hb (by omega) (by omega) W)
  obtain ⟨r0, r1⟩ := mod_range b 3 (by omega)
  have E := Lib.hid (show (if b % 3 = 0 then (0 : Int) else if b % 3 = 1 then 30 else 2) = (⟨f, a, b⟩ : Act).err from rfl)
  generalize b % 3 = r at *
  have r3 : r = 0 ∨ r = 1 ∨ r = 2 := by omega
  have c2 := ((Bk.new w #[.int .i64 f, .int .i64 a, .int .i64 b] 32).alloc (.cells #[.int .i64 0, .int .i64 30, .int .i64 2] 53)).cell 2 (.int .i64 b) rfl
  rw [show actV ⟨f, a, b⟩ = .agg #[.int .i64 f, .int .i64 a, .int .i64 b] from rfl]
  rcases r3 with rfl | rfl | rfl
  all_goals
    go_enter Tryd.func29, Tryd.ntmps29
    go_wp2_with fail
    refine (M.out _).mono ?_
    rintro e w1 ⟨rfl, rfl⟩
    go_wp2_with fail
    go_ret
    exact ⟨ret_int E.out, ((Below.refl _ w).alloc (Nat.le_refl _) _).alloc (by simp) _⟩
set_option maxRecDepth 100000 in
set_option maxHeartbeats 4000000 in
theorem place_any (x : Act) (hx : x.OK) (w : World) : Calls Tryd.prog 21 #[actV x] w fun e w' => e = .returned (plcV x.plc) ∧ Below w.heap.size w w' := by
  obtain ⟨f, a, b⟩ := x
  obtain ⟨_, ha, _⟩ := hx
  have M2 := Lib.hid (fun W => mod_any a 2 ha (by omega) (by omega) W)
  have M3 := Lib.hid (fun W => mod_any a 3 ha (by omega) (by omega) W)
  have E := Lib.hid (show plcV (a % 2, a % 3) = plcV (⟨f, a, b⟩ : Act).plc from rfl)
  generalize a % 2 = r at *
  generalize a % 3 = s at *
  obtain ⟨v2, hv2⟩ : ∃ v, w.alloc (.cells #[.int .i64 f, .int .i64 a, .int .i64 b] 32) = v := ⟨_, rfl⟩
  have BA := Lib.hid (show Below w.heap.size w v2 by rw [← hv2]; exact (Below.refl _ w).alloc (Nat.le_refl _) _)
  have XA := Lib.hid (show Bk v2 w.heap.size #[.int .i64 f, .int .i64 a, .int .i64 b] 32 by rw [← hv2]; exact Bk.new w _ _)
  have XB := Lib.hid (XA.out.alloc (.cells #[.int .i64 0, .int .i64 0] 43))
  have c1 := XB.out.cell 1 (.int .i64 a) rfl
  have XC := Lib.hid (Bk.new v2 #[.int .i64 0, .int .i64 0] 43)
  have d0 := XC.out.cell 0 (.int .i64 0) rfl
  have d1 := XC.out.cell 1 (.int .i64 0) rfl
  rw [show actV ⟨f, a, b⟩ = .agg #[.int .i64 f, .int .i64 a, .int .i64 b] from rfl]
  go_enter Tryd.func21, Tryd.ntmps21
  go_wp2_with fail
  clear hv2
  have BB := Lib.hid ((BA.out).alloc BA.out.size (.cells #[.int .i64 0, .int .i64 0] 43))
  obtain ⟨b1, hb1⟩ : ∃ b, w.heap.size = b := ⟨_, rfl⟩
  obtain ⟨b2, hb2⟩ : ∃ b, v2.heap.size = b := ⟨_, rfl⟩
  rw [hb1] at XB BB c1
  rw [hb2] at XC d0 d1
  rw [hb1, hb2]
  have hbb := Lib.hid (show b1 ≤ b2 by rw [← hb1, ← hb2]; exact BA.out.size)
  have hbn : b1 ≠ b2 := by rw [← hb1, ← hb2]; have := XA.out.lt; omega
  clear BA XA hb2
  generalize v2.alloc (.cells #[.int .i64 0, .int .i64 0] 43) = v3 at *
  have hf0 := XC.out.frozen 0
  have hf1 := XC.out.frozen 1
  have Z1 := (bkKeep (bkKeep XB.out (far_set v3 b2 0 (.int .i64 r) b1 hbn)) (far_set _ b2 1 (.int .i64 s) b1 hbn)).cell 1 (.int .i64 a) rfl
  have D0 := Lib.hid (show Below w.heap.size w ((v3.setCell ⟨b2, 0, none⟩ (.int .i64 r)).setCell ⟨b2, 1, none⟩ (.int .i64 s)) by rw [hb1]; exact (BB.out.setCell (p := ⟨b2, 0, none⟩) hbb.out _).setCell (p := ⟨b2, 1, none⟩) hbb.out _)
  have Y1 := ((XC.out.set 0 (.int .i64 r)).set 1 (.int .i64 s)).cell 0 (.int .i64 r) rfl
  have Y2 := ((XC.out.set 0 (.int .i64 r)).set 1 (.int .i64 s)).cell 1 (.int .i64 s) rfl
  go_region_held3 (fun w' => w'.cell? ⟨b1, 1, none⟩ = some (.int .i64 a)) (first | exact c1 | exact Z1 | go_keep) ((first
    | (go_at_call 20; (with_reducible refine (M2.out _).mono ?_); rintro e w' ⟨rfl, rfl⟩)
    | (go_at_call 20; (with_reducible refine (M3.out _).mono ?_); rintro e w' ⟨rfl, rfl⟩)))
  all_goals
    clear c1 d0 d1 hf0 hf1 Z1
    go_wp2_with fail
    refine bodyPost_ret (v := .agg #[.int .i64 r, .int .i64 s]) (by simp [results, Tryd.results21, go_sem, Y1, Y2]) rfl ⟨by rw [← E.out]; rfl, D0.out.drew⟩
end Go.Proofs.YtjoffbgfokedlaaDoor.Pf
