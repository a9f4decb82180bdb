/-
  Arrays of two values of the language, given by value: opened and shut.
-/
import Derived.Test.YtibjhcgfjhbgoaaGreatDoorAr
import Derived.Test.YtibjhcgfjhbgoaaGreatDoorVb
import Derived.Deep.Strs
import Derived.Deep.Slices
namespace Go.Proofs.YtibjhcgfjhbgoaaGreatDoor.Va
open Go Go.RowKit Go.ChangeShapes Go.WideShapes Go.ChangeAt Go.Joins Go.Deep

section
variable {H : Type} {enc : TypeId × Value → H} {w : World} {base : Nat} {spare : Nat → Bool} {held : Bool}
theorem array6 {α : Type} {cs : Array α} (h : cs.size = 6) : ∃ c0 c1 c2 c3 c4 c5, cs = #[c0, c1, c2, c3, c4, c5] := by
  obtain ⟨l⟩ := cs
  match l, h with
  | [c0, c1, c2, c3, c4, c5], _ => exact ⟨c0, c1, c2, c3, c4, c5, rfl⟩
def dv (k n : Int) (s : ByteArray) : DataW H := .agg [.lit (.int .i64 k), .lit (.int .i64 n), .lit (.string s.data.toList)]
theorem trod_val {n : Nat} {c0 c1 c2 : Value} {x : DataW H × List MemPlace} (h : DataW.trod enc Tryz.prog w base spare held n 23 [c0, c1, c2] = some x) :
    ∃ k m s, c0 = .int .i64 k ∧ c1 = .int .i64 m ∧ c2 = .string s ∧ x = (dv k m s, []) ∧ (Lit.int .i64 k).wf = true ∧ (Lit.int .i64 m).wf = true ∧ s.size ≤ maxLen := by
  obtain ⟨y0, y1, y2, q, hx, _, h0, h1, h2⟩ := trod_struct3 Tryz.underlying23 h
  have ci : Tryz.prog.cellsOf 3 = 1 := by kernel_rfl
  have cs : Tryz.prog.cellsOf 9 = 1 := by kernel_rfl
  simp [ci, cs] at h0 h1 h2
  obtain ⟨k, e0, rfl, wk⟩ := DataW.trod_int Tryz.underlying3 h0
  obtain ⟨m, e1, rfl, wm⟩ := DataW.trod_int Tryz.underlying3 h1
  obtain ⟨s, e2, rfl, ws⟩ := DataW.trod_string Tryz.underlying9 h2
  simp at e0 e1 e2
  subst e0 e1 e2
  exact ⟨k, m, s, rfl, rfl, rfl, by rw [hx]; rfl, wk, wm, ws⟩
theorem trod_val_mk {k m : Int} {s : ByteArray} (wk : (Lit.int .i64 k).wf = true) (wm : (Lit.int .i64 m).wf = true) (ws : s.size ≤ maxLen) :
    DataW.trod enc Tryz.prog w base spare held 2 23 [.int .i64 k, .int .i64 m, .string s] = some (dv k m s, []) := by
  have ci : Tryz.prog.cellsOf 3 = 1 := by kernel_rfl
  have cs : Tryz.prog.cellsOf 9 = 1 := by kernel_rfl
  have cv : Tryz.prog.cellsOf 23 = 3 := by kernel_rfl
  have := trod_struct3_mk (enc := enc) (w := w) (base := base) (spare := spare) (held := held) (n := 1) (cs := [.int .i64 k, .int .i64 m, .string s]) (y0 := (.lit (.int .i64 k), [])) (y1 := (.lit (.int .i64 m), [])) (y2 := (.lit (.string s.data.toList), [])) Tryz.underlying23 (by rw [cv]; rfl)
    (by simpa [ci] using trod_int_mk 0 Tryz.underlying3 wk) (by simpa [ci] using trod_int_mk 0 Tryz.underlying3 wm) (by simp [cs, DataW.trod, Tryz.underlying9, ws])
  simpa [dv] using this
theorem cellsV2 : Tryz.prog.cellsOf 37 = 6 := by kernel_rfl
set_option maxRecDepth 10000 in
theorem open_vals2 {r : Reach} {b0 : Nat} {v : Value} {d : DataW H} {ps : List MemPlace}
    (hv : Value.okWide Tryz.prog w r b0 37 v) (hd : DataW.Trod enc Tryz.prog w base spare held 37 v d ps) :
    ∃ a b s c e u, v = .agg #[.int .i64 a, .int .i64 b, .string s, .int .i64 c, .int .i64 e, .string u] ∧ d = .agg [dv a b s, dv c e u] ∧ ps = [] ∧
      ((Lit.int .i64 a).wf = true ∧ (Lit.int .i64 b).wf = true ∧ s.size ≤ maxLen) ∧ ((Lit.int .i64 c).wf = true ∧ (Lit.int .i64 e).wf = true ∧ u.size ≤ maxLen) := by
  have cv : Tryz.prog.cellsOf 23 = 3 := by kernel_rfl
  obtain ⟨cs, rfl, hsz⟩ := okWide_arr Tryz.underlying37 hv
  obtain ⟨c0, c1, c2, c3, c4, c5, rfl⟩ := array6 (hsz.trans cellsV2)
  obtain ⟨fuel, hf⟩ := hd
  obtain ⟨xs, m, _, hx, _, hn, hel⟩ := DataW.trod_array Tryz.underlying37 hf
  obtain ⟨y0, y1, rfl⟩ : ∃ y0 y1, xs = [y0, y1] := by
    match xs, hn with
    | [y0, y1], _ => exact ⟨y0, y1, rfl⟩
  have h0 := hel 0 (by decide)
  have h1 := hel 1 (by decide)
  simp [Value.cells, cv] at h0 h1
  obtain ⟨a, b, s, rfl, rfl, rfl, rfl, w0⟩ := trod_val h0
  obtain ⟨c, e, u, rfl, rfl, rfl, rfl, w1⟩ := trod_val h1
  simp at hx
  exact ⟨a, b, s, c, e, u, rfl, hx.1, hx.2, w0, w1⟩
theorem shut_vals2 {a b c e : Int} {s u : ByteArray} (w0 : (Lit.int .i64 a).wf = true ∧ (Lit.int .i64 b).wf = true ∧ s.size ≤ maxLen) (w1 : (Lit.int .i64 c).wf = true ∧ (Lit.int .i64 e).wf = true ∧ u.size ≤ maxLen) :
    DataW.Trod enc Tryz.prog w base spare held 37 (.agg #[.int .i64 a, .int .i64 b, .string s, .int .i64 c, .int .i64 e, .string u]) (.agg [dv a b s, dv c e u]) [] := by
  have cv : Tryz.prog.cellsOf 23 = 3 := by kernel_rfl
  refine ⟨3, ?_⟩
  unfold DataW.trod
  rw [Tryz.underlying37]
  simp [Value.cells, cellsV2, cv, List.range, List.range.loop, trod_val_mk w0.1 w0.2.1 w0.2.2, trod_val_mk w1.1 w1.2.1 w1.2.2]
end
end Go.Proofs.YtibjhcgfjhbgoaaGreatDoor.Va
