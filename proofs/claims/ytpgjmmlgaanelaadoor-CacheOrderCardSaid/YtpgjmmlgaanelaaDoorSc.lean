/-
  The landed site: Find.
-/
import Derived.Test.YtpgjmmlgaanelaaDoorSb
namespace Go.Proofs.YtpgjmmlgaanelaaDoor.Ch
open Go Go.RowKit

section
variable {w w1 : World} {p : Nat} {t : Ste} {F : Nat → Prop}
/-- Behind calls that only made memory, the site's own block turned. -/
theorem SiteAt.toB (h : SiteAt w p t F) (hb : Below w.heap.size w w1) {t' : Ste} {w' : World} (hc : Bk w' p (rowS t') 57) (c : Chg (fun b => b = p) w1 w') (u : Value) : To SiteAt w p F t' u (.returned u) w' :=
  ⟨F, rfl, ⟨hc, h.f⟩, Chg.trans (Chg.of_below hb) ⟨c.os, c.tape, c.output, c.size, fun k hk hF => c.block k hk fun e => hF ((h.f k).2 e)⟩ (fun _ hx => .inl hx), Sub.refl _ _⟩
theorem SiteAt.below (h : SiteAt w p t F) (hb : Below w.heap.size w w1) : SiteAt w1 p t F := h.keep fun b hF => hb.block b (h.lt b hF)
theorem SiteAt.hit (h : SiteAt w p t F) (h4 : t.l.length ≤ 4) (hb : Below w.heap.size w w1) (n : Nat) (x : Int) (u : Value) :
    To SiteAt w p F { t with hits := x } u (.returned u) ((w1.drewN n).setCell ⟨p, 10, none⟩ (.int .i64 x)) := by
  have h1 : Bk (w1.drewN n) p (rowS t) 57 := (h.below hb).c
  refine h.toB hb (by rw [← set10 h4]; exact h1.set 10 _) (Chg.trans (Chg.drawn n) (Chg.set _ _ _ rfl) fun _ hx => .inl hx.symm) u
theorem SiteAt.fail (h : SiteAt w p t F) (h4 : t.l.length ≤ 4) (hb : Below w.heap.size w w1) (n : Nat) (x : Int) (u : Value) :
    To SiteAt w p F { t with miss := x } u (.returned u) ((w1.drewN n).setCell ⟨p, 11, none⟩ (.int .i64 x)) := by
  have h1 : Bk (w1.drewN n) p (rowS t) 57 := (h.below hb).c
  refine h.toB hb (by rw [← set11 h4]; exact h1.set 11 _) (Chg.trans (Chg.drawn n) (Chg.set _ _ _ rfl) fun _ hx => .inl hx.symm) u
end
set_option maxRecDepth 100000 in
set_option maxHeartbeats 2000000 in
theorem code_find (w : World) (p : Nat) (t : Ste) (F : Nat → Prop) (n : Nat) (s : Int) (h : SiteAt w p t F) (hk : t.Ok n) (hn : n ≤ 4611686018427387904) :
    Calls Tryd.prog 18 #[.pointer (some ⟨p, 0, none⟩), .int .i64 s] w (To SiteAt w p F (t.find s).2 (.tuple #[.int .i64 (t.find s).1.1, .bool (t.find s).1.2])) := by
  have IX := Lib.hid (code_index w h hk.len s)
  have H := Lib.hid h
  have l4 := hk.len
  have h0 := hk.h0
  have m0 := hk.m0
  have sm := hk.sum
  have pl := h.c.lt
  clear h hk
  go_enter Tryd.func18, Tryd.ntmps18
  go_wp2_with fail
  refine IX.out.mono ?_
  rintro e w1 ⟨hb, hx⟩
  have HB := Lib.hid hb
  have H1 := (H.out.below hb).c
  have c10 := H1.cell 10 _ (row10 l4)
  have c11 := H1.cell 11 _ (row11 l4)
  have f10 := H1.frozen 10
  have f11 := H1.frozen 11
  rcases hx with ⟨k, ⟨x, y⟩, rfl, hk, he, hf⟩ | ⟨rfl, hl⟩
  · have kl := (List.getElem?_eq_some_iff.1 hk).1
    have LK := Lib.hid (find_some (lk_first hk he hf))
    have r1 := H1.cell (k * 2 + 1) _ (row_at hk).2
    have k4 : (k : Int) < 4 := by omega
    have kn : ((k : Int) == -1) = false := by simp
    have hne : ¬ k * 2 + 1 = 10 := by omega
    clear hk he hf hb H1 IX
    simp only at r1
    go_wp2_with fail
    go_ret2
    rw [LK.out]; exact H.out.hit l4 HB.out 0 _ _
  · have LK := Lib.hid (find_none hl)
    clear hl hb H1 IX
    go_wp2_with fail
    go_ret2
    rw [LK.out]; exact H.out.fail l4 HB.out 0 _ _
end Go.Proofs.YtpgjmmlgaanelaaDoor.Ch
