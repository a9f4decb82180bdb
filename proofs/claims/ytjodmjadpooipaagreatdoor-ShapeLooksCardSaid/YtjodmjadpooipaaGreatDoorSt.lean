/-
  The examples of the chapter, and the laws' sanity.
-/
import Derived.Test.YtjodmjadpooipaaGreatDoorSr
namespace Go.Proofs.YtjodmjadpooipaaGreatDoor.Sh
open Go Go.RowKit

def bX : ByteArray := ⟨#[120]⟩
def bY : ByteArray := ⟨#[121]⟩
def bQ : ByteArray := ⟨#[113]⟩
def s0 : Tre := newT (clsOf 0)
def s1 : Tre := (s0.add 0 bY).2
def s4 : Tre := (s1.split 1).2
def s5 : Tre := (s4.merge 2 1).2
def s6 : Tre := (s5.split 0).2
def s7 : Tre := (s6.make 0 [bQ]).2
theorem q0 : s0.rootI 0 = 0 := by kernel_rfl
theorem q1 : s0.add 0 bY = ((1, 0), s1) := by kernel_rfl
theorem q2 : s1.add 0 bY = ((1, 0), s1) := by kernel_rfl
theorem q3 : s1.add 0 bX = ((0, 13), s1) := by kernel_rfl
theorem q4 : s1.split 1 = ((2, 0), s4) := by kernel_rfl
theorem q5 : s4.add 0 bY = ((2, 0), s4) := by kernel_rfl
theorem q6 : s4.canonI 1 = 1 := by kernel_rfl
theorem q7 : s4.merge 2 1 = (0, s5) := by kernel_rfl
theorem q8 : s5.canonI 1 = 2 := by kernel_rfl
theorem q9 : s5.findI 0 [bX, bY] = (2, true) := by kernel_rfl
theorem q10 : s5.split 0 = ((3, 0), s6) := by kernel_rfl
theorem q11 : s6.add 0 bY = ((2, 0), s6) := by kernel_rfl
theorem q12 : s6.make 0 [bX] = ((3, 0), s6) := by kernel_rfl
theorem q13 : s6.make 0 [bQ] = ((4, 0), s7) := by kernel_rfl
theorem q14 : s7.rootI 0 = 3 := by kernel_rfl
def txt : ByteArray := ⟨#[114, 111, 111, 116, 115, 32, 51, 10, 48, 32, 48, 32, 120, 32, 62, 32, 121, 58, 50, 10, 49, 32, 48, 32, 120, 32, 121, 32, 61, 32, 50, 10, 50, 32, 48, 32, 120, 32, 121, 32, 62, 10, 51, 32, 48, 32, 120, 32, 62, 10]⟩
theorem q15 : s6.text = txt.data.toList := by kernel_rfl
theorem nq6 : ∀ s, ∀ x ∈ (s6.sh s).names, x.size ≤ 1 := by
  have h : ∀ y ∈ s6.L, ∀ x ∈ y.names, x.size ≤ 1 := by
    have : (s6.L.all fun y => y.names.all fun x => decide (x.size ≤ 1)) = true := by kernel_rfl
    intro y hy x hx
    exact of_decide_eq_true (List.all_eq_true.1 (List.all_eq_true.1 this y hy) x hx)
  intro s x hx
  by_cases hs : s < s6.L.length
  · rw [sh_lt hs] at hx; exact h _ (List.getElem_mem hs) x hx
  · rw [sh_ge (by omega)] at hx; cases hx
theorem n6 : s6.L ≠ [] := by
  have : s6.L.length = 4 := by kernel_rfl
  intro e; rw [e] at this; cases this
section
variable {t t' : Tre} {m : Nat}
theorem wf_add (h : t.WF m) {s : Int} {nm : ByteArray} {x : Int × Int} (r : t.add s nm = (x, t')) : t'.WF m := by
  have := (add_ok (Q := fun _ => True) ⟨h, fun _ _ _ => trivial⟩ s nm fun _ => trivial).wf
  rw [r] at this; exact this
theorem wf_merge (h : t.WF m) {a b : Int} {x : Int} (r : t.merge a b = (x, t')) : t'.WF m := by
  have := (merge_ok (Q := fun _ => True) ⟨h, fun _ _ _ => trivial⟩ a b).wf
  rw [r] at this; exact this
theorem wf_split (h : t.WF m) {a : Int} {x : Int × Int} (r : t.split a = (x, t')) : t'.WF m := by
  have := (split_ok (Q := fun _ => True) ⟨h, fun _ _ _ => trivial⟩ a).wf
  rw [r] at this; exact this
theorem wf_make (h : t.WF m) {k : Int} {ns : List ByteArray} {x : Int × Int} (r : t.make k ns = (x, t')) : t'.WF m := by
  have := (make_ok (Q := fun _ => True) ⟨h, fun _ _ _ => trivial⟩ k ns fun _ _ => trivial).wf
  rw [r] at this; exact this
end
theorem W0 : s0.WF (clsOf 0).length := (cls_inv 0).ok.wf
theorem W1 : s1.WF (clsOf 0).length := wf_add W0 q1
theorem W4 : s4.WF (clsOf 0).length := wf_split W1 q4
theorem W5 : s5.WF (clsOf 0).length := wf_merge W4 q7
theorem W6 : s6.WF (clsOf 0).length := wf_split W5 q10
theorem W7 : s7.WF (clsOf 0).length := wf_make W6 q13
theorem short {x : ByteArray} (h : x.size ≤ 3) : x.size ≤ maxLen := by unfold maxLen; omega
theorem i64 (n : Int) (h : -9223372036854775808 ≤ n) (h' : n ≤ 9223372036854775807) : I64 n := ⟨h, h'⟩
theorem i0 : I64 0 := ⟨by omega, by omega⟩
theorem i1 : I64 1 := ⟨by omega, by omega⟩
theorem i2 : I64 2 := ⟨by omega, by omega⟩
theorem SlS.imp {w : World} {P Q : Nat → Prop} {A : Option Addr} {ns : List ByteArray} (h : SlS w P A ns) (hk : ∀ b, P b → Q b) : SlS w Q A ns := h.keep fun b hb => ⟨hk b hb, rfl⟩
theorem SlS.blk {w : World} {b : Nat} {ns : List ByteArray} {P : Nat → Prop} (h : Bk w b (ns.map Value.string).toArray 9) (hb : P b) : SlS w P (some ⟨b, 0, none⟩) ns := by
  intro j x hx
  refine ⟨_, rfl, hb, ?_⟩
  rw [show ((⟨b, 0, none⟩ : Addr).add j) = ⟨b, j, none⟩ from by unfold Addr.add; simp; exact fun e => e.symm]
  exact h.cell j _ (by rw [List.getElem?_toArray, List.getElem?_map, hx]; rfl)
theorem free_new {K : Kit} {w0 w : World} {p : Nat} {t : Tre} {F : Nat → Prop} (h : Tr K w0 w p t F) : ¬ F w.heap.size := fun e => Nat.lt_irrefl _ (K.lt h.h _ e)
set_option maxRecDepth 100000 in
set_option maxHeartbeats 4000000 in
theorem sanity_any (K : Kit) (w : World) (hv : K.V w) : Calls Tryz.prog 4 #[] w fun e w' => e = .returned (.bool true) ∧ Below w.heap.size w w' := by
  have HV := Lib.hid hv
  clear hv
  go_enter Tryz.func4, Tryz.ntmps4
  go_wp2_with fail
  refine (classes_any 0 i0 _).mono ?_
  rintro e w1 ⟨g, rfl, hg, hc, hb⟩
  go_wp2_with fail
  refine (new_at (K := K) (w0 := w) HV.out hb hc (by decide) ?_).mono ?_
  · intro ns h; rcases clsOf_mem 0 ns h with rfl | rfl <;> decide
  rintro e w2 ⟨p, F, rfl, hs⟩
  have hs := Lib.hid hs
  clear hb hc hg
  go_wp2_with fail
  refine (root_at hs.out W0 i0 q0).mono ?_
  rintro e w3 ⟨rfl, h, _⟩
  replace hs := Lib.hid h
  clear h
  go_wp2_with fail
  refine (add_at (nm := bY) hs.out W0 i0 (short (by decide)) q1).mono ?_
  rintro e w4 ⟨F1, rfl, h, _, _⟩
  replace hs := Lib.hid h
  clear h
  go_wp2_with fail
  refine (add_at (nm := bY) hs.out W1 i0 (short (by decide)) q2).mono ?_
  rintro e w5 ⟨F2, rfl, h, _, _⟩
  replace hs := Lib.hid h
  clear h
  go_wp2_with fail
  refine (add_at (nm := bX) hs.out W1 i0 (short (by decide)) q3).mono ?_
  rintro e w6 ⟨F3, rfl, h, _, _⟩
  replace hs := Lib.hid h
  clear h
  go_wp2_with fail
  refine (split_at hs.out W1 i1 q4).mono ?_
  rintro e w7 ⟨F4, rfl, h, _, _⟩
  replace hs := Lib.hid h
  clear h
  go_wp2_with fail
  refine (add_at (nm := bY) hs.out W4 i0 (short (by decide)) q5).mono ?_
  rintro e w8 ⟨F5, rfl, h, _, _⟩
  replace hs := Lib.hid h
  clear h
  go_wp2_with fail
  refine (canon_at hs.out W4 i1 q6).mono ?_
  rintro e w9 ⟨rfl, h, _⟩
  replace hs := Lib.hid h
  clear h
  go_wp2_with fail
  refine (merge_at hs.out W4 i2 i1 q7).mono ?_
  rintro e w10 ⟨F6, rfl, h, _, _⟩
  replace hs := Lib.hid h
  clear h
  go_wp2_with fail
  refine (canon_at hs.out W5 i1 q8).mono ?_
  rintro e w11 ⟨rfl, h, _⟩
  replace hs := Lib.hid h
  clear h
  go_wp2_with fail
  refine (find_at (ns := [bX, bY]) (hs.out.alloc _) W5 i0 (SlS.blk (Bk.new _ _ _) (by simp)) (by decide) (fun x hx => short ?_) q9).mono ?_
  · simp only [List.mem_cons, List.not_mem_nil, or_false] at hx
    rcases hx with rfl | rfl <;> decide
  rintro e w12 ⟨rfl, h, _⟩
  replace hs := Lib.hid h
  clear h
  go_wp2_with fail
  refine (split_at hs.out W5 i0 q10).mono ?_
  rintro e w13 ⟨F7, rfl, h, _, _⟩
  replace hs := Lib.hid h
  clear h
  go_wp2_with fail
  refine (add_at (nm := bY) hs.out W6 i0 (short (by decide)) q11).mono ?_
  rintro e w14 ⟨F8, rfl, h, _, _⟩
  replace hs := Lib.hid h
  clear h
  go_wp2_with fail
  refine (text_at hs.out W6 n6 nq6 q15).mono ?_
  rintro e w15 ⟨rfl, h, _⟩
  replace hs := Lib.hid h
  clear h
  go_wp2_with fail
  refine (make_at (ns := [bX]) (hs.out.alloc _) W6 i0 (SlS.blk (Bk.new _ _ _) ⟨by simp, free_new hs.out⟩) (by decide) (fun x hx => short ?_) (by decide) (fun e => by cases e) q12).mono ?_
  · simp only [List.mem_cons, List.not_mem_nil, or_false] at hx
    rcases hx with rfl; decide
  rintro e w16 ⟨F9, rfl, h, _, _⟩
  replace hs := Lib.hid h
  clear h
  go_wp2_with fail
  refine (make_at (ns := [bQ]) (hs.out.alloc _) W6 i0 (SlS.blk (Bk.new _ _ _) ⟨by simp, free_new hs.out⟩) (by decide) (fun x hx => short ?_) (by decide) (fun e => by cases e) q13).mono ?_
  · simp only [List.mem_cons, List.not_mem_nil, or_false] at hx
    rcases hx with rfl; decide
  rintro e w17 ⟨F10, rfl, h, _, _⟩
  replace hs := Lib.hid h
  clear h
  go_wp2_with fail
  refine (root_at hs.out W7 i0 q14).mono ?_
  rintro e w18 ⟨rfl, h, _⟩
  replace hs := Lib.hid h
  clear h
  have HT : txt = ⟨#[114, 111, 111, 116, 115, 32, 51, 10, 48, 32, 48, 32, 120, 32, 62, 32, 121, 58, 50, 10, 49, 32, 48, 32, 120, 32, 121, 32, 61, 32, 50, 10, 50, 32, 48, 32, 120, 32, 121, 32, 62, 10, 51, 32, 48, 32, 120, 32, 62, 10]⟩ := rfl
  go_wp2_with fail
  go_ret
  exact ⟨rfl, hs.out.b⟩
end Go.Proofs.YtjodmjadpooipaaGreatDoor.Sh
