/-
  The reference's World: what its loops carry.
-/
import Derived.Test.YtbpehdpcnnaidaaDoorWg
namespace Go.Proofs.YtbpehdpcnnaidaaDoor.Ac
open Go Go.RowKit Va

def constsOk : Bool := (List.range 200).all fun n => valB (const3 n) && decide ((const3 n).2.2.size ≤ 1000)
theorem constsOk_true : constsOk = true := by kernel_rfl
theorem const3_ok (n : Int) (h0 : 0 ≤ n) (h1 : n < 200) : valB (const3 n) = true ∧ (const3 n).2.2.size ≤ 1000 := by
  obtain ⟨k, rfl⟩ := Int.eq_ofNat_of_zero_le h0
  have h := constsOk_true
  unfold constsOk at h
  rw [List.all_eq_true] at h
  have := h k (List.mem_range.2 (by omega))
  simpa using this
/-- What a walk over World carries: the numbers, the struct C, its rows. -/
structure Wst (W : World) (b C : Nat) (A : Option Addr) (n c : Nat) (d : Wd) (w : World) : Prop where
  st : Sn W b A n c [(C, #[.slice d.iA d.vs.length d.ic, .slice d.cA d.cs.length d.cc, .slice d.hA d.hs.length d.hc, .slice d.fA d.fs.length d.fc, .slice d.lA d.ls.length d.lc, .int .i64 d.ep], 28)] w
  rows : Rows5 (rowsOf d) w W.heap.size
theorem Wst.drew {W w : World} {b C n c : Nat} {A : Option Addr} {d : Wd} (h : Wst W b C A n c d w) : Wst W b C A n c d w.drew := ⟨h.st.drew, h.rows.drew⟩
theorem Wst.next {W w w' : World} {b C n c : Nat} {A : Option Addr} {d : Wd} (h : Wst W b C A n c d w) (hn : Nm w' b A n c ∧ w.grownBy w' (some b)) : Wst W b C A n c d w' := by
  obtain ⟨K, _, hb⟩ := h.st.nm
  exact ⟨h.st.next hn, h.rows.bk hb (fun k _ => rowsOf_T d 49 (by decide) (by decide) k) hn.2⟩
theorem Wst.below {W w w' : World} {b C n c : Nat} {A : Option Addr} {d : Wd} (h : Wst W b C A n c d w) (hb : Below w.heap.size w w') : Wst W b C A n c d w' := by
  obtain ⟨K, hK, hn⟩ := h.st.nm
  exact ⟨h.st.next ⟨⟨K, hK, hn.below hb hn.lt⟩, ⟨hb.os, hb.tape, hb.output, hb.size, fun i hi _ => hb.block i hi⟩⟩, h.rows.below hb⟩
theorem Wst.alloc {W w : World} {b C n c : Nat} {A : Option Addr} {d : Wd} (h : Wst W b C A n c d w) (o : Obj) : Wst W b C A n c d (w.alloc o) := h.below ((Below.refl _ _).alloc (Nat.le_refl _) _)
theorem Wst.cell {W w : World} {b C n c : Nat} {A : Option Addr} {d : Wd} (h : Wst W b C A n c d w) (i : Nat) (v : Value) (hv : (#[.slice d.iA d.vs.length d.ic, .slice d.cA d.cs.length d.cc, .slice d.hA d.hs.length d.hc, .slice d.fA d.fs.length d.fc, .slice d.lA d.ls.length d.lc, .int .i64 d.ep] : Array Value)[i]? = some v) : w.cell? ⟨C, i, none⟩ = some v := h.st.cell C _ 28 (.head _) i v hv
theorem Wst.frozen {W w : World} {b C n c : Nat} {A : Option Addr} {d : Wd} (h : Wst W b C A n c d w) (i : Nat) : w.frozen? ⟨C, i, none⟩ = false := h.st.frozen C _ 28 (.head _) i
/-- Behind an append onto a field's row, and the store into C. -/
theorem Wst.app {W w w' : World} {b C n c : Nat} {A : Option Addr} {d d' : Wd} (h : Wst W b C A n c d w) (k : Nat) (hk : k < 5) (x : Row) (hg : w.grownBy w' (rowsOf d k).v.ownBlock) (ho : x.ok w' W.heap.size) (hx : x.v.ownBlock = (rowsOf d k).v.ownBlock ∨ x.v.ownBlock = some w.heap.size)
    (hr : ∀ j, j < 5 → upd (rowsOf d) k x j = rowsOf d' j) (hc : (#[.slice d.iA d.vs.length d.ic, .slice d.cA d.cs.length d.cc, .slice d.hA d.hs.length d.hc, .slice d.fA d.fs.length d.fc, .slice d.lA d.ls.length d.lc, .int .i64 d.ep] : Array Value).setIfInBounds k x.v = #[.slice d'.iA d'.vs.length d'.ic, .slice d'.cA d'.cs.length d'.cc, .slice d'.hA d'.hs.length d'.hc, .slice d'.fA d'.fs.length d'.fc, .slice d'.lA d'.ls.length d'.lc, .int .i64 d'.ep]) : Wst W b C A n c d' (w'.setCell ⟨C, k, none⟩ x.v) ∧ w'.cell? ⟨C, k, none⟩ = (#[.slice d.iA d.vs.length d.ic, .slice d.cA d.cs.length d.cc, .slice d.hA d.hs.length d.hc, .slice d.fA d.fs.length d.fc, .slice d.lA d.ls.length d.lc, .int .i64 d.ep] : Array Value)[k]? ∧ w'.frozen? ⟨C, k, none⟩ = false := by
  obtain ⟨K, hK, hn⟩ := h.st.nm
  obtain ⟨c1, c2, c3⟩ := h.st.own _ (.head _)
  have ho0 := h.rows.own k hk
  have hne := own_ne ho0 hn (rowsOf_T d 49 (by decide) (by decide) k)
  have hne2 := own_ne ho0 c1 (rowsOf_T d 28 (by decide) (by decide) k)
  have c1' := c1.kept hg hne2
  have st' : Sn W b A n c [(C, #[.slice d.iA d.vs.length d.ic, .slice d.cA d.cs.length d.cc, .slice d.hA d.hs.length d.hc, .slice d.fA d.fs.length d.fc, .slice d.lA d.ls.length d.lc, .int .i64 d.ep], 28)] w' := by
    refine ⟨⟨K, hK, hn.kept hg hne⟩, ⟨hg.os.trans h.st.gr.os, hg.tape.trans h.st.gr.tape, hg.output.trans h.st.gr.output, Nat.le_trans h.st.gr.size hg.size, fun i hi hib => ?_⟩, fun p hp => ?_⟩
    · refine (hg.block i (Nat.lt_of_lt_of_le hi h.st.gr.size) (fun e => ?_)).trans (h.st.gr.block i hi hib)
      have := (ho0.lt i e.symm).1
      omega
    · obtain rfl : p = (C, #[.slice d.iA d.vs.length d.ic, .slice d.cA d.cs.length d.cc, .slice d.hA d.hs.length d.hc, .slice d.fA d.fs.length d.fc, .slice d.lA d.ls.length d.lc, .int .i64 d.ep], 28) := by simpa using hp
      exact ⟨c1', c2, c3⟩
  refine ⟨⟨?_, ?_⟩, ?_, c1'.frozen k⟩
  · refine st'.set C _ 28 (.head _) k x.v (fun p hp => .inl ?_)
    rw [hc]; simpa using hp
  · exact ((h.rows.next k hk x hg ho hx).congr hr).bk c1' (fun j _ => rowsOf_T d' 28 (by decide) (by decide) j) (grownBy_set w' C k x.v)
  · rw [cell_of_row w' C k _ 28 (0, 0) c1']
theorem next_w {W w : World} {b c B C : Nat} {A : Option Addr} {zs : List Int} {d : Wd} (st : Wst W b C A zs.length c d w) (hA : Sl W B A zs) (hB : B ≤ b) (hbW : b ≤ W.heap.size) (hz : ∀ z ∈ zs, I64 z) (hl : zs.length ≤ 17592186044404) (m : Int) (hm : 1 ≤ m) (hm' : m ≤ 4611686018427387904) :
    Calls Tryd.prog 15 #[.pointer (some ⟨b, 0, none⟩), .int .i64 m] w fun e w' => ∃ r : Int, e = .returned (.int .i64 r) ∧ Hid (0 ≤ r ∧ r < m) ∧ Hid (Wst W b C A zs.length c d w') ∧ Hid (w.grownBy w' (some b)) := by
  refine (next_any m b A zs c B w (hA.grown st.st.gr hB hbW) hB hz hl st.st.nm hm hm').mono ?_
  rintro e w' ⟨r, rfl, h1, h2⟩
  exact ⟨r, rfl, h1, st.next h2.out, h2.out.2⟩
theorem const_w {W w : World} {b c C : Nat} {A : Option Addr} {zs : List Int} {d : Wd} (st : Wst W b C A zs.length c d w) (r : Int) (h0 : 0 ≤ r) (h1 : r < 200) :
    Calls Tryd.prog 16 #[.int .i64 r] w fun e w' => ∃ (k x : Int) (s : ByteArray), e = .returned (.agg #[.int .i64 k, .int .i64 x, .string s]) ∧ Hid (valB (k, x, s) = true ∧ s.size ≤ 1000) ∧ Hid (Wst W b C A zs.length c d w') ∧ Hid (w.heap.size ≤ w'.heap.size) := by
  refine (const_any r (by omega) (by omega) w).mono ?_
  rintro e w' ⟨rfl, hb⟩
  exact ⟨(const3 r).1, (const3 r).2.1, (const3 r).2.2, rfl, const3_ok r h0 h1, st.below hb, hb.size⟩
end Go.Proofs.YtbpehdpcnnaidaaDoor.Ac
