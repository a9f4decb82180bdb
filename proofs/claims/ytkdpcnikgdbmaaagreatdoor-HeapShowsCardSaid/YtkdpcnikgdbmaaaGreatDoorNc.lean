/-
  The reference's Cell.
-/
import Derived.Test.YtkdpcnikgdbmaaaGreatDoorNv
import Derived.Test.YtkdpcnikgdbmaaaGreatDoorHa
import Derived.Deep.RegionHeld3
import Derived.Deep.AppendLies
import Derived.Deep.RegionLaw
namespace Go.Proofs.YtkdpcnikgdbmaaaGreatDoor.Ac
open Go Go.RowKit

/-- The cells of m values that numbers determine. -/
def VOk (M : Int) (xs : List Value) (m : Nat) : Prop := ∃ vs : List Hp.Val, vs.length = m ∧ xs = Hp.flatV vs ∧ ∀ v, v ∈ vs → Gv (Lo M) v.k v.n v.s
theorem VOk.nil (M : Int) : VOk M [] 0 := ⟨[], rfl, rfl, fun _ h => by cases h⟩
theorem VOk.add {M : Int} {xs : List Value} {m : Nat} (h : VOk M xs m) (k x : Int) (s : ByteArray) (hk : Gv (Lo M) k x s) : VOk M (xs ++ [.int .i64 k, .int .i64 x, .string s]) (m + 1) := by
  obtain ⟨vs, h1, rfl, h3⟩ := h
  refine ⟨vs ++ [⟨k, x, s⟩], by simp [h1], by simp [Hp.flatV], fun v hv => ?_⟩
  rcases List.mem_append.1 hv with hv | hv
  · exact h3 v hv
  · obtain rfl : v = ⟨k, x, s⟩ := by simpa using hv
    exact hk
theorem flat_at (vs : List Hp.Val) (j : Nat) (v : Hp.Val) (h : vs[j]? = some v) : (Hp.flatV vs)[3 * j]? = some (.int .i64 v.k) ∧ (Hp.flatV vs)[3 * j + 1]? = some (.int .i64 v.n) ∧ (Hp.flatV vs)[3 * j + 2]? = some (.string v.s) := by
  induction vs generalizing j with
  | nil => simp at h
  | cons a l ih =>
    rcases j with _ | j
    · obtain rfl : a = v := by simpa using h
      exact ⟨rfl, rfl, rfl⟩
    · have := ih j (by simpa using h)
      simpa [Hp.flatV, Nat.mul_add, Nat.add_assoc] using this
theorem VOk.at_ {M : Int} {xs : List Value} {m : Nat} (h : VOk M xs m) (j : Nat) (hj : j < m) : ∃ (k x : Int) (s : ByteArray), xs[3 * j]? = some (.int .i64 k) ∧ xs[3 * j + 1]? = some (.int .i64 x) ∧ xs[3 * j + 2]? = some (.string s) ∧ Gv (Lo M) k x s := by
  obtain ⟨vs, h1, rfl, h3⟩ := h
  have e := List.getElem?_eq_getElem (l := vs) (i := j) (by omega)
  obtain ⟨a, b, c⟩ := flat_at vs j _ e
  exact ⟨_, _, _, a, b, c, h3 _ (List.getElem_mem _)⟩
def xyn : List ByteArray := [⟨#[120]⟩, ⟨#[121]⟩, ⟨#[110, 101, 120, 116]⟩]
/-- The cells that numbers determine. -/
def Mk (R : Nat → Int → Prop) (c : Hp.Cel) : Prop :=
  (0 ≤ c.ten ∧ c.ten < 2) ∧ c.items.length ≤ 3 ∧ (∀ t v, c.items[t]? = some v → Gv (R t) v.k v.n v.s) ∧
  ((c.kind = 1 ∧ (0 ≤ c.cls ∧ c.cls < 3) ∧ c.fn = 0 ∧ c.names = xyn.take c.items.length) ∨ (c.kind = 2 ∧ c.cls = 0 ∧ c.fn = 0 ∧ c.names = []) ∨
   (c.kind = 3 ∧ c.cls = 0 ∧ (0 ≤ c.fn ∧ c.fn < 3) ∧ c.names = []) ∨ (c.kind = 4 ∧ c.cls = 0 ∧ c.fn = 0 ∧ c.names = [] ∧ ∃ v, c.items = [v] ∧ (v.k = 1 ∨ v.k = 5)))
/-- Six values that read as such a cell, its rows a call's own. -/
def CellOf (R : Nat → Int → Prop) (w : World) (base : Nat) (kd cl fn tn : Int) (nA : Option Addr) (nn nc : Nat) (iA : Option Addr) (m ic : Nat) : Prop :=
  ∃ (ns : List ByteArray) (vs : List Hp.Val), ns.length = nn ∧ vs.length = m ∧ Mk R ⟨kd, cl, fn, tn, ns, vs⟩ ∧
    w.ownsRow base 9 1 (.slice nA nn nc) nn (ns.map Value.string) ∧ w.ownsRow base 64 3 (.slice iA m ic) m (Hp.flatV vs)
theorem all_at {M : Int} {vs : List Hp.Val} (h : ∀ v, v ∈ vs → Gv (Lo M) v.k v.n v.s) : ∀ (t : Nat) (v : Hp.Val), vs[t]? = some v → Gv (Lo M) v.k v.n v.s := fun _ _ hv => h _ (List.mem_of_getElem? hv)
theorem of_obj {M : Int} {w : World} {base : Nat} {cl tn : Int} {nA : Option Addr} {nc : Nat} {iA : Option Addr} {m ic : Nat} {xs : List Value} (hv : VOk M xs m) (ho : w.ownsRow base 64 3 (.slice iA m ic) m xs)
    (hn : w.ownsRow base 9 1 (.slice nA m nc) m ((xyn.take m).map Value.string)) (hm : m ≤ 3) (hc : 0 ≤ cl ∧ cl < 3) (ht : 0 ≤ tn ∧ tn < 2) : CellOf (fun _ => Lo M) w base 1 cl 0 tn nA m nc iA m ic := by
  obtain ⟨vs, h1, rfl, h3⟩ := hv
  exact ⟨xyn.take m, vs, by simp [xyn]; omega, h1, ⟨ht, by rw [← h1] at hm; exact hm, all_at h3, .inl ⟨rfl, hc, rfl, by simp [h1]⟩⟩, hn, ho⟩
theorem of_arr {M : Int} {w : World} {base : Nat} {tn : Int} {iA : Option Addr} {m ic : Nat} {xs : List Value} (hv : VOk M xs m) (ho : w.ownsRow base 64 3 (.slice iA m ic) m xs)
    (hm : m ≤ 3) (ht : 0 ≤ tn ∧ tn < 2) : CellOf (fun _ => Lo M) w base 2 0 0 tn none 0 0 iA m ic := by
  obtain ⟨vs, h1, rfl, h3⟩ := hv
  exact ⟨[], vs, rfl, h1, ⟨ht, by rw [← h1] at hm; exact hm, all_at h3, .inr (.inl ⟨rfl, rfl, rfl, rfl⟩)⟩, World.ownsRow_nil _ _ _ _, ho⟩
theorem of_clo {M : Int} {w : World} {base : Nat} {fn tn : Int} {iA : Option Addr} {m ic : Nat} {xs : List Value} (hv : VOk M xs m) (ho : w.ownsRow base 64 3 (.slice iA m ic) m xs)
    (hm : m ≤ 3) (hf : 0 ≤ fn ∧ fn < 3) (ht : 0 ≤ tn ∧ tn < 2) : CellOf (fun _ => Lo M) w base 3 0 fn tn none 0 0 iA m ic := by
  obtain ⟨vs, h1, rfl, h3⟩ := hv
  exact ⟨[], vs, rfl, h1, ⟨ht, by rw [← h1] at hm; exact hm, all_at h3, .inr (.inr (.inl ⟨rfl, rfl, hf, rfl⟩))⟩, World.ownsRow_nil _ _ _ _, ho⟩
theorem of_weak {M : Int} {w : World} {base : Nat} {tn : Int} {iA : Option Addr} {ic : Nat} {xs : List Value} (hv : VOk M xs 1) (ho : w.ownsRow base 64 3 (.slice iA 1 ic) 1 xs)
    (h5 : xs[0]? = some (.int .i64 5)) (ht : 0 ≤ tn ∧ tn < 2) : CellOf (fun _ => Lo M) w base 4 0 0 tn none 0 0 iA 1 ic := by
  obtain ⟨vs, h1, rfl, h3⟩ := hv
  obtain ⟨v, rfl⟩ := List.length_eq_one_iff.1 h1
  have e := (flat_at [v] 0 v rfl).1
  rw [Nat.mul_zero, h5] at e
  injection e with e
  injection e with _ e
  exact ⟨[], [v], rfl, rfl, ⟨ht, by simp, all_at h3, .inr (.inr (.inr ⟨rfl, rfl, rfl, rfl, v, rfl, .inr e.symm⟩))⟩, World.ownsRow_nil _ _ _ _, ho⟩
theorem of_none {M : Int} {w : World} {base : Nat} {tn : Int} {iA : Option Addr} {ic : Nat} {xs : List Value} (hl : xs.length = 1 * 3)
    (ho : w.ownsRow base 64 3 (.slice iA 1 ic) 1 (((xs.set 0 (.int .i64 1)).set 1 (.int .i64 0)).set 2 (.string ⟨#[]⟩))) (ht : 0 ≤ tn ∧ tn < 2) : CellOf (fun _ => Lo M) w base 4 0 0 tn none 0 0 iA 1 ic := by
  obtain ⟨a, b, c, rfl⟩ : ∃ a b c, xs = [a, b, c] := by
    match xs, hl with
    | [a, b, c], _ => exact ⟨a, b, c, rfl⟩
  refine ⟨[], [⟨1, 0, ⟨#[]⟩⟩], rfl, rfl, ⟨ht, by simp, all_at (M := M) fun v hv => ?_, .inr (.inr (.inr ⟨rfl, rfl, rfl, rfl, _, rfl, .inl rfl⟩))⟩, World.ownsRow_nil _ _ _ _, ho⟩
  obtain rfl : v = ⟨1, 0, ⟨#[]⟩⟩ := by simpa using hv
  exact .inl ⟨rfl, rfl, rfl⟩
theorem infoV : (Tryz.prog.info? 64).map (fun i => (i.zero, i.size, i.bytes)) = some (some (.agg #[.int .i64 0, .int .i64 0, .string ⟨#[]⟩]), 3, 32) := by kernel_rfl
theorem infoS : (Tryz.prog.info? 9).map (fun i => (i.zero, i.size, i.bytes)) = some (some (.string ⟨#[]⟩), 1, 16) := by kernel_rfl
theorem own_ne {w : World} {base : Nat} {e : TypeId} {size n : Nat} {v : Value} {xs : List Value} {g : Nat} {cs : Array Value} {T : TypeId} (h : w.ownsRow base e size v n xs) (hg : Bk w g cs T) (hne : e ≠ T) : some g ≠ v.ownBlock := by
  rcases h.2 with ⟨rfl, _⟩ | ⟨g', cap, cur, rfl, _, hh, _⟩
  · simp [Value.ownBlock]
  · intro he
    have : g = g' := by simpa [Value.ownBlock] using he
    subst this
    unfold Bk at hg
    rw [hg] at hh
    injection hh with hh
    injection hh with _ ht
    exact hne ht.symm
theorem Sn.grown {W w w' : World} {b n c : Nat} {A : Option Addr} {L : List (Nat × Array Value × TypeId)} {row : Option Nat} (h : Sn W b A n c L w) (hg : w.grownBy w' row) (hr : ∀ g, row = some g → W.heap.size ≤ g)
    (hne : ∀ p, p ∈ L → some p.1 ≠ row) (hb : some b ≠ row) : Sn W b A n c L w' := by
  obtain ⟨K, hK, hn⟩ := h.nm
  refine ⟨⟨K, hK, ?_⟩, ⟨hg.os.trans h.gr.os, hg.tape.trans h.gr.tape, hg.output.trans h.gr.output, Nat.le_trans h.gr.size hg.size, fun i hi hne' => ?_⟩, fun p hp => ?_⟩
  · unfold Bk at *
    rw [hg.block b (Array.getElem?_eq_some_iff.1 hn).1 hb]; exact hn
  · rw [hg.block i (Nat.lt_of_lt_of_le hi h.gr.size) (by intro e; have := hr i e.symm; omega)]
    exact h.gr.block i hi hne'
  · obtain ⟨h1, h2, h3⟩ := h.own p hp
    refine ⟨?_, h2, h3⟩
    have hlt := h1.lt
    unfold Bk at *
    rw [hg.block p.1 hlt (hne p hp)]; exact h1
theorem Sn.append {W w w' : World} {b n c : Nat} {A : Option Addr} {L : List (Nat × Array Value × TypeId)} {e : TypeId} {size m : Nat} {v : Value} {xs : List Value} (h : Sn W b A n c L w) (ho : w.ownsRow W.heap.size e size v m xs) (hg : w.grownBy w' v.ownBlock)
    (hT : ∀ p, p ∈ L → e ≠ p.2.2) (he : e ≠ 89) : Sn W b A n c L w' := by
  obtain ⟨K, hK, hn⟩ := h.nm
  exact h.grown hg (fun g hg => (ho.lt g hg).1) (fun p hp => own_ne ho (h.own p hp).1 (hT p hp)) (own_ne ho hn he)
/-- Value, where the walk carries its state, and a row of its own. -/
theorem value_st {W w : World} {b c B : Nat} {A : Option Addr} {zs : List Int} {L : List (Nat × Array Value × TypeId)} (st : Sn W b A zs.length c L w) (hA : Sl W B A zs) (hB : B ≤ b) (hbW : b ≤ W.heap.size) (hz : ∀ z ∈ zs, I64 z) (hl : zs.length ≤ 17592186044404) (m : Int) (hm : 1 ≤ m) (hm' : m ≤ 9223372036854775807)
    {base size n : Nat} {e : TypeId} {v : Value} {xs : List Value} (ho : w.ownsRow base e size v n xs) (he : e ≠ 89) :
    Calls Tryz.prog 64 #[.pointer (some ⟨b, 0, none⟩), .int .i64 m] w fun r w' => ∃ (k x : Int) (s : ByteArray), r = .returned (.agg #[.int .i64 k, .int .i64 x, .string s]) ∧ Hid (Gv (Lo m) k x s) ∧ Hid (Sn W b A zs.length c L w') ∧ Hid (w'.ownsRow base e size v n xs) ∧ Hid (w.heap.size ≤ w'.heap.size) := by
  refine (value_any m b A zs c B w (hA.grown st.gr hB hbW) hB hz hl st.nm hm hm').mono ?_
  rintro r w' ⟨k, x, s, rfl, h1, h2⟩
  obtain ⟨K, hK, hn⟩ := st.nm
  exact ⟨k, x, s, rfl, h1, st.next h2.out, ho.kept h2.out.2 (.inr (fun h => own_ne ho hn he h.symm)), h2.out.2.size⟩
/-- Next, where the walk carries its state, and a row of its own. -/
theorem next_keep {W w : World} {b c B : Nat} {A : Option Addr} {zs : List Int} {L : List (Nat × Array Value × TypeId)} (st : Sn W b A zs.length c L w) (hA : Sl W B A zs) (hB : B ≤ b) (hbW : b ≤ W.heap.size) (hz : ∀ z ∈ zs, I64 z) (hl : zs.length ≤ 17592186044404) (m : Int) (hm : 1 ≤ m) (hm' : m ≤ 9223372036854775807)
    {base size n : Nat} {e : TypeId} {v : Value} {xs : List Value} (ho : w.ownsRow base e size v n xs) (he : e ≠ 89) :
    Calls Tryz.prog 55 #[.pointer (some ⟨b, 0, none⟩), .int .i64 m] w fun r w' => ∃ q : Int, r = .returned (.int .i64 q) ∧ Hid (0 ≤ q ∧ q < m) ∧ Hid (Sn W b A zs.length c L w') ∧ Hid (w'.ownsRow base e size v n xs) := by
  refine (next_any m b A zs c B w (hA.grown st.gr hB hbW) hB hz hl st.nm hm hm').mono ?_
  rintro r w' ⟨q, rfl, h1, h2⟩
  obtain ⟨K, hK, hn⟩ := st.nm
  exact ⟨q, rfl, h1, st.next h2.out, ho.kept h2.out.2 (.inr (fun h => own_ne ho hn he h.symm))⟩
theorem own_store {w : World} {base : Nat} {e : TypeId} {size n : Nat} {v : Value} {xs : List Value} {g : Nat} {cs : Array Value} {T : TypeId} (ho : w.ownsRow base e size v n xs) (hg : Bk w g cs T) (hne : e ≠ T) (i : Nat) (u : Value) : (w.setCell ⟨g, i, none⟩ u).ownsRow base e size v n xs :=
  ho.kept (row := some g) ⟨rfl, rfl, rfl, by simp [World.setCell], fun k _ h => Below.heap_setCell w _ u k (fun e => h (by rw [e]))⟩ (.inr (fun h => own_ne ho hg hne h.symm))
/-- Three cells of an own row, written. -/
theorem own_three {w : World} {base : Nat} {e : TypeId} {size n cap g : Nat} {xs : List Value} (h : w.ownsRow base e size (.slice (some ⟨g, 0, none⟩) n cap) n xs) (a b c : Value) :
    (((w.setCell ⟨g, 0, none⟩ a).setCell ⟨g, 1, none⟩ b).setCell ⟨g, 2, none⟩ c).ownsRow base e size (.slice (some ⟨g, 0, none⟩) n cap) n (((xs.set 0 a).set 1 b).set 2 c) ∧ w.grownBy (((w.setCell ⟨g, 0, none⟩ a).setCell ⟨g, 1, none⟩ b).setCell ⟨g, 2, none⟩ c) (some g) := by
  have h1 := World.ownsRow.stored h 0 a
  have h2 := World.ownsRow.stored h1.1 1 b
  have h3 := World.ownsRow.stored h2.1 2 c
  exact ⟨h3.1, grown_trans (grown_trans h1.2 h2.2) h3.2⟩
/-- The six cells of a struct, all written. -/
theorem Sn.set6 {W w : World} {b n c : Nat} {A : Option Addr} {L : List (Nat × Array Value × TypeId)} (h : Sn W b A n c L w) (g : Nat) (c0 c1 c2 c3 c4 c5 : Value) (T : TypeId) (hm : (g, #[c0, c1, c2, c3, c4, c5], T) ∈ L) (x0 x1 x2 x3 x4 x5 : Value)
    {base size m : Nat} {e : TypeId} {v : Value} {xs : List Value} (ho : w.ownsRow base e size v m xs) (he : e ≠ T) :
    Sn W b A n c [(g, #[x0, x1, x2, x3, x4, x5], T)] ((((((w.setCell ⟨g, 0, none⟩ x0).setCell ⟨g, 1, none⟩ x1).setCell ⟨g, 2, none⟩ x2).setCell ⟨g, 3, none⟩ x3).setCell ⟨g, 4, none⟩ x4).setCell ⟨g, 5, none⟩ x5) ∧
    ((((((w.setCell ⟨g, 0, none⟩ x0).setCell ⟨g, 1, none⟩ x1).setCell ⟨g, 2, none⟩ x2).setCell ⟨g, 3, none⟩ x3).setCell ⟨g, 4, none⟩ x4).setCell ⟨g, 5, none⟩ x5).ownsRow base e size v m xs := by
  have h1 := h.set g _ T hm 0 x0 (L' := [(g, #[x0, c1, c2, c3, c4, c5], T)]) (fun p hp => .inl (by simpa using hp))
  have o1 := own_store ho (h.own _ hm).1 he 0 x0
  have h2 := h1.set g _ T (.head _) 1 x1 (L' := [(g, #[x0, x1, c2, c3, c4, c5], T)]) (fun p hp => .inl (by simpa using hp))
  have o2 := own_store o1 (h1.own _ (.head _)).1 he 1 x1
  have h3 := h2.set g _ T (.head _) 2 x2 (L' := [(g, #[x0, x1, x2, c3, c4, c5], T)]) (fun p hp => .inl (by simpa using hp))
  have o3 := own_store o2 (h2.own _ (.head _)).1 he 2 x2
  have h4 := h3.set g _ T (.head _) 3 x3 (L' := [(g, #[x0, x1, x2, x3, c4, c5], T)]) (fun p hp => .inl (by simpa using hp))
  have o4 := own_store o3 (h3.own _ (.head _)).1 he 3 x3
  have h5 := h4.set g _ T (.head _) 4 x4 (L' := [(g, #[x0, x1, x2, x3, x4, c5], T)]) (fun p hp => .inl (by simpa using hp))
  have o5 := own_store o4 (h4.own _ (.head _)).1 he 4 x4
  exact ⟨h5.set g _ T (.head _) 5 x5 (fun p hp => .inl (by simpa using hp)), own_store o5 (h5.own _ (.head _)).1 he 5 x5⟩
/-- append onto a row of the call's own, at a step of a region that draws; the source may be empty. -/
theorem step_append_own {P : Program} {w : World} {ops : Array Oper} {o : Oper} {a : Act} {K : Act → World → Prop} {Q : Exit → Act → World → Prop} {E : Prop} (hgd : o.guard = none) (s x : Operand) (t : TypeId)
    (ho : o.op = .call { callee := .builtin .append, args := #[s, x], argTypes := #[t, t] })
    (base : Nat) (e : TypeId) (i : TypeInfo) (z : Value) (size bytes : Nat) (ht : P.underlying t = some (.slice e)) (hi : P.info? e = some i) (hz : i.zero = some z)
    (hsize : i.size = size) (hby : i.bytes = bytes) (hzs : z.cells.size = size) (hsz : 0 < size)
    (v : Value) (n : Nat) (xs : List Value) (hs : a.eval s = v) (hown : w.ownsRow base e size v n xs)
    (ad : Addr) (m c : Nat) (news : List Value) (hx : a.eval x = .slice (some ad) m c) (hl : news.length = m * size) (hnews : ∀ j u, news[j]? = some u → w.cell? (ad.add j) = some u) (h1 : ∀ u ∈ news, u.oneCell' = true)
    (h63 : n + m ≤ maxLen) (hbytes : (n + m) * bytes ≤ 140737488355328) (hbase : base ≤ w.heap.size)
    (h : ∀ A' c' w', w'.ownsRow base e size (.slice A' (n + m) c') (n + m) (xs ++ news) → w.grownBy w' v.ownBlock → K (a.put o.dst (.slice A' (n + m) c')) w') :
    if Region.wanted o (yielded ops a.tmps) = true then Oper.wp P o a w K Q else E := by
  have hw : Region.wanted o (yielded ops a.tmps) = true := by simp [Region.wanted, hgd]
  rw [if_pos hw]
  refine wp_append_own w s x t ho base e i z size bytes ht hi hz hsize hby hzs hsz v n xs hs hown ad m c news hx hl hnews h1 h63 hbytes hbase (fun v' w' h1 h2 _ => ?_)
  have hf : ∃ A' c', v' = .slice A' (n + m) c' := by
    rcases h1.2 with ⟨rfl, h0⟩ | ⟨g, cap, cur, rfl, _⟩
    · exact ⟨none, 0, by rw [h0]⟩
    · exact ⟨_, _, rfl⟩
  obtain ⟨A', c', rfl⟩ := hf
  exact h A' c' w' h1 h2
theorem kept_none {w w' : World} {base : Nat} {e : TypeId} {size n : Nat} {v : Value} {xs : List Value} (ho : w.ownsRow base e size v n xs) (hg : w.grownBy w' none) : w'.ownsRow base e size v n xs :=
  ho.kept hg (by cases v.ownBlock <;> simp)
theorem news_take (w : World) (cs : Array Value) (T : TypeId) (m : Nat) : ∀ j u, (cs.toList.take m)[j]? = some u → (w.alloc (.cells cs T)).cell? ((⟨w.heap.size, 0, none⟩ : Addr).add j) = some u := by
  intro j u h
  rw [List.getElem?_take] at h
  split at h
  · have e : (⟨w.heap.size, 0, none⟩ : Addr).add j = ⟨w.heap.size, j, none⟩ := by unfold Addr.add; split <;> simp_all
    rw [e, World.cell?_alloc_new, ← h]; simp
  · cases h
theorem news_take_drew (w : World) (cs : Array Value) (T : TypeId) (m : Nat) : ∀ j u, (cs.toList.take m)[j]? = some u → (w.alloc (.cells cs T)).drew.cell? ((⟨w.heap.size, 0, none⟩ : Addr).add j) = some u := news_take w cs T m
/-- How a call of Cell ends. -/
def CellTo (M : Int) (b : Nat) (A : Option Addr) (n c : Nat) (w : World) (e : Ending) (w' : World) : Prop :=
  ∃ (kd cl fn tn : Int) (nA : Option Addr) (nn nc : Nat) (iA : Option Addr) (m ic : Nat),
    e = .returned (.agg #[.int .i64 kd, .int .i64 cl, .int .i64 fn, .int .i64 tn, .slice nA nn nc, .slice iA m ic]) ∧
    Hid (CellOf (fun _ => Lo M) w' w.heap.size kd cl fn tn nA nn nc iA m ic) ∧ Hid (Nm w' b A n c ∧ w.grownBy w' (some b))
end Go.Proofs.YtkdpcnikgdbmaaaGreatDoor.Ac
