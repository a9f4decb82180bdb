/-
  A shape more: what an append to the reference's row of shapes makes of its tree.
-/
import Derived.Test.YtjodmjadpooipaaGreatDoorTc
namespace Go.Proofs.YtjodmjadpooipaaGreatDoor.Sh
open Go Go.RowKit

/-- The tree's blocks and all new ones. -/
def More (F : Nat → Prop) (w w' : World) (b : Nat) : Prop := F b ∨ (w.heap.size ≤ b ∧ b < w'.heap.size)
theorem More.sub {F : Nat → Prop} {w w' : World} : Sub F (More F w w') w := fun _ h => h.imp_right And.left
theorem push_at {w w' : World} {p : Nat} {t : Tre} {F : Nat → Prop} {gL cL : Nat} {vR : Value} {hd : Nat → Hd} (h : RefAt w p t F gL cL vR hd) {xs : List Value}
    (o : w.ownsRow 0 62 4 (.slice (some ⟨gL, 0, none⟩) t.L.length cL) t.L.length xs) (hx : ∀ s, s < t.L.length → ∀ i u, (rowOf (t.sh s) (hd s))[i]? = some u → xs[s * 4 + i]? = some u)
    {k nc g cap : Nat} {ns : List ByteArray} {ad : Addr} (hz : w.heap.size ≤ w'.heap.size) (same : ∀ b, b < w.heap.size → b ≠ p → b ≠ gL → w'.heap[b]? = w.heap[b]?)
    (hp' : Bk w' p #[.slice (some ⟨g, 0, none⟩) (t.L.length + 1) cap, vR] 56)
    (hrow : w'.ownsRow 0 62 4 (.slice (some ⟨g, 0, none⟩) (t.L.length + 1) cap) (t.L.length + 1) (xs ++ [.int .i64 k, .int .i64 (-1), .slice (some ad) ns.length nc, .slice none 0 0]))
    (hg : g = gL ∨ (w.heap.size ≤ g ∧ g < w'.heap.size)) (hn : SlS w' (fun b => (w.heap.size ≤ b ∧ b < w'.heap.size) ∧ isStr w' b) (some ad) ns) :
    RefAt w' p (t.push k ns) (More F w w') g cap vR (fun s => if s = t.L.length then ⟨ad, nc, .slice none 0 0⟩ else hd s) := by
  have hL : (t.push k ns).L.length = t.L.length + 1 := by simp [Tre.push]
  have S : ∀ r, (t.push k ns).sh r = if r = t.L.length then ⟨k, none, ns, []⟩ else t.sh r := sh_push t _ _
  have sm : ∀ b, F b → b ≠ p → b ≠ gL → w'.heap[b]? = w.heap[b]? := fun b hb => same b (h.lt b hb)
  refine ⟨fun b hb => ?_, by rw [hL]; exact hp', .inl h.fp, ⟨_, by rw [hL]; exact hrow, fun s hs i u hu => ?_⟩, ?_, ?_, fun b hb => .inl (h.fR b hb), fun s hs => ?_, fun s hs => ?_, fun s hs b hb => ?_, fun s r hs hr hne b hb => ?_⟩
  · rcases hb with hb | hb
    · exact Nat.lt_of_lt_of_le (h.lt b hb) hz
    · exact hb.2
  · rw [hL] at hs
    dsimp only at hu
    rw [S] at hu
    have hlen : xs.length = t.L.length * 4 := o.1
    by_cases e : s = t.L.length
    · subst e
      rw [if_pos rfl, if_pos rfl] at hu
      rw [List.getElem?_append_right (by omega), show t.L.length * 4 + i - xs.length = i by omega]
      exact hu
    · rw [if_neg e, if_neg e] at hu
      have hi : i < 4 := by have := (List.getElem?_eq_some_iff.1 hu).1; exact this
      rw [List.getElem?_append_left (by omega)]
      exact hx s (by omega) i u hu
  · rcases hg with rfl | hg
    · exact .inl h.fL
    · exact .inr hg
  · refine own_keep h.roots fun b hb => sm b (h.fR b hb) (fun e => ?_) (fun e => ?_)
    · subst e; exact bk_ne h.roots h.hp (by decide) hb
    · subst e; exact own_ne o h.roots (by decide) _ rfl hb
  · rw [hL] at hs
    rw [S]
    by_cases e : s = t.L.length
    · rw [if_pos e, if_pos e]
      exact hn.imp fun b hb => ⟨.inr hb.1, hb.2⟩
    · rw [if_neg e, if_neg e]
      exact (h.names s (by omega)).keep fun b hb => by
        have h1 : b ≠ p := fun e => by
          obtain ⟨cs, hc⟩ := hb.2
          have h2 := h.hp
          unfold Bk at h2
          rw [← e, hc] at h2
          injection h2 with h2
          injection h2 with _ h3
          exact absurd h3 (by decide)
        have h2 : b ≠ gL := fun e => by subst e; exact str_ne o hb.2 (by decide) rfl
        have h3 := sm b hb.1 h1 h2
        obtain ⟨cs, hc⟩ := hb.2
        exact ⟨⟨.inl hb.1, ⟨cs, by rw [h3]; exact hc⟩⟩, h3⟩
  · rw [hL] at hs
    rw [S]
    by_cases e : s = t.L.length
    · rw [if_pos e, if_pos e]
      exact ⟨[], World.ownsRow_nil _ _ _ _, fun j q hq => by cases hq⟩
    · rw [if_neg e, if_neg e]
      obtain ⟨ys, o2, h2⟩ := h.links s (by omega)
      refine ⟨ys, own_keep o2 fun b hb => sm b (h.fK s (by omega) b hb) (fun e => ?_) (fun e => ?_), h2⟩
      · subst e; exact bk_ne o2 h.hp (by decide) hb
      · subst e; exact own_ne o o2 (by decide) _ rfl hb
  · rw [hL] at hs
    by_cases e : s = t.L.length
    · rw [if_pos e] at hb; simp [Value.ownBlock] at hb
    · rw [if_neg e] at hb; exact .inl (h.fK s (by omega) b hb)
  · rw [hL] at hs hr
    by_cases e : s = t.L.length
    · rw [if_pos e] at hb; simp [Value.ownBlock] at hb
    · rw [if_neg e] at hb
      by_cases e2 : r = t.L.length
      · rw [if_pos e2]; simp [Value.ownBlock]
      · rw [if_neg e2]; exact h.apart s r (by omega) (by omega) hne b hb
/-- An append in a region that draws its order. -/
theorem step_append_own {P : Program} {w : World} {ops : Array Oper} {o : Oper} {a : Go.Act} {K : Go.Act → World → Prop} {Q : Exit → Go.Act → World → Prop} {E : Prop} (hgd : o.guard = none) (s x : Operand) (t : TypeId)
    (ho : o.op = .call { callee := .builtin .append, args := #[s, x], argTypes := #[t, t] })
    (base : Nat) (e : TypeId) (i : TypeInfo) (z : Value) (size bytes : Nat) (ht : P.underlying t = some (.slice e)) (hi : P.info? e = some i) (hz : i.zero = some z)
    (hsize : i.size = size) (hby : i.bytes = bytes) (hzs : z.cells.size = size) (hsz : 0 < size)
    (v : Value) (n : Nat) (xs : List Value) (hs : a.eval s = v) (hown : w.ownsRow base e size v n xs)
    (ad : Addr) (m c : Nat) (news : List Value) (hx : a.eval x = .slice (some ad) m c) (hl : news.length = m * size) (hnews : ∀ j u, news[j]? = some u → w.cell? (ad.add j) = some u) (h1 : ∀ u ∈ news, u.oneCell' = true)
    (h63 : n + m ≤ maxLen) (hbytes : (n + m) * bytes ≤ 140737488355328) (hbase : base ≤ w.heap.size) (hv : v ≠ .slice none 0 0)
    (h : ∀ g c' w', w'.ownsRow base e size (.slice (some ⟨g, 0, none⟩) (n + m) c') (n + m) (xs ++ news) → w.grownBy w' v.ownBlock → K (a.put o.dst (.slice (some ⟨g, 0, none⟩) (n + m) c')) w') :
    if Region.wanted o (yielded ops a.tmps) = true then Oper.wp P o a w K Q else E := by
  have hw : Region.wanted o (yielded ops a.tmps) = true := by simp [Region.wanted, hgd]
  rw [if_pos hw]
  refine wp_append_own w s x t ho base e i z size bytes ht hi hz hsize hby hzs hsz v n xs hs hown ad m c news hx hl hnews h1 h63 hbytes hbase (fun v' w' h1 h2 h3 => ?_)
  rcases h1.2 with ⟨rfl, h0⟩ | ⟨g, cap, cur, rfl, _⟩
  · exact absurd (h3.1 rfl).1 hv
  · exact h g cap w' h1 h2
theorem Bk.set {w : World} {b : Nat} {c : Array Value} {T : TypeId} (h : Bk w b c T) (i : Nat) (v : Value) : Bk (w.setCell ⟨b, i, none⟩ v) b (c.setIfInBounds i v) T := by
  unfold Bk at h ⊢
  unfold World.setCell
  simp only [Array.getElem?_modify, if_true, h]
  rfl
theorem Bk.frozen {w : World} {b : Nat} {c : Array Value} {T : TypeId} (h : Bk w b c T) (i : Nat) : w.frozen? ⟨b, i, none⟩ = false := by
  unfold Bk at h
  simp [World.frozen?, h]
section
variable {w3 w5 w6 : World} {p : Nat} {t : Tre} {F : Nat → Prop} {gL cL : Nat} {vR : Value} {hd : Nat → Hd} (h : RefAt w3 p t F gL cL vR hd) {xs : List Value}
  (ho : w3.ownsRow 0 62 4 (.slice (some ⟨gL, 0, none⟩) t.L.length cL) t.L.length xs)
  (B5 : Below w3.heap.size w3 w5) {o : Obj} (hgrow : (w5.alloc o).grownBy w6 (Value.ownBlock (.slice (some ⟨gL, 0, none⟩) t.L.length cL)))
include h ho B5 hgrow
omit h ho in
theorem push_other (b : Nat) (hb : b < w3.heap.size) (hne : b ≠ gL) : w6.heap[b]? = w3.heap[b]? := by
  have h1 := B5.size
  rw [hgrow.block b (by rw [World.size_alloc]; omega) (by simp [Value.ownBlock]; exact fun e => hne e), Below.heap_alloc _ _ _ (by omega), B5.block b hb]
theorem push_hdr : Bk w6 p #[.slice (some ⟨gL, 0, none⟩) t.L.length cL, vR] 56 := by
  have pg : p ≠ gL := fun e => bk_ne ho h.hp (by decide) (by rw [e]; rfl)
  unfold Bk
  rw [push_other B5 hgrow p h.hp.lt pg]; exact h.hp
theorem push_done (hx : ∀ s, s < t.L.length → ∀ i u, (rowOf (t.sh s) (hd s))[i]? = some u → xs[s * 4 + i]? = some u) {gN cN k g cap : Nat} {ns : List ByteArray}
    (SN : SlS w5 (fun b => (w3.heap.size ≤ b ∧ b < w5.heap.size) ∧ isStr w5 b) (some ⟨gN, 0, none⟩) ns)
    (hown : w6.ownsRow 0 62 4 (.slice (some ⟨g, 0, none⟩) (t.L.length + 1) cap) (t.L.length + 1) (xs ++ [.int .i64 k, .int .i64 (-1), .slice (some ⟨gN, 0, none⟩) ns.length cN, .slice none 0 0]))
    (hg : Value.ownBlock (.slice (some ⟨gL, 0, none⟩) t.L.length cL) = some g ∨ g = w5.heap.size + 1) (hglt : g < w6.heap.size) :
    RefH (w6.setCell ⟨p, 0, none⟩ (.slice (some ⟨g, 0, none⟩) (t.L.length + 1) cap)) p (t.push k ns) (More F w3 (w6.setCell ⟨p, 0, none⟩ (.slice (some ⟨g, 0, none⟩) (t.L.length + 1) cap))) ∧
    Chg F w3 (w6.setCell ⟨p, 0, none⟩ (.slice (some ⟨g, 0, none⟩) (t.L.length + 1) cap)) := by
  have hp6 := push_hdr h ho B5 hgrow
  have h1 := B5.size
  have h2 : w5.heap.size + 1 ≤ w6.heap.size := by have := hgrow.size; rw [World.size_alloc] at this; exact this
  have hz : (w6.setCell ⟨p, 0, none⟩ (.slice (some ⟨g, 0, none⟩) (t.L.length + 1) cap)).heap.size = w6.heap.size := by simp [World.setCell]
  have far : ∀ b, b ≠ p → (w6.setCell ⟨p, 0, none⟩ (.slice (some ⟨g, 0, none⟩) (t.L.length + 1) cap)).heap[b]? = w6.heap[b]? := fun b hb => Below.heap_setCell w6 _ _ b (fun e => hb e)
  refine ⟨(push_at (nc := cN) (g := g) (cap := cap) h ho hx (by rw [hz]; omega) (fun b hb hp hgl => ?_) ?_ ?_ ?_ (?_ : SlS _ _ (some ⟨gN, 0, none⟩) ns)).refH, ⟨?_, ?_, ?_, by rw [hz]; omega, fun b hb hf => ?_⟩⟩
  · rw [far b hp]; exact push_other B5 hgrow b hb hgl
  · exact hp6.set 0 _
  · refine own_keep hown fun b hb => far b fun e => ?_
    subst e
    exact bk_ne hown hp6 (by decide) hb
  · rw [hz]
    rcases hg with hg | hg
    · left; simp [Value.ownBlock] at hg; omega
    · right; omega
  · rw [hz]
    refine SN.keep fun b hb => ?_
    have pl := h.hp.lt
    have gl := h.lt gL h.fL
    have e1 : (w6.setCell ⟨p, 0, none⟩ (.slice (some ⟨g, 0, none⟩) (t.L.length + 1) cap)).heap[b]? = w5.heap[b]? := by
      rw [far b (by omega), hgrow.block b (by rw [World.size_alloc]; omega) (by simp [Value.ownBlock]; omega), Below.heap_alloc _ _ _ hb.1.2]
    obtain ⟨cs, hc⟩ := hb.2
    exact ⟨⟨⟨hb.1.1, by omega⟩, ⟨cs, by rw [e1]; exact hc⟩⟩, e1⟩
  · exact (hgrow.os.trans B5.os : _)
  · exact (hgrow.tape.trans B5.tape : _)
  · exact (hgrow.output.trans B5.output : _)
  · rw [far b (fun e => hf (by rw [e]; exact h.fp))]
    exact push_other B5 hgrow b hb (fun e => hf (by rw [e]; exact h.fL))
end
end Go.Proofs.YtjodmjadpooipaaGreatDoor.Sh
