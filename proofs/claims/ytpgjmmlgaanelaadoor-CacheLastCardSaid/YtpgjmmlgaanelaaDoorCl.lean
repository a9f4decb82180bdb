/-
  A map that knows the same as a site; the walk of CacheLast.
-/
import Derived.Test.YtpgjmmlgaanelaaDoorCc
import Derived.Maps.Own
import Derived.Maps.OwnOps
import Derived.Maps.Views
import Derived.Maps.OwnSet
namespace Go.Proofs.YtpgjmmlgaanelaaDoor.Ch
open Go Go.RowKit Go.Maps

theorem state_ne {t : Ste} (h : t.full = false) : ¬ t.state = 3 := by unfold Ste.state; rw [h]; simp; omega
theorem state_full {t : Ste} (h : t.full = true) : t.state = 3 := by unfold Ste.state; rw [h]; rfl
theorem intLaw : Keyed Tryd.prog 3 := int_keyed Tryd.underlying3
theorem zeroInt (w : World) : (zeroValue 3).run Tryd.prog w = .ok (.int .i64 0) w := by kernel_rfl
theorem wfI {n : Int} (h : I64 n) : (Lit.int .i64 n).wf = true := by
  obtain ⟨h1, h2⟩ := h
  have h3 : IntKind.i64.min = -9223372036854775808 := rfl
  have h4 : IntKind.i64.max = 9223372036854775807 := rfl
  simp [Lit.wf, h3, h4, h1, h2]
theorem own_keepM {w w' : World} {k : TypeId} {R : Value → Option (DataW Unit × List MemPlace)} {b n : Nat} {D : DataW Unit} (h : w.ownsMap Tryd.prog k R b n D) (hk : w'.heap[b]? = w.heap[b]?) : w'.ownsMap Tryd.prog k R b n D := by
  obtain ⟨es, clock, hb, F, hs, hD⟩ := h
  exact ⟨es, clock, hk.trans hb, F, hs, hD⟩
/-- A datum that knows what a list knows. -/
structure KnD (D : DataW Unit) (l : List (Int × Int)) : Prop where
  at_ : ∀ s, I64 s → D.atKey (.int .i64 s) (.lit (.int .i64 0)) = .lit (.int .i64 ((lk s l).getD 0))
  has_ : ∀ s, I64 s → Maps.has D (.int .i64 s) = (lk s l).isSome
  size_ : Maps.size D = l.length
/-- Block m is a map that knows what a list knows. -/
def Kn (w : World) (m N : Nat) (l : List (Int × Int)) : Prop := ∃ D : DataW Unit, w.ownsMap Tryd.prog 3 (plainElem Tryd.prog 3) m N D ∧ KnD D l
theorem Kn.made (w : World) : Kn (w.alloc (.map #[] 0)) w.heap.size 0 [] :=
  ⟨_, World.ownsMap_made _ _ _ _, fun s _ => by simp [DataW.atKey, lk], fun s _ => by simp [Maps.has, lk], by simp [Maps.size]⟩
theorem Kn.lt {w : World} {m N : Nat} {l : List (Int × Int)} (h : Kn w m N l) : m < w.heap.size := by obtain ⟨_, h, _⟩ := h; exact h.lt
theorem Kn.keep {w w' : World} {m N : Nat} {l : List (Int × Int)} (h : Kn w m N l) (hk : w'.heap[m]? = w.heap[m]?) : Kn w' m N l := by obtain ⟨D, h, k⟩ := h; exact ⟨D, own_keepM h hk, k⟩
theorem Kn.mono {w : World} {m N N' : Nat} {l : List (Int × Int)} (h : Kn w m N l) (hn : N ≤ N') : Kn w m N' l := by obtain ⟨D, h, k⟩ := h; exact ⟨D, h.mono hn, k⟩
theorem Kn.look {w : World} {m N : Nat} {l : List (Int × Int)} (h : Kn w m N l) {s : Int} (hs : I64 s) :
    (Instr.lookup 33 (.map (some m)) (.int .i64 s) true).run Tryd.prog w = .ok (.tuple #[.int .i64 ((lk s l).getD 0), .bool (lk s l).isSome]) w := by
  obtain ⟨D, ho, k⟩ := h
  obtain ⟨v, ps, hrun, hv⟩ := ho.look_ok intLaw Tryd.underlying33 (zeroInt w) (plainElem_int Tryd.underlying3 (by decide)) (keyOf_int_mk Tryd.underlying3 (wfI hs))
  rw [k.at_ s hs] at hv
  obtain ⟨c, rfl, hc, _⟩ := plainElem_int_inv Tryd.underlying3 hv
  simp only [Prod.mk.injEq, DataW.lit.injEq, Lit.int.injEq, true_and] at hc
  rw [hrun, k.has_ s hs, hc.1]
theorem Kn.len {w : World} {m N : Nat} {l : List (Int × Int)} (h : Kn w m N l) (ty : TypeId) : (Builtin.len_ #[33] ty #[.map (some m)]).run Tryd.prog w = .ok (.int .i64 (l.length : Nat)) w := by
  obtain ⟨D, ho, k⟩ := h
  rw [ho.len Tryd.underlying33, k.size_]
theorem KnD.put {D : DataW Unit} {l l' : List (Int × Int)} (h : KnD D l) (ht : Tidy D) {s v : Int} (hs : I64 s) (hl : ∀ x, lk x l' = if x = s then some v else lk x l) (hn : l'.length = if (lk s l).isSome then l.length else l.length + 1) :
    KnD (D.put (.int .i64 s) (.lit (.int .i64 v))) l' := by
  refine ⟨fun x hx => ?_, fun x hx => ?_, ?_⟩
  · rw [hl]
    by_cases e : x = s
    · subst e
      rw [atKey_put_same ht.isMap (by trivial), if_pos rfl]; rfl
    · rw [atKey_put_other (fun h => e (Lit.int.inj h).2), h.at_ x hx, if_neg e]
  · rw [hl]
    by_cases e : x = s
    · subst e
      rw [has_put_same ht.isMap (by trivial), if_pos rfl]; rfl
    · rw [has_put_other (fun h => e (Lit.int.inj h).2), h.has_ x hx, if_neg e]
  · rw [size_put ht, h.has_ s hs, hn, h.size_]
theorem del_len {s : Int} : ∀ {l : List (Int × Int)}, (l.map (·.1)).Nodup → (del s l).length + (if (lk s l).isSome then 1 else 0) = l.length
  | [], _ => rfl
  | p :: l, hn => by
    simp only [List.map_cons, List.nodup_cons] at hn
    have ih := del_len (s := s) hn.2
    unfold del at ih ⊢
    unfold lk
    by_cases e : p.1 = s
    · rw [List.filter_cons_of_neg (by simp [e]), if_pos e]
      have hl : lk s l = none := lk_none.2 fun q hq e' => hn.1 (by rw [e, ← e']; exact List.mem_map_of_mem hq)
      rw [hl] at ih
      simp at ih ⊢
      omega
    · rw [List.filter_cons_of_pos (by simp [e]), if_neg e]
      simp only [List.length_cons]
      omega
theorem KnD.del {D : DataW Unit} {l : List (Int × Int)} (h : KnD D l) (ht : Tidy D) {s : Int} (hs : I64 s) (hn : (l.map (·.1)).Nodup) : KnD (D.del (.int .i64 s)) (Ch.del s l) := by
  refine ⟨fun x hx => ?_, fun x hx => ?_, ?_⟩
  · rw [lk_del]
    by_cases e : x = s
    · subst e
      rw [atKey_del_same, if_pos rfl]; rfl
    · rw [atKey_del_other (fun h => e (Lit.int.inj h).2), h.at_ x hx, if_neg e]
  · rw [lk_del]
    by_cases e : x = s
    · subst e
      rw [has_del_same, if_pos rfl]; rfl
    · rw [has_del_other (fun h => e (Lit.int.inj h).2), h.has_ x hx, if_neg e]
  · have h1 := size_del (k := .int .i64 s) ht
    have h2 := del_len (s := s) hn
    rw [h.has_ s hs, h.size_] at h1
    omega
/-- What Learn makes of what is known. -/
theorem learn_ways {t : Ste} (s v : Int) :
    (∃ t', t.learn s v = (0, t') ∧ t'.full = false ∧ (∀ x, lk x t'.l = if x = s then some v else lk x t.l) ∧ t'.l.length = if (lk s t.l).isSome then t.l.length else t.l.length + 1) ∨
    (∃ c t', t.learn s v = (c, t') ∧ (c = 1 ∨ c = 2) ∧ ((t'.full = t.full ∧ t'.l = t.l) ∨ (t'.full = true ∧ t'.l = []))) := by
  unfold Ste.learn
  split
  · exact .inr ⟨_, _, rfl, .inl rfl, .inl ⟨rfl, rfl⟩⟩
  split
  · exact .inr ⟨_, _, rfl, .inr rfl, .inl ⟨rfl, rfl⟩⟩
  rename_i hf
  have hf : t.full = false := by simpa using hf
  cases hl : lk s t.l with
  | some b =>
    refine .inl ⟨_, rfl, hf, fun x => ?_, ?_⟩
    · exact lk_upd x (by rw [hl]; simp)
    · show (upd s v t.l).length = _
      rw [upd_len]; rfl
  | none =>
    by_cases h4 : t.l.length = 4
    · simp only [if_pos h4]
      exact .inr ⟨_, _, rfl, .inr rfl, .inr ⟨rfl, rfl⟩⟩
    · simp only [if_neg h4]
      refine .inl ⟨_, rfl, hf, fun x => ?_, ?_⟩
      · exact lk_snoc hl
      · show (t.l ++ [(s, v)]).length = _
        simp
/-- What the loop keeps: the site, and a map apart from it. -/
structure Lt (K : Kit) (w0 w : World) (p : Nat) (t : Ste) (F : Nat → Prop) (n m : Nat) (l : List (Int × Int)) : Prop where
  a : Tr K w0 w p t F n
  k : Kn w m n l
  d : ¬ F m
  g : w0.heap.size ≤ m
section
variable {K : Kit} {w0 w w' : World} {p n m : Nat} {t t' : Ste} {F F' : Nat → Prop} {l l' : List (Int × Int)}
theorem Lt.below (h : Lt K w0 w p t F n m l) (hb : Below w.heap.size w w') : Lt K w0 w' p t F n m l := ⟨h.a.below hb, h.k.keep (hb.block _ h.k.lt), h.d, h.g⟩
theorem Lt.drewN (h : Lt K w0 w p t F n m l) (k : Nat) : Lt K w0 (w.drewN k) p t F n m l := ⟨h.a.drewN k, h.k.keep rfl, h.d, h.g⟩
theorem Lt.alloc (h : Lt K w0 w p t F n m l) (o : Obj) : Lt K w0 (w.alloc o) p t F n m l := ⟨h.a.alloc o, h.k.keep (Below.heap_alloc _ _ _ h.k.lt), h.d, h.g⟩
theorem Lt.step {n' : Nat} (h : Lt K w0 w p t F n m l) (h' : Tr K w0 w' p t' F' n') (c : Chg F w w') (s : Sub F F' w) (hn : n ≤ n') : Lt K w0 w' p t' F' n' m l :=
  ⟨h', (h.k.keep (c.block _ h.k.lt h.d)).mono hn, fun e => (s _ e).elim h.d (by have := h.k.lt; omega), h.g⟩
theorem Lt.up {n' : Nat} (h : Lt K w0 w p t F n m l) (hn : n ≤ n') (h1 : n' ≤ 1000) : Lt K w0 w p t F n' m l := ⟨h.a.up hn h1, h.k.mono hn, h.d, h.g⟩
theorem Lt.turn (h : Lt K w0 w p t F n m l) (hg : w.grownBy w' (some m)) (k : Kn w' m n l') : Lt K w0 w' p t F n m l' := by
  refine ⟨⟨K.keep h.a.h fun b hb => hg.block b (K.lt h.a.h b hb) (fun e => by injection e with e; subst e; exact h.d hb), h.a.b.trans ⟨hg.os, hg.tape, hg.output, hg.size, fun b hb => hg.block b (Nat.lt_of_lt_of_le hb h.a.b.size) (fun e => by injection e with e; have := h.g; omega)⟩, h.a.f, h.a.v, h.a.k, h.a.s⟩, k, h.d, h.g⟩
end
/-- The same, with the act's own block. -/
structure Lx (K : Kit) (w0 w : World) (p : Nat) (t : Ste) (F : Nat → Prop) (n m : Nat) (l : List (Int × Int)) (b : Nat) (q xa xb : Int) : Prop where
  a : Lt K w0 w p t F n m l
  x : Bk w b #[.int .i64 q, .int .i64 xa, .int .i64 xb] 30
  dx : ¬ F b
  nx : b ≠ m
section
variable {K : Kit} {w0 w w' : World} {p n m b : Nat} {t t' : Ste} {F F' : Nat → Prop} {l l' : List (Int × Int)} {q xa xb : Int}
theorem Lt.actX (h : Lt K w0 w p t F n m l) : Lx K w0 (w.alloc (.cells #[.int .i64 q, .int .i64 xa, .int .i64 xb] 30)) p t F n m l w.heap.size q xa xb :=
  ⟨h.alloc _, Bk.new w _ _, fun e => Nat.lt_irrefl _ (K.lt h.a.h _ e), fun e => Nat.lt_irrefl w.heap.size (by have := h.k.lt; omega)⟩
theorem Lx.below (h : Lx K w0 w p t F n m l b q xa xb) (hb : Below w.heap.size w w') : Lx K w0 w' p t F n m l b q xa xb := ⟨h.a.below hb, Bk.low hb h.x, h.dx, h.nx⟩
theorem Lx.drewN (h : Lx K w0 w p t F n m l b q xa xb) (k : Nat) : Lx K w0 (w.drewN k) p t F n m l b q xa xb := ⟨h.a.drewN k, h.x, h.dx, h.nx⟩
theorem Lx.drew (h : Lx K w0 w p t F n m l b q xa xb) : Lx K w0 w.drew p t F n m l b q xa xb := h.drewN 1
theorem Lx.step {n' : Nat} (h : Lx K w0 w p t F n m l b q xa xb) (h' : Tr K w0 w' p t' F' n') (c : Chg F w w') (s : Sub F F' w) (hn : n ≤ n') : Lx K w0 w' p t' F' n' m l b q xa xb :=
  ⟨h.a.step h' c s hn, by have := h.x; unfold Bk at *; rw [c.block _ h.x.lt h.dx]; exact this, fun e => (s _ e).elim h.dx (by have := h.x.lt; omega), h.nx⟩
theorem Lx.up {n' : Nat} (h : Lx K w0 w p t F n m l b q xa xb) (hn : n ≤ n') (h1 : n' ≤ 1000) : Lx K w0 w p t F n' m l b q xa xb := ⟨h.a.up hn h1, h.x, h.dx, h.nx⟩
theorem Lx.turn (h : Lx K w0 w p t F n m l b q xa xb) (hg : w.grownBy w' (some m)) (k : Kn w' m n l') : Lx K w0 w' p t F n m l' b q xa xb :=
  ⟨h.a.turn hg k, by have := h.x; unfold Bk at *; rw [hg.block _ h.x.lt (fun e => by injection e with e; exact h.nx e)]; exact this, h.dx, h.nx⟩
theorem Lx.anew (h : Lx K w0 w p t F n m l b q xa xb) : Lx K w0 (w.alloc (.map #[] 0)) p t F n w.heap.size [] b q xa xb :=
  ⟨⟨h.a.a.alloc _, (Kn.made w).mono (Nat.zero_le _), fun e => Nat.lt_irrefl _ (K.lt h.a.a.h _ e), h.a.a.b.size⟩, h.x.alloc _, h.dx, fun e => by have := h.x.lt; omega⟩
theorem Lx.c1 (h : Lx K w0 w p t F n m l b q xa xb) : w.cell? ⟨b, 1, none⟩ = some (.int .i64 xa) := h.x.cell 1 _ rfl
theorem Lx.c2 (h : Lx K w0 w p t F n m l b q xa xb) : w.cell? ⟨b, 2, none⟩ = some (.int .i64 xb) := h.x.cell 2 _ rfl
end
end Go.Proofs.YtpgjmmlgaanelaaDoor.Ch
