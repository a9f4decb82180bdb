/-
  A tree of the call's own, and what each call makes of it; calls played.
-/
import Derived.Test.YtjodmjadpooipaaGreatDoorSq
namespace Go.Proofs.YtjodmjadpooipaaGreatDoor.Sh
open Go Go.RowKit

/-- The tree is the call's own, which began at w0. -/
structure Tr (K : Kit) (w0 w : World) (p : Nat) (t : Tre) (F : Nat → Prop) : Prop where
  h : K.H w p t F
  b : Below w0.heap.size w0 w
  f : ∀ b, F b → w0.heap.size ≤ b
  v : K.V w0
section
variable {K : Kit} {w0 w w' : World} {p m : Nat} {t t' : Tre} {F F' : Nat → Prop}
theorem Tr.below (h : Tr K w0 w p t F) (hb : Below w.heap.size w w') : Tr K w0 w' p t F := ⟨K.below h.h hb, h.b.trans (hb.mono h.b.size), h.f, h.v⟩
theorem Tr.drewN (h : Tr K w0 w p t F) (n : Nat) : Tr K w0 (w.drewN n) p t F := ⟨K.drewN h.h n, h.b.trans ⟨rfl, rfl, rfl, Nat.le_refl _, fun _ _ => rfl⟩, h.f, h.v⟩
theorem Tr.drew (h : Tr K w0 w p t F) : Tr K w0 w.drew p t F := h.drewN 1
theorem Tr.alloc (h : Tr K w0 w p t F) (o : Obj) : Tr K w0 (w.alloc o) p t F := ⟨K.alloc h.h o, h.b.alloc h.b.size o, h.f, h.v⟩
theorem Tr.step (h : Tr K w0 w p t F) (h' : K.H w' p t' F') (c : Chg F w w') (s : Sub F F' w) : Tr K w0 w' p t' F' :=
  ⟨h', h.b.trans (c.below h.f h.b.size), fun b hb => (s b hb).elim (h.f b) fun g => Nat.le_trans h.b.size g, h.v⟩
theorem new_at {A : Option Addr} {fl : List (List ByteArray)} {c : Nat} (hv : K.V w0) (b : Below w0.heap.size w0 w) (h : Cls w w.heap.size A fl) (h1 : fl.length ≤ 12) (h2 : ∀ ns ∈ fl, ns.length ≤ 64) :
    Calls Tryz.prog 24 #[.slice A fl.length c] w fun e w' => ∃ p F, e = .returned (.pointer (some ⟨p, 0, none⟩)) ∧ Tr K w0 w' p (newT fl) F :=
  (K.new w A fl c h h1 h2).mono fun _e _w' ⟨p, F, he, h, hb, hF⟩ => ⟨p, F, he, h, b.trans (hb.mono b.size), fun x hx => Nat.le_trans b.size (hF x hx), hv⟩
theorem add_at (h : Tr K w0 w p t F) (hw : t.WF m) {s a b : Int} {nm : ByteArray} (hs : I64 s) (hn : nm.size ≤ maxLen) (r : t.add s nm = ((a, b), t')) :
    Calls Tryz.prog 25 #[.pointer (some ⟨p, 0, none⟩), .int .i64 s, .string nm] w fun e w' => ∃ F', e = .returned (.tuple #[.int .i64 a, .int .i64 b]) ∧ Tr K w0 w' p t' F' ∧ Chg F w w' ∧ Sub F F' w :=
  (K.add w p t F m s nm h.h hw hs hn).mono fun e w' ⟨F', he, h', c, s⟩ => by rw [r] at he h'; exact ⟨F', he, h.step h' c s, c, s⟩
theorem merge_at (h : Tr K w0 w p t F) (hw : t.WF m) {x y a : Int} (hx : I64 x) (hy : I64 y) (r : t.merge x y = (a, t')) :
    Calls Tryz.prog 27 #[.pointer (some ⟨p, 0, none⟩), .int .i64 x, .int .i64 y] w fun e w' => ∃ F', e = .returned (.int .i64 a) ∧ Tr K w0 w' p t' F' ∧ Chg F w w' ∧ Sub F F' w :=
  (K.merge w p t F m x y h.h hw hx hy).mono fun e w' ⟨F', he, h', c, s⟩ => by rw [r] at he h'; exact ⟨F', he, h.step h' c s, c, s⟩
theorem split_at (h : Tr K w0 w p t F) (hw : t.WF m) {x a b : Int} (hx : I64 x) (r : t.split x = ((a, b), t')) :
    Calls Tryz.prog 26 #[.pointer (some ⟨p, 0, none⟩), .int .i64 x] w fun e w' => ∃ F', e = .returned (.tuple #[.int .i64 a, .int .i64 b]) ∧ Tr K w0 w' p t' F' ∧ Chg F w w' ∧ Sub F F' w :=
  (K.split w p t F m x h.h hw hx).mono fun e w' ⟨F', he, h', c, s⟩ => by rw [r] at he h'; exact ⟨F', he, h.step h' c s, c, s⟩
theorem make_at (h : Tr K w0 w p t F) (hw : t.WF m) {k a b : Int} {A : Option Addr} {ns : List ByteArray} {c : Nat} (hk : I64 k) (hs : SlS w (fun b => b < w.heap.size ∧ ¬ F b) A ns) (hl : ns.length ≤ 8796093022208) (hn : ∀ x ∈ ns, x.size ≤ maxLen) (hc : ns.length ≤ c) (hz : A = none → c = 0) (r : t.make k ns = ((a, b), t')) :
    Calls Tryz.prog 29 #[.pointer (some ⟨p, 0, none⟩), .int .i64 k, .slice A ns.length c] w fun e w' => ∃ F', e = .returned (.tuple #[.int .i64 a, .int .i64 b]) ∧ Tr K w0 w' p t' F' ∧ Chg F w w' ∧ Sub F F' w :=
  (K.make w p t F m k A ns c h.h hw hk hs hl hn hc hz).mono fun e w' ⟨F', he, h', c, s⟩ => by rw [r] at he h'; exact ⟨F', he, h.step h' c s, c, s⟩
theorem find_at (h : Tr K w0 w p t F) (hw : t.WF m) {k a : Int} {b : Bool} {A : Option Addr} {ns : List ByteArray} {c : Nat} (hk : I64 k) (hs : SlS w (· < w.heap.size) A ns) (hl : ns.length ≤ 8796093022208) (hn : ∀ x ∈ ns, x.size ≤ maxLen) (r : t.findI k ns = (a, b)) :
    Calls Tryz.prog 13 #[.pointer (some ⟨p, 0, none⟩), .int .i64 k, .slice A ns.length c] w fun e w' => e = .returned (.tuple #[.int .i64 a, .bool b]) ∧ Tr K w0 w' p t F ∧ Below w.heap.size w w' :=
  (K.find w p t F m k A ns c h.h hw hk hs hl hn).mono fun e w' ⟨he, hb⟩ => by rw [r] at he; exact ⟨he, h.below hb, hb⟩
theorem names_at (h : Tr K w0 w p t F) (hw : t.WF m) {s : Int} {ns : List ByteArray} (hs : I64 s) (r : t.namesI s = ns) :
    Calls Tryz.prog 23 #[.pointer (some ⟨p, 0, none⟩), .int .i64 s] w fun e w' => ∃ A c, e = .returned (.slice A ns.length c) ∧ (A = none → c = 0) ∧ SlS w' (fun b => b < w'.heap.size ∧ ¬ F b) A ns ∧ Tr K w0 w' p t F ∧ Below w.heap.size w w' :=
  (K.names w p t F m s h.h hw hs).mono fun e w' ⟨v, he, ho, hb⟩ => by
    rw [r] at ho
    obtain ⟨A, c, rfl, h0, hs⟩ := ho.form
    exact ⟨A, c, he, h0, hs.keep fun b hb => ⟨⟨hb.2, fun e => by have := K.lt h.h b e; omega⟩, rfl⟩, h.below hb, hb⟩
theorem names_lo_at (h : Tr K w0 w p t F) (hw : t.WF m) {s : Int} {ns : List ByteArray} (hs : I64 s) (r : t.namesI s = ns) :
    Calls Tryz.prog 23 #[.pointer (some ⟨p, 0, none⟩), .int .i64 s] w fun e w' => ∃ A c, e = .returned (.slice A ns.length c) ∧ (A = none → c = 0) ∧ SlS w' (fun b => w.heap.size ≤ b ∧ b < w'.heap.size) A ns ∧ Tr K w0 w' p t F ∧ Below w.heap.size w w' :=
  (K.names w p t F m s h.h hw hs).mono fun e w' ⟨v, he, ho, hb⟩ => by
    rw [r] at ho
    obtain ⟨A, c, rfl, h0, hs⟩ := ho.form
    exact ⟨A, c, he, h0, hs, h.below hb, hb⟩
theorem Tr.turned2 {row : Option Nat} (h : Tr K w0 w p t F) (hg : w.grownBy w' row) (hr : ∀ b, row = some b → ¬ F b ∧ w0.heap.size ≤ b) : Tr K w0 w' p t F :=
  ⟨K.keep h.h fun x hx => hg.block x (K.lt h.h x hx) (fun e => (hr x e.symm).1 hx), h.b.grown hg h.b.size (fun k hk => (hr k hk).2), h.f, h.v⟩
theorem names_own_at (h : Tr K w0 w p t F) (hw : t.WF m) {s : Int} {ns : List ByteArray} (hs : I64 s) (r : t.namesI s = ns) :
    Calls Tryz.prog 23 #[.pointer (some ⟨p, 0, none⟩), .int .i64 s] w fun e w' => ∃ v, e = .returned v ∧ OwnS w' w.heap.size v ns ∧ Tr K w0 w' p t F ∧ Below w.heap.size w w' :=
  (K.names w p t F m s h.h hw hs).mono fun e w' ⟨v, he, ho, hb⟩ => by
    rw [r] at ho
    exact ⟨v, he, ho, h.below hb, hb⟩
theorem slot_at (h : Tr K w0 w p t F) (hw : t.WF m) {s a : Int} {b : Bool} {nm : ByteArray} (hs : I64 s) (hn : nm.size ≤ maxLen) (r : slotL (t.namesI s) nm = (a, b)) :
    Calls Tryz.prog 10 #[.pointer (some ⟨p, 0, none⟩), .int .i64 s, .string nm] w fun e w' => e = .returned (.tuple #[.int .i64 a, .bool b]) ∧ Tr K w0 w' p t F ∧ Below w.heap.size w w' :=
  (K.slot w p t F m s nm h.h hw hs hn).mono fun e w' ⟨he, hb⟩ => by rw [r] at he; exact ⟨he, h.below hb, hb⟩
theorem cls_at (h : Tr K w0 w p t F) (hw : t.WF m) {s a : Int} (hs : I64 s) (r : t.clsI s = a) :
    Calls Tryz.prog 18 #[.pointer (some ⟨p, 0, none⟩), .int .i64 s] w fun e w' => e = .returned (.int .i64 a) ∧ Tr K w0 w' p t F ∧ Below w.heap.size w w' :=
  (K.cls w p t F m s h.h hw hs).mono fun e w' ⟨he, hb⟩ => by rw [r] at he; exact ⟨he, h.below hb, hb⟩
theorem canon_at (h : Tr K w0 w p t F) (hw : t.WF m) {s a : Int} (hs : I64 s) (r : t.canonI s = a) :
    Calls Tryz.prog 16 #[.pointer (some ⟨p, 0, none⟩), .int .i64 s] w fun e w' => e = .returned (.int .i64 a) ∧ Tr K w0 w' p t F ∧ Below w.heap.size w w' :=
  (K.canon w p t F m s h.h hw hs).mono fun e w' ⟨he, hb⟩ => by rw [r] at he; exact ⟨he, h.below hb, hb⟩
theorem root_at (h : Tr K w0 w p t F) (hw : t.WF m) {k a : Int} (hk : I64 k) (r : t.rootI k = a) :
    Calls Tryz.prog 20 #[.pointer (some ⟨p, 0, none⟩), .int .i64 k] w fun e w' => e = .returned (.int .i64 a) ∧ Tr K w0 w' p t F ∧ Below w.heap.size w w' :=
  (K.root w p t F m k h.h hw hk).mono fun e w' ⟨he, hb⟩ => by rw [r] at he; exact ⟨he, h.below hb, hb⟩
theorem count_at (h : Tr K w0 w p t F) (hw : t.WF m) {n : Nat} (r : t.L.length = n) :
    Calls Tryz.prog 31 #[.pointer (some ⟨p, 0, none⟩)] w fun e w' => e = .returned (.int .i64 n) ∧ Tr K w0 w' p t F ∧ Below w.heap.size w w' :=
  (K.count w p t F m h.h hw).mono fun e w' ⟨he, hb⟩ => by rw [r] at he; exact ⟨he, h.below hb, hb⟩
theorem text_at (h : Tr K w0 w p t F) (hw : t.WF m) (h0 : t.L ≠ []) (hq : ∀ s, ∀ x ∈ (t.sh s).names, x.size ≤ 1) {s : ByteArray} (r : t.text = s.data.toList) :
    Calls Tryz.prog 28 #[.pointer (some ⟨p, 0, none⟩)] w fun e w' => e = .returned (.string s) ∧ Tr K w0 w' p t F ∧ Below w.heap.size w w' :=
  (K.text w p t F m h.h (K.vkeep h.v h.b) hw h0 hq).mono fun e w' ⟨he, hb⟩ => by rw [r] at he; exact ⟨he, h.below hb, hb⟩
/-- What was made outside of the tree stays as it was. -/
theorem SlS.chg {A : Option Addr} {ns : List ByteArray} {w w' : World} {F F' : Nat → Prop} (h : SlS w (fun b => b < w.heap.size ∧ ¬ F b) A ns) (c : Chg F w w') (s : Sub F F' w) : SlS w' (fun b => b < w'.heap.size ∧ ¬ F' b) A ns :=
  h.keep fun b hb => ⟨⟨Nat.lt_of_lt_of_le hb.1 c.size, fun e => (s b e).elim hb.2 (by have := hb.1; omega)⟩, c.block b hb.1 hb.2⟩
theorem SlS.low {A : Option Addr} {ns : List ByteArray} {w w' : World} {F : Nat → Prop} (h : SlS w (fun b => b < w.heap.size ∧ ¬ F b) A ns) (hb : Below w.heap.size w w') : SlS w' (fun b => b < w'.heap.size ∧ ¬ F b) A ns :=
  h.keep fun b hb' => ⟨⟨Nat.lt_of_lt_of_le hb'.1 hb.size, hb'.2⟩, hb.block b hb'.1⟩
theorem SlS.of_old {A : Option Addr} {ns : List ByteArray} {B : Nat} {w : World} {F : Nat → Prop} (h : SlS w (· < B) A ns) (hB : B ≤ w.heap.size) (hF : ∀ b, F b → B ≤ b) : SlS w (fun b => b < w.heap.size ∧ ¬ F b) A ns :=
  h.keep fun b hb => ⟨⟨Nat.lt_of_lt_of_le hb hB, fun e => by have := hF b e; omega⟩, rfl⟩
end
end Go.Proofs.YtjodmjadpooipaaGreatDoor.Sh
