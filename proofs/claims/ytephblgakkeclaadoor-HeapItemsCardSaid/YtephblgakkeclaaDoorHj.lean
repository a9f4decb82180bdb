/-
  Contract of add.
-/
import Derived.Test.YtephblgakkeclaaDoorHi
import Derived.Maps.OwnOps
namespace Go.Proofs.YtephblgakkeclaaDoor.Hp
open Go Go.RowKit Go.Maps Va

set_option maxHeartbeats 1000000 in
theorem add_any (F P : Nat → Prop) (p mb : Nat) (f : Int → Hd) (l : List Ent) (next id : Int) (c : Cel) (A B : Option Addr) (n nc m ic : Nat) (w : World) (h : HeapA w F p (some mb) f l next) (hF : ∀ g, F g → g < w.heap.size) (hid : I64 id) (hlast : ∀ e ∈ l, e.1 < id) (hlen : l.length ≤ 100000)
    (hn : c.names.length = n) (hm : c.items.length = m) (hS : SlS w P A c.names) (hV : ValsAt w P B c.items) (hP : ∀ b, P b → b < w.heap.size) (hn' : n ≤ 4398046511104) (hm' : m ≤ 4398046511104) :
    Calls Tryd.prog 24 #[.pointer (some ⟨p, 0, none⟩), .int .i64 id, celV c (.slice A n nc) (.slice B m ic)] w fun e w' => e = .returned (.tuple #[]) ∧ Hid (∃ f', HeapA w' (New F w.heap.size w'.heap.size) p (some mb) f' (l ++ [(id, c)]) next ∧ (∀ i ∈ ids l, f' i = f i) ∧ Frm F w w') := by
  have H := Lib.hid h
  have DU := Lib.hid (fun (o : Obj) => dup_any P c A B n nc m ic (w.alloc o) hn hm (hS.low hP ((Below.refl _ w).alloc (Nat.le_refl _) o)) (hV.low hP ((Below.refl _ w).alloc (Nat.le_refl _) o)) (fun b hb => by have := hP b hb; simp; omega) hn' hm')
  clear h hS hV hP
  obtain ⟨kind, cls, fn, ten, names, items⟩ := c
  unfold celV at DU ⊢
  simp only at DU hn hm ⊢
  go_enter Tryd.func24, Tryd.ntmps24
  go_wp2_with fail
  refine (DU.out _).mono ?_
  rintro e w2 ⟨D, d, E, e', rfl, hh⟩
  have HB := Lib.hid (((Below.refl _ w).alloc (Nat.le_refl _) _).trans (hh.out.2.mono (by simp)))
  have H2 := Lib.hid (H.out.low hF HB.out)
  have OC := Lib.hid hh.out.1
  have S1 := hh.out.2.size
  simp only [World.size_alloc] at S1
  clear hh DU
  have p0 := H2.out.top.cell 0 (.map (some mb)) rfl
  have pl := H2.out.top.lt
  have hm0 := H2.out.map
  rcases hm0 with ⟨h', _⟩ | ⟨b, D0, hb, hFb, ho, hD⟩
  · cases h'
  obtain rfl : mb = b := Option.some.inj hb
  have HO := Lib.hid (ho.alloc (.cells #[.int .i64 kind, .int .i64 cls, .int .i64 fn, .int .i64 ten, .slice D n d, .slice E m e'] 33))
  have HD := Lib.hid hD
  have HM := Lib.hid (own_isMap ho)
  have HT := Lib.hid (ho.tidy intLaw)
  have HFB := Lib.hid hFb
  clear hb ho hD hFb
  have hk := key_int hid
  go_wp2_with (at_mapUpdate; refine wpList_mapUpdate_own _ rfl _ _ _ 54 rfl 3 62 intLaw Tryd.underlying54 ptrElem mb l.length D0 rfl HO.out (by unfold maxLen; omega) (.int .i64 id) (.pointer (some ⟨w2.heap.size, 0, none⟩)) (.int .i64 id) rfl rfl hk (.lit (.int .i64 w2.heap.size)) [] rfl ?_)
  intro w4 hmap hgrow
  have RES := Lib.hid (show ∃ f', HeapA w4 (New F w.heap.size w4.heap.size) p (some mb) f' (l ++ [(id, ⟨kind, cls, fn, ten, names, items⟩)]) next ∧ (∀ i ∈ ids l, f' i = f i) ∧ Frm F w w4 by
    obtain ⟨M, hO⟩ := OC.out
    exact add_result H2.out hF hid hlast HB.out (by simp) hO HFB.out HT.out HD.out hmap HM.out hgrow)
  clear hmap hgrow
  go_wp2_with fail
  go_end0
  exact ⟨rfl, RES⟩
end Go.Proofs.YtephblgakkeclaaDoor.Hp
