/-
  The reference's Add.
-/
import Derived.Test.YtjodmjadpooipaaGreatDoorTh
import Derived.Test.YtjodmjadpooipaaGreatDoorUf
import Derived.Test.YtjodmjadpooipaaGreatDoorUd
import Derived.Maps.AppendAt
import Derived.Deep.RegionLaw
import Derived.Deep.RegionHeld3
import Derived.Deep.DeepCutAuto
import Derived.Deep.CutBlock
namespace Go.Proofs.YtjodmjadpooipaaGreatDoor.Sh
open Go Go.RowKit

theorem Links.form {w : World} {v : Value} {l : List (ByteArray × Nat)} (h : Links w v l) :
    ∃ A c, v = .slice A l.length c ∧ l.length ≤ c ∧ (A = none → c = 0) ∧ ∀ j q, l[j]? = some q → ∃ g, A = some ⟨g, 0, none⟩ ∧ w.cell? ⟨g, j * 2, none⟩ = some (.string q.1) ∧ w.cell? ⟨g, j * 2 + 1, none⟩ = some (.int .i64 q.2) := by
  obtain ⟨xs, o, hx⟩ := h
  rcases o.2 with ⟨rfl, h0⟩ | ⟨g, cap, cur, rfl, _, _, hnc, _⟩
  · exact ⟨none, 0, by rw [h0], by omega, fun _ => rfl, fun j q hq => by have := (List.getElem?_eq_some_iff.1 hq).1; omega⟩
  · refine ⟨_, _, rfl, hnc, (fun e => by cases e), fun j q hq => ⟨g, rfl, ?_, ?_⟩⟩
    · have hj := (List.getElem?_eq_some_iff.1 hq).1
      rw [World.ownsRow.cellAt o (j * 2) (by omega)]; exact (hx j q hq).1
    · have hj := (List.getElem?_eq_some_iff.1 hq).1
      rw [World.ownsRow.cellAt o (j * 2 + 1) (by omega)]; exact (hx j q hq).2
/-- Is the transition at this place the one that is looked for? -/
def Sel (f : Bool) (l : List (ByteArray × Nat)) (j : Nat) (nm : ByteArray) : Prop := (f = true → ∃ q, l[j]? = some q ∧ q.1 = nm) ∧ (f = false → ∀ q, l[j]? = some q → q.1 ≠ nm)
theorem infoLk : (Tryz.prog.info? 97).map (fun i => (i.zero, i.size, i.bytes)) = some (some (.agg #[.string ⟨#[]⟩, .int .i64 0]), 2, 24) := by kernel_rfl
theorem lit_own (w : World) (cs : Array Value) (e : TypeId) (n size : Nat) (hm : n ≤ maxLen) (hs : cs.size = n * size) : (w.alloc (.cells cs e)).ownsRow w.heap.size e size (.slice (some ⟨w.heap.size, 0, none⟩) n n) n cs.toList := World.ownsRow_lit w cs n (Nat.le_refl _) hm hs
theorem add_hit {t : Tre} {s c : Nat} {nm : ByteArray} {a : Nat} (hs : s < t.L.length) (h0 : nm.size ≠ 0) (hn : nm ∉ (t.sh s).names) (hc : t.canon s = c) (hl : lookL nm (t.sh c).links = some a) : t.add s nm = (((t.canon a : Int), 0), t) := by
  unfold Tre.add
  rw [if_neg (by rw [there_nat hs]; decide), if_neg (by rw [namesI_nat hs]; rintro (e | e); exact h0 e; exact hn e), show (s : Int).toNat = s from rfl, hc, hl]
theorem add_miss {t : Tre} {s c : Nat} {nm : ByteArray} (hs : s < t.L.length) (h0 : nm.size ≠ 0) (hn : nm ∉ (t.sh s).names) (hc : t.canon s = c) (hl : lookL nm (t.sh c).links = none) :
    t.add s nm = if 64 ≤ (t.sh s).names.length ∨ 200 ≤ t.L.length then ((0, 2), t) else (((t.L.length : Int), 0), t.grow c nm) := by
  unfold Tre.add
  rw [if_neg (by rw [there_nat hs]; decide), if_neg (by rw [namesI_nat hs]; rintro (e | e); exact h0 e; exact hn e), show (s : Int).toNat = s from rfl, hc, hl, namesI_nat hs]
theorem RefTo.below {w w' : World} {p : Nat} {t : Tre} {F : Nat → Prop} {v : Value} (h : RefH w' p t F) (hb : Below w.heap.size w w') : RefTo w p F t v (.returned v) w' := ⟨F, rfl, h, Chg.of_below hb, fun _ h => .inl h⟩
theorem own_low {w : World} {base : Nat} {e : TypeId} {size n : Nat} {v : Value} {xs : List Value} (h : w.ownsRow base e size v n xs) : w.ownsRow 0 e size v n xs :=
  ⟨h.1, h.2.imp_right fun ⟨g, cap, cur, e, _, r⟩ => ⟨g, cap, cur, e, Nat.zero_le _, r⟩⟩
theorem link_one (nm : ByteArray) (n : Nat) (l : List (ByteArray × Nat)) : ∀ u ∈ [Value.string nm, .int .i64 (n : Int)] ++ flatL l, u.oneCell' = true := by
  intro u hu
  rcases List.mem_append.1 hu with h | h
  · simp at h; rcases h with rfl | rfl <;> rfl
  · exact flatL_one _ u h
theorem ins_links {w : World} {base g c N k j : Nat} {nm : ByteArray} {l : List (ByteArray × Nat)} {xs : List Value} (hP : Place nm l j)
    (o : w.ownsRow base 97 2 (.slice (some ⟨g, 0, none⟩) N c) N xs) (hx : xs = flatL (l.take j) ++ ([.string nm, .int .i64 (k : Int)] ++ flatL (l.drop j))) (hN : N = l.length + 1) : Links w (.slice (some ⟨g, 0, none⟩) N c) (insL nm k l) := by
  have e : (insL nm k l).length = N := by rw [ins_len, hN]
  subst e
  exact links_of (own_low o) (by rw [hx, hP.ins, flatL_app])
theorem news_take {w w' : World} {ad : Addr} {l : List (ByteArray × Nat)} (HC : ∀ j q, l[j]? = some q → ∃ g', (some ad : Option Addr) = some ⟨g', 0, none⟩ ∧ w.cell? ⟨g', j * 2, none⟩ = some (.string q.1) ∧ w.cell? ⟨g', j * 2 + 1, none⟩ = some (.int .i64 q.2))
    (hk : ∀ b, b < w.heap.size → w'.heap[b]? = w.heap[b]?) (j : Nat) : ∀ i u, (flatL (l.take j))[i]? = some u → w'.cell? (ad.add i) = some u := by
  intro i u hu
  cases hl : l with
  | nil => rw [hl, List.take_nil] at hu; cases hu
  | cons q l' =>
    obtain ⟨g, e, h0, _⟩ := HC 0 q (by rw [hl]; rfl)
    injection e with e
    subst e
    have gk : g < w.heap.size := by
      rcases Nat.lt_or_ge g w.heap.size with h1 | h1
      · exact h1
      · unfold World.cell? at h0; rw [Array.getElem?_eq_none h1] at h0; simp at h0
    exact links_news_take HC (fun k v hv => (World.cell?_of_block (hk g gk)).trans hv) j i u hu
theorem own_base {w : World} {base base' : Nat} {e : TypeId} {size n : Nat} {v : Value} {xs : List Value} (h : w.ownsRow base' e size v n xs) (hb : base ≤ base') : w.ownsRow base e size v n xs :=
  ⟨h.1, h.2.imp_right fun ⟨g, cap, cur, e, hg, r⟩ => ⟨g, cap, cur, e, Nat.le_trans hb hg, r⟩⟩
theorem Bk.al {w : World} {b : Nat} {c : Array Value} {T : TypeId} (h : Bk w b c T) (o : Obj) : Bk (w.alloc o) b c T := by
  have := h.lt
  unfold Bk at h ⊢
  rw [Below.heap_alloc _ _ _ this]; exact h
theorem news_str {w w' : World} {ad : Addr} {ns : List ByteArray} (h : SlS w (· < w.heap.size) (some ad) ns) (hk : ∀ b, b < w.heap.size → w'.heap[b]? = w.heap[b]?) : ∀ j u, (ns.map Value.string)[j]? = some u → w'.cell? (ad.add j) = some u := by
  intro j u hj
  rw [List.getElem?_map, Option.map_eq_some_iff] at hj
  obtain ⟨z, hz, rfl⟩ := hj
  obtain ⟨ad', e, hb, hc⟩ := h j z hz
  injection e with e
  subst e
  exact (World.cell?_of_block (hk _ (by rw [blk_add]; exact hb))).trans hc
theorem made_names' {w : World} {base g c N : Nat} {ns : List ByteArray} {xs : List Value} (h : w.ownsRow base 9 1 (.slice (some ⟨g, 0, none⟩) N c) N xs) (hx : xs = ns.map Value.string) :
    SlS w (fun b => (base ≤ b ∧ b < w.heap.size) ∧ isStr w b) (some ⟨g, 0, none⟩) ns := by
  have hg := h.lt g (by simp [Value.ownBlock])
  have hs : isStr w g := by
    rcases h.2 with ⟨h', _⟩ | ⟨g', cap', cur, h', _, hh, _⟩
    · simp at h'
    · simp only [Value.slice.injEq, Option.some.injEq, Addr.mk.injEq, and_true, true_and] at h'
      obtain ⟨rfl, _⟩ := h'
      exact ⟨_, hh⟩
  intro j x hj
  refine ⟨_, rfl, ⟨hg, hs⟩, ?_⟩
  exact h.cells (g := g) (by simp [Value.ownBlock]) j _ (by rw [hx, List.getElem?_map, hj]; rfl)
theorem lit_first (w : World) (o : Obj) (cs : Array Value) (T : TypeId) : ((w.alloc (.cells cs T)).alloc o).heap[w.heap.size]? = (w.alloc (.cells cs T)).heap[w.heap.size]? := Below.heap_alloc _ _ _ (by simp)
theorem made_second (w : World) (o : Obj) (e : TypeId) : ((w.alloc o).alloc (.cells #[] e)).ownsRow w.heap.size e 1 (.slice (some ⟨w.heap.size + 1, 0, none⟩) 0 0) 0 [] := by
  have h := World.ownsRow_made (e := e) (size := 1) (w.alloc o) #[] 0 (Nat.le_refl _) (Nat.zero_le _) (by simp)
  rw [World.size_alloc] at h
  exact own_base h (by omega)
theorem lit_second (w : World) (o : Obj) (cs : Array Value) (T : TypeId) : ∀ j u, cs.toList[j]? = some u → ((w.alloc o).alloc (.cells cs T)).cell? ((⟨w.heap.size + 1, 0, none⟩ : Addr).add j) = some u := by
  have := World.news_of_block (w := (w.alloc o).alloc (.cells cs T)) (B := w.heap.size + 1) (cs := cs) (t := T) (fr := (0, 0)) (by have := heap_alloc_new (w.alloc o) (.cells cs T); rw [World.size_alloc] at this; exact this)
  exact this
theorem lit_one (w : World) (o : Obj) (cs : Array Value) (T : TypeId) : ∀ j u, cs.toList[j]? = some u → ((w.alloc (.cells cs T)).alloc o).cell? ((⟨w.heap.size, 0, none⟩ : Addr).add j) = some u := by
  have h : ((w.alloc (.cells cs T)).alloc o).heap[w.heap.size]? = (w.alloc (.cells cs T)).heap[w.heap.size]? := Below.heap_alloc _ _ _ (by simp)
  exact World.news_of_block (w := (w.alloc (.cells cs T)).alloc o) (B := w.heap.size) (cs := cs) (t := T) (fr := (0, 0)) (h.trans (heap_alloc_new w (.cells cs T)))
theorem news_grown {w w' : World} {b _a : Nat} {k : Option Nat} {cs : List Value} (h : w.grownBy w' k) (hb : b < w.heap.size) (hne : some b ≠ k) (hn : ∀ j u, cs[j]? = some u → w.cell? ((⟨b, 0, none⟩ : Addr).add j) = some u) : ∀ j u, cs[j]? = some u → w'.cell? ((⟨b, 0, none⟩ : Addr).add j) = some u :=
  fun j u hj => (World.cell?_of_block (by rw [blk_add]; exact h.block b hb hne)).trans (hn j u hj)
set_option maxRecDepth 100000 in
set_option maxHeartbeats 16000000 in
theorem ref_add (w : World) (p : Nat) (t : Tre) (F : Nat → Prop) (m : Nat) (s : Int) (nm : ByteArray) (h : RefH w p t F) (hw : t.WF m) (hsrt : Srt t) (h64 : ∀ s, (t.sh s).names.length ≤ 200) (hs : I64 s) (_hnm : nm.size ≤ maxLen) :
    Calls Tryz.prog 36 #[.pointer (some ⟨p, 0, none⟩), .int .i64 s, .string nm] w (RefTo w p F (t.add s nm).2 (mkV (t.add s nm).1)) := by
  have H := Lib.hid h
  have W := Lib.hid hw
  have SR := Lib.hid hsrt
  have H64 := Lib.hid h64
  have HS := Lib.hid hs
  obtain ⟨R, hR⟩ : ∃ R, t.add s nm = R := ⟨_, rfl⟩
  rw [hR]
  have few := hw.few
  cases hb : t.there s
  · have HR := Lib.hid (show R = ((0, 1), t) by rw [← hR]; unfold Tre.add; rw [if_pos hb])
    have HB := Lib.hid hb
    have G := Lib.hid (RefTo.same (v := mkV (0, 1)) H.out 0)
    clear h hw hsrt h64 hs hR hb
    go_enter Tryz.func36, Tryz.ntmps36
    go_wp2_with fail
    refine (ref_there _ p t F s H.out HS.out false HB.out).mono ?_
    rintro e w' ⟨rfl, rfl⟩
    go_wp2_with fail
    go_ret2
    rw [HR.out]; exact G.out
  · have HB := Lib.hid hb
    obtain ⟨s, rfl⟩ := Int.eq_ofNat_of_zero_le (there_iff.1 hb).1
    have sl : s < t.L.length := (there_iff.1 hb).2
    obtain ⟨ns, hns⟩ : ∃ ns, (t.sh s).names = ns := ⟨_, rfl⟩
    have NI := Lib.hid (show t.namesI (s : Int) = ns by rw [namesI_nat sl, hns])
    by_cases he : nm.size = 0
    · have HR := Lib.hid (show R = ((0, 13), t) by rw [← hR]; exact add_name sl (.inl he))
      have ht : nm.toList = [] := by rw [ByteArray.toList_eq]; exact List.eq_nil_of_length_eq_zero (by simpa using he)
      clear h hw hsrt h64 hs hR hb he
      go_enter Tryz.func36, Tryz.ntmps36
      go_wp2_with fail
      refine (ref_there _ p t F _ H.out HS.out true HB.out).mono ?_
      rintro e w' ⟨rfl, rfl⟩
      go_wp2_with fail
      refine (ref_slot _ p t F _ nm H.out HS.out H64.out).mono ?_
      rintro e w1 ⟨rfl, hb⟩
      have G := Lib.hid (RefTo.below (v := mkV (0, 13)) (H.out.below hb) hb)
      clear hb
      go_wp2_with fail
      go_ret2
      rw [HR.out]; exact G.out
    · have hte : nm.toList.isEmpty = false := by
        rw [ByteArray.toList_eq]; cases h : nm.data.toList with
        | nil => exact absurd (show nm.size = 0 by show nm.data.size = 0; rw [← Array.length_toList, h]; rfl) he
        | cons => rfl
      by_cases hm : nm ∈ ns
      · have HR := Lib.hid (show R = ((0, 13), t) by rw [← hR]; exact add_name sl (.inr (by rw [hns]; exact hm)))
        have RS := Lib.hid (slot_in (nm := nm) sl (by rw [hns]; exact hm))
        clear h hw hsrt h64 hs hR hb he hm
        go_enter Tryz.func36, Tryz.ntmps36
        go_wp2_with fail
        refine (ref_there _ p t F _ H.out HS.out true HB.out).mono ?_
        rintro e w' ⟨rfl, rfl⟩
        go_wp2_with fail
        refine (ref_slot _ p t F _ nm H.out HS.out H64.out).mono ?_
        rintro e w1 ⟨rfl, hb⟩
        rw [RS.out]
        have G := Lib.hid (RefTo.below (v := mkV (0, 13)) (H.out.below hb) hb)
        clear hb
        go_wp2_with fail
        go_ret2
        rw [HR.out]; exact G.out
      · obtain ⟨c, hc⟩ : ∃ c, t.canon s = c := ⟨_, rfl⟩
        have cl : c < t.L.length := by rw [← hc]; exact canon_lt hw sl
        have RS := Lib.hid (slot_out (nm := nm) sl (by rw [hns]; exact hm))
        have RC := Lib.hid (show t.canonI (s : Int) = (c : Int) by rw [canonI_nat sl, hc])
        have cn : (t.sh c).names = ns := by rw [← hc, canon_names hw, hns]
        have ck : (t.sh c).cls = (t.sh s).cls := by rw [← hc, canon_cls hw]
        have HIT := Lib.hid (fun a hl => hR.symm.trans (add_hit (a := a) sl he (by rw [hns]; exact hm) hc hl))
        have MISS := Lib.hid (fun hl => hR.symm.trans (add_miss sl he (by rw [hns]; exact hm) hc hl))
        rw [hns] at MISS
        have n64 := h64 s
        rw [hns] at n64
        have CN := Lib.hid cn
        clear h hw hsrt h64 hs hR hb he hm hns hc cn ck
        go_enter Tryz.func36, Tryz.ntmps36
        go_wp2_with fail
        refine (ref_there _ p t F _ H.out HS.out true HB.out).mono ?_
        rintro e w' ⟨rfl, rfl⟩
        go_wp2_with fail
        refine (ref_slot _ p t F _ nm H.out HS.out H64.out).mono ?_
        rintro e w1 ⟨rfl, hb⟩
        rw [RS.out]
        have B1 := Lib.hid hb
        obtain ⟨gL, cL, vR, hd, h1⟩ := H.out.below hb
        have H1 := Lib.hid h1
        clear hb h1
        go_wp2_with fail
        refine (ref_canon _ p t F m _ H1.out.refH W.out HS.out).mono ?_
        rintro e w' ⟨rfl, rfl⟩
        rw [RC.out]
        have hcap := H1.out.cap
        have c0 := H1.out.c0
        have r0 := H1.out.r0 cl
        have r1 := H1.out.r1 cl
        have r2 := H1.out.r2 cl
        have r3 := H1.out.r3 cl
        rw [CN.out] at r2
        have ci : (c : Int) < t.L.length := by omega
        obtain ⟨Al, kl, hlv, hlk, hnk, hcell⟩ := (H1.out.links c cl).form
        rw [hlv] at r3
        obtain ⟨l, hl⟩ : ∃ l, (t.sh c).links = l := ⟨_, rfl⟩
        have l200 : l.length ≤ 200 := by rw [← hl]; exact Nat.le_trans (SR.out.lim c) few
        have SL := Lib.hid (show SortedL l by rw [← hl]; exact SR.out.so c)
        rw [hl] at r3 hlk hcell HIT MISS
        obtain ⟨kc, hkc⟩ : ∃ kc, (t.sh c).cls = kc := ⟨_, rfl⟩
        rw [hkc] at r0
        have LI := Lib.hid (fun j (q : ByteArray × Nat) (hq : l[j]? = some q) => (W.out.li c q (by rw [hl]; exact List.mem_of_getElem? hq)).1)
        have HC := Lib.hid hcell
        have LV := Lib.hid hlv
        have LE := Lib.hid hl
        have KC := Lib.hid hkc
        have pl : p < w1.heap.size := H1.out.hp.lt
        have gl : gL < w1.heap.size := H1.out.lt gL H1.out.fL
        clear hcell hlv hl hkc
        go_upto_block 0 with fail
        have BX := Lib.hid (Bk.new w1 #[.int .i64 kc, .int .i64 (aliV (t.sh c)), .slice (some (hd c).nA) ns.length (hd c).nc, .slice Al l.length kl] 62)
        have B2 := Lib.hid (B1.out.trans (((Below.refl _ w1).alloc (Nat.le_refl _) (.cells #[.int .i64 kc, .int .i64 (aliV (t.sh c)), .slice (some (hd c).nA) ns.length (hd c).nc, .slice Al l.length kl] 62)).mono B1.out.size))
        have H2 := Lib.hid (show RefAt (w1.alloc (.cells #[.int .i64 kc, .int .i64 (aliV (t.sh c)), .slice (some (hd c).nA) ns.length (hd c).nc, .slice Al l.length kl] 62)) p t F gL cL vR hd from H1.out.keep fun b hb => Below.heap_alloc _ _ _ (H1.out.lt b hb))
        clear c0 r0 r1 r2 r3 HC pl gl
        obtain ⟨X, hX⟩ : ∃ X, w1.heap.size = X := ⟨_, rfl⟩
        rw [hX] at BX ⊢
        have XF := Lib.hid (show ¬ F X from fun e => by have := H1.out.lt X e; omega)
        generalize w1.alloc (.cells #[.int .i64 kc, .int .i64 (aliV (t.sh c)), .slice (some (hd c).nA) ns.length (hd c).nc, .slice Al l.length kl] 62) = w2 at *
        have hcell2 := (H2.out.links c cl)
        rw [LV.out, LE.out] at hcell2
        have HC := Lib.hid (show ∀ j q, l[j]? = some q → ∃ g, Al = some ⟨g, 0, none⟩ ∧ w2.cell? ⟨g, j * 2, none⟩ = some (.string q.1) ∧ w2.cell? ⟨g, j * 2 + 1, none⟩ = some (.int .i64 q.2) from by
          obtain ⟨A', c', e, _, _, h⟩ := hcell2.form
          injection e with e1 _ _
          subst e1
          exact h)
        clear hcell2 H1 B1
        have XL : X < w2.heap.size := BX.out.lt
        have b2 := BX.out.cell 2 (.slice (some (hd c).nA) ns.length (hd c).nc) rfl
        have b3 := BX.out.cell 3 (.slice Al l.length kl) rfl
        go_cut [12] (fun i wc => ∃ j : Nat, j ≤ l.length ∧ i = .int .i64 j ∧ Hid (Place nm l j) ∧ Hid (wc = w2))
        case first =>
          go_wp2_with fail
          go_loop [12] (fun i => ∃ j : Nat, j ≤ l.length ∧ i = .int .i64 j ∧ Hid (∀ i, i < j → ∀ q, l[i]? = some q → ltB q.1 nm = true)) (fun i => l.length - (intOf i).toNat)
          case atStart => exact ⟨0, by omega, rfl, Lib.hid (fun i hi => by omega)⟩
          case round =>
            obtain ⟨j, hj, rfl, hlt⟩ := hrel
            by_cases hjl : j < l.length
            · obtain ⟨q, hq⟩ : ∃ q, l[j]? = some q := ⟨_, List.getElem?_eq_getElem hjl⟩
              obtain ⟨g, rfl, q0, q1⟩ := HC.out j q hq
              have hji : (j : Int) < l.length := by omega
              have HQ := Lib.hid hq
              have hless := ltB_less q.1 nm
              cases hlb : ltB q.1 nm
              · rw [hlb] at hless
                have PL := Lib.hid (show Place nm l j from ⟨hlt.out, hj, fun q' hq' => by rw [HQ.out] at hq'; injection hq' with hq'; rw [← hq']; exact hlb⟩)
                clear hq hlb
                obtain ⟨qn, qt⟩ := q
                simp only at hless q0 q1
                go_wp2_with fail
                go_meet
                case rel => exact ⟨j, hj, rfl, PL, Lib.hid rfl⟩
              · rw [hlb] at hless
                have HN := Lib.hid (all_snoc (P := fun i => ∀ q, l[i]? = some q → ltB q.1 nm = true) hlt.out (fun q' hq' => by rw [HQ.out] at hq'; injection hq' with hq'; rw [← hq']; exact hlb))
                obtain ⟨qn, qt⟩ := q
                simp only at hless q0 q1
                clear hq hlb
                go_wp2
                go_round
                case rel => exact ⟨j + 1, by omega, by go_num, HN⟩
                case measure => simp [intOf]; omega
            · have hje : j = l.length := by omega
              have PL := Lib.hid (show Place nm l j from ⟨hlt.out, hj, fun q' hq' => by rw [hje, List.getElem?_eq_none (Nat.le_refl _)] at hq'; cases hq'⟩)
              have hji : ¬ (j : Int) < l.length := by omega
              clear hje
              go_wp2_with fail
              go_meet
              case rel => exact ⟨j, hj, rfl, PL, Lib.hid rfl⟩
        case rest =>
          obtain ⟨j, hj, rfl, PL, hwc⟩ := hcut
          replace hwc := hwc.out
          subst wc
          go_upto_region 11 with fail
          go_cut [72] (fun b wc => ∃ f : Bool, b = .bool f ∧ Hid (wc = w2) ∧ Hid (Sel f l j nm))
          case first =>
            by_cases hjl : j < l.length
            · obtain ⟨q, hq⟩ : ∃ q, l[j]? = some q := ⟨_, List.getElem?_eq_getElem hjl⟩
              obtain ⟨g, rfl, q0, q1⟩ := HC.out j q hq
              have hji : (j : Int) < l.length := by omega
              have HQ := Lib.hid hq
              clear hq
              obtain ⟨qn, qt⟩ := q
              simp only at q0 q1
              by_cases hqe : qn = nm
              · have heq : (qn.toList == nm.toList) = true := by rw [hqe]; simp
                have HT := Lib.hid (show Sel true l j nm from ⟨fun _ => ⟨_, HQ.out, hqe⟩, (fun e => by cases e)⟩)
                clear hqe
                go_wp2_with fail
                go_meet
                case rel => exact ⟨true, rfl, Lib.hid rfl, HT⟩
              · have heq : (qn.toList == nm.toList) = false := by
                  rw [beq_eq_false_iff_ne]
                  exact fun e => hqe (WideShapes.bytes_inj (by rwa [ByteArray.toList_eq, ByteArray.toList_eq] at e))
                have HT := Lib.hid (show Sel false l j nm from ⟨(fun e => by cases e), fun _ q hq => by rw [HQ.out] at hq; injection hq with hq; subst hq; exact hqe⟩)
                clear hqe
                go_wp2_with fail
                go_meet
                case rel => exact ⟨false, rfl, Lib.hid rfl, HT⟩
            · have hji : ¬ (j : Int) < l.length := by omega
              have HT := Lib.hid (show Sel false l j nm from ⟨(fun e => by cases e), fun _ q hq => by rw [List.getElem?_eq_none (by omega)] at hq; cases hq⟩)
              go_wp2_with fail
              go_meet
              case rel => exact ⟨false, rfl, Lib.hid rfl, HT⟩
          case rest =>
            obtain ⟨f, rfl, hwc, HT⟩ := hcut
            replace hwc := hwc.out
            subst wc
            cases f with
            | true =>
              obtain ⟨q, hq, hqe⟩ := HT.out.1 rfl
              obtain ⟨g, rfl, q0, q1⟩ := HC.out j q hq
              have hji : (j : Int) < l.length := by have := (List.getElem?_eq_some_iff.1 hq).1; omega
              have HR := Lib.hid (HIT.out q.2 (PL.out.hit hq hqe))
              have TL := LI.out j q hq
              have TI := Lib.hid (nat64 TL few)
              have TC := Lib.hid (canonI_nat TL)
              have G := Lib.hid (RefTo.below (v := mkV ((t.canon q.2 : Int), 0)) H2.out.refH B2.out)
              clear hq hqe HT
              obtain ⟨qn, qt⟩ := q
              simp only at q0 q1 TI TC TL HR
              go_wp2_with fail
              refine (ref_canon _ p t F m _ H2.out.refH W.out TI.out).mono ?_
              rintro e w' ⟨rfl, rfl⟩
              rw [TC.out]
              go_wp2_with fail
              go_ret2
              rw [HR.out]; exact G.out
            | false =>
              have LN := Lib.hid (PL.out.miss SL.out (HT.out.2 rfl))
              have MK := Lib.hid (MISS.out LN.out)
              have d0 := H2.out.c0
              clear HT HIT MISS
              by_cases hfull : 64 ≤ ns.length ∨ 200 ≤ t.L.length
              · have HR := Lib.hid (MK.out.trans (if_pos hfull))
                have G := Lib.hid (RefTo.below (v := mkV (0, 2)) H2.out.refH B2.out)
                by_cases h64 : 64 ≤ ns.length
                · clear hfull
                  go_wp2_with fail
                  go_ret2
                  rw [HR.out]; exact G.out
                · have h200 : 200 ≤ t.L.length := by omega
                  clear hfull
                  go_wp2_with fail
                  go_ret2
                  rw [HR.out]; exact G.out
              · have HR := Lib.hid (MK.out.trans (if_neg hfull))
                have h64 : ¬ 64 ≤ ns.length := fun e => hfull (.inl e)
                have h200 : ¬ 200 ≤ t.L.length := fun e => hfull (.inr e)
                have pl : p < w2.heap.size := H2.out.hp.lt
                have gl : gL < w2.heap.size := H2.out.lt gL H2.out.fL
                clear hfull
                obtain ⟨iL, hiL, hl0, hl1, hl2⟩ := info_parts infoLk
                go_upto_region 16 with fail
                go_cut [14] (fun s wc => ∃ gr cr M, s = .slice (some ⟨gr, 0, none⟩) M cr ∧ M + j = l.length + 1 ∧ Hid (Below w2.heap.size w2 wc) ∧ Hid (wc.ownsRow w2.heap.size 97 2 (.slice (some ⟨gr, 0, none⟩) M cr) M ([.string nm, .int .i64 (t.L.length : Int)] ++ flatL (l.drop j))))
                case first =>
                  by_cases hjl : j < l.length
                  · obtain ⟨q, hq⟩ : ∃ q, l[j]? = some q := ⟨_, List.getElem?_eq_getElem hjl⟩
                    obtain ⟨g, rfl, h0, _⟩ := HC.out j q hq
                    have hkl : ¬ kl = j := by omega
                    have gk : g < w2.heap.size := by
                      rcases Nat.lt_or_ge g w2.heap.size with h1 | h1
                      · exact h1
                      · unfold World.cell? at h0; rw [Array.getElem?_eq_none h1] at h0; simp at h0
                    clear hq h0
                    go_wp2_with (at_builtin; refine wpList_append_own_at _ rfl _ _ 60 rfl w2.heap.size 97 iL (.agg #[.string ⟨#[]⟩, .int .i64 0]) 2 24 Tryz.underlying60 hiL hl0 hl1 hl2 rfl (by decide) _ _ _ rfl (lit_own w2 #[.string nm, .int .i64 (t.L.length : Int)] 97 1 2 (by unfold maxLen; decide) rfl) ⟨g, j * 2, none⟩ (l.length - j) (kl - j) (flatL (l.drop j)) rfl ?qa1 ?qa2 ?qa3 ?qa4 ?qa5 ?qa6 ?_)
                    case qa1 => rw [flatL_len, List.length_drop]
                    case qa2 => exact links_news HC.out (fun k v hv => (World.cell?_alloc_lt _ _ _ gk).trans hv) j
                    case qa3 => exact flatL_one _
                    case qa4 => unfold maxLen; omega
                    case qa5 => omega
                    case qa6 => simp
                    intro vr w3 hown hgrow _ _
                    obtain ⟨gr, cr, rfl, hgb, hgl⟩ := World.ownsRow.form hown (by omega)
                    have B3 := Lib.hid (show Below w2.heap.size w2 w3 from ((Below.refl _ w2).alloc (Nat.le_refl _) _).grown hgrow (by simp) (by intro k hk; simp [Value.ownBlock] at hk; omega))
                    have OR := Lib.hid hown
                    clear hown hgrow hgb hgl
                    go_wp2_with fail
                    go_meet
                    case rel => exact ⟨gr, cr, _, rfl, by omega, B3, OR⟩
                  · have hd0 : flatL (l.drop j) = [] := by rw [List.drop_eq_nil_of_le (by omega)]; rfl
                    rcases Al with _ | ad
                    · have hk0 : kl = 0 := hnk rfl
                      have LO := Lib.hid (lit_own w2 #[.string nm, .int .i64 (t.L.length : Int)] 97 1 2 (by unfold maxLen; decide) rfl)
                      obtain rfl : j = 0 := by omega
                      go_wp2_with fail
                      go_meet
                      case rel =>
                        rw [hd0, show l.length = 0 by omega]
                        exact ⟨w2.heap.size, 1, 1, rfl, by omega, Lib.hid ((Below.refl _ w2).alloc (Nat.le_refl _) _), LO⟩
                    · by_cases hkl : kl = j
                      all_goals
                        go_wp2_with (at_builtin; refine wpList_append_own_at _ rfl _ _ 60 rfl w2.heap.size 97 iL (.agg #[.string ⟨#[]⟩, .int .i64 0]) 2 24 Tryz.underlying60 hiL hl0 hl1 hl2 rfl (by decide) _ _ _ rfl (lit_own w2 #[.string nm, .int .i64 (t.L.length : Int)] 97 1 2 (by unfold maxLen; decide) rfl) _ (l.length - j) _ [] rfl (by rw [show l.length - j = 0 by omega]; rfl) (fun i u h => by cases h) (fun u h => by cases h) (by unfold maxLen; omega) (by omega) (by simp) ?_)
                        intro vr w3 hown hgrow _ _
                        obtain ⟨gr, cr, rfl, hgb, hgl⟩ := World.ownsRow.form hown (by omega)
                        have B3 := Lib.hid (show Below w2.heap.size w2 w3 from ((Below.refl _ w2).alloc (Nat.le_refl _) _).grown hgrow (by simp) (by intro k hk; simp [Value.ownBlock] at hk; omega))
                        rw [← hd0] at hown
                        have OR := Lib.hid hown
                        clear hown hgrow hgb hgl
                        go_wp2_with fail
                        go_meet
                        case' rel => exact ⟨gr, cr, _, rfl, by omega, B3, OR⟩
                case rest =>
                  obtain ⟨gr, cr, M, rfl, hM, B3, OR⟩ := hcut
                  generalize wc = w3 at *
                  have H3 := Lib.hid (show RefAt w3 p t F gL cL vR hd from H2.out.keep fun b hb => B3.out.block b (H2.out.lt b hb))
                  have B23 := Lib.hid (B2.out.trans (B3.out.mono B2.out.size))
                  have BX3 := Lib.hid (BX.out.below B3.out XL)
                  have d3 := H3.out.c0
                  have x0 := BX3.out.cell 0 (.int .i64 kc) rfl
                  have x2 := BX3.out.cell 2 (.slice (some (hd c).nA) ns.length (hd c).nc) rfl
                  have x3 := BX3.out.cell 3 (.slice Al l.length kl) rfl
                  have XL3 : X < w3.heap.size := BX3.out.lt
                  have pl3 : p < w3.heap.size := H3.out.hp.lt
                  have gl3 : gL < w3.heap.size := H3.out.lt gL H3.out.fL
                  have z3 := H3.out.r3 cl
                  have fz := ref_frozen H3.out (c * 4 + 3)
                  clear b2 b3 d0 pl gl XL
                  go_upto_region 17 with fail
                  go_cut [14] (fun s wc => ∃ F' hd', s = .slice (some ⟨gr, 0, none⟩) M cr ∧ Hid (RefAt wc p (t.relinked c (insL nm t.L.length l)) F' gL cL vR hd' ∧ (hd' c).nA = (hd c).nA ∧ (hd' c).nc = (hd c).nc) ∧ Hid (Chg F w wc) ∧ Hid (∀ b, F' b → F b ∨ w3.heap.size ≤ b) ∧ Hid (Bk wc X #[.int .i64 kc, .int .i64 (aliV (t.sh c)), .slice (some (hd c).nA) ns.length (hd c).nc, .slice Al l.length kl] 62))
                  case first =>
                    rw [LV.out, LE.out] at z3
                    have HC3 := HC.out
                    have grl := OR.out.lt gr (by simp [Value.ownBlock])
                    have pg : p ≠ gL := fun e => by
                      obtain ⟨xs, o, _⟩ := H3.out.rows
                      exact bk_ne o H3.out.hp (by decide) (by rw [e]; rfl)
                    have Xg : X ≠ gL := fun e => XF.out (by rw [e]; exact H3.out.fL)
                    have hjk : (j : Int) ≤ kl := by omega
                    have hj0 : (0 : Int) ≤ j := by omega
                    have KP : ∀ o : Obj, (w3.drew.alloc o).cell? ⟨p, 0, none⟩ = some (.slice (some ⟨gL, 0, none⟩) t.L.length cL) ∧ (w3.drew.alloc o).cell? ⟨X, 3, none⟩ = some (.slice Al l.length kl) := fun o => ⟨(World.cell?_alloc_lt _ _ _ pl3).trans d3, (World.cell?_alloc_lt _ _ _ XL3).trans x3⟩
                    rcases Al with _ | ad
                    · have hk0 : kl = 0 := hnk rfl
                      have j0 : j = 0 := by omega
                      subst j0
                      have htn : flatL (l.take 0) = [] := by rw [List.length_eq_zero_iff.1 (show l.length = 0 by omega), List.take_nil]; rfl
                      have ORn := Lib.hid (own_keep OR.out (w' := w3.drew.alloc (.cells #[] 97)) fun b hb => Below.heap_alloc _ _ _ (by simp [Value.ownBlock] at hb; subst hb; exact grl.2))
                      have el : l.length = 0 := by omega
                      rw [el, hk0] at x3 KP
                      go_region_held3 (fun w' => w'.cell? ⟨p, 0, none⟩ = some (.slice (some ⟨gL, 0, none⟩) t.L.length cL) ∧ w'.cell? ⟨X, 3, none⟩ = some (.slice none 0 0)) (first | exact ⟨d3, x3⟩ | exact KP _ | exact KB.out | exact KD.out _) ((first
                        | (refine step_append_own (by rfl) _ _ _ (by rfl) w3.heap.size 97 iL (.agg #[.string ⟨#[]⟩, .int .i64 0]) 2 24 Tryz.underlying60 hiL hl0 hl1 hl2 rfl (by decide) (.slice (some ⟨w3.heap.size, 0, none⟩) 0 0) 0 [] (by rfl) (World.ownsRow_made w3 #[] 0 (Nat.le_refl _) (Nat.zero_le _) (by simp)) ⟨gr, 0, none⟩ M cr ([.string nm, .int .i64 (t.L.length : Int)] ++ flatL (l.drop 0)) (by rfl) (by rw [List.length_append, flatL_len, List.length_drop]; simp; omega) (fun i u hu => ORn.out.cells (g := gr) (by simp [Value.ownBlock]) i u hu) (link_one nm t.L.length _) (by unfold maxLen; omega) (by omega) (by simp) (by simp) ?_
                           intro gB cB w5 hown hgrow
                           rw [show 0 + M = 1 by omega] at hown ⊢
                           have B5 := Lib.hid (show Below w3.heap.size w3 w5 from ((Below.refl _ w3).alloc (Nat.le_refl _) (.cells #[] 97)).drew.grown hgrow (by simp) (by intro k hk; simp [Value.ownBlock] at hk; omega))
                           have LK := Lib.hid (ins_links (k := t.L.length) PL.out hown (by rw [List.nil_append, htn, List.nil_append]) (by omega))
                           have gBl := hown.lt gB (by simp [Value.ownBlock])
                           have H5 := Lib.hid (show RefAt w5 p t F gL cL vR hd from H3.out.keep fun b hb => B5.out.block b (H3.out.lt b hb))
                           have KB := Lib.hid (show w5.cell? ⟨p, 0, none⟩ = some (.slice (some ⟨gL, 0, none⟩) t.L.length cL) ∧ w5.cell? ⟨X, 3, none⟩ = some (.slice none 0 0) from ⟨(B5.out.cell (p := ⟨p, 0, none⟩) pl3).trans d3, (B5.out.cell (p := ⟨X, 3, none⟩) XL3).trans x3⟩)
                           have KD := Lib.hid (fun v => show (w5.setCell ⟨gL, c * 4 + 3, none⟩ v).cell? ⟨p, 0, none⟩ = some (.slice (some ⟨gL, 0, none⟩) t.L.length cL) ∧ (w5.setCell ⟨gL, c * 4 + 3, none⟩ v).cell? ⟨X, 3, none⟩ = some (.slice none 0 0) from ⟨(World.cell?_of_block (Below.heap_setCell w5 _ _ p (fun e => pg e))).trans KB.out.1, (World.cell?_of_block (Below.heap_setCell w5 _ _ X (fun e => Xg e))).trans KB.out.2⟩)
                           have z5 := H5.out.r3 cl
                           have f5 := ref_frozen H5.out (c * 4 + 3)
                           clear hown hgrow)
                             | fail))
                      go_wp2_with fail
                      go_meet
                      case rel =>
                        have L := link_at H5.out cl LK.out (F' := More F w3 w5) (fun b hb => .inl hb) (fun b hb => hb.elim (fun h => H5.out.lt b h) (fun h => h.2)) (fun b hb => by
                          simp [Value.ownBlock] at hb
                          subst hb
                          exact ⟨.inr gBl, fun e => by have := H3.out.lt _ e; omega⟩)
                        have hwb := B23.out.size
                        refine ⟨More F w3 w5, _, rfl, Lib.hid ⟨L, by simp, by simp⟩, Lib.hid ((Chg.of_below (B23.out.trans (B5.out.mono hwb))).trans (Chg.set w5 _ _ H3.out.fL) (fun x hx => .inl hx)), Lib.hid (fun b hb => hb.imp_right And.left), Lib.hid ?_⟩
                        have h5 := BX3.out.below B5.out XL3
                        unfold Bk at h5 ⊢
                        rw [Below.heap_setCell w5 _ _ X (fun e => Xg e)]
                        exact h5
                    · go_region_held3 (fun w' => w'.cell? ⟨p, 0, none⟩ = some (.slice (some ⟨gL, 0, none⟩) t.L.length cL) ∧ w'.cell? ⟨X, 3, none⟩ = some (.slice (some ad) l.length kl)) (first | exact ⟨d3, x3⟩ | exact KP _ | exact KA.out | exact KB.out | exact KD.out _) ((first
                        | (refine step_append_own (by rfl) _ _ _ (by rfl) w3.heap.size 97 iL (.agg #[.string ⟨#[]⟩, .int .i64 0]) 2 24 Tryz.underlying60 hiL hl0 hl1 hl2 rfl (by decide) (.slice (some ⟨w3.heap.size, 0, none⟩) 0 0) 0 [] (by rfl) (World.ownsRow_made w3 #[] 0 (Nat.le_refl _) (Nat.zero_le _) (by simp)) ad j kl (flatL (l.take j)) (by rfl) (by rw [flatL_len, List.length_take, Nat.min_eq_left hj]) (news_take HC3 (fun b hb => (Below.heap_alloc _ _ _ (Nat.lt_of_lt_of_le hb B3.out.size)).trans (B3.out.block b hb)) j) (flatL_one _) (by unfold maxLen; omega) (by omega) (by simp) (by simp) ?_
                           intro gA cA w4 hown hgrow
                           have OA := Lib.hid hown
                           have B4 := Lib.hid (show Below w3.heap.size w3 w4 from ((Below.refl _ w3).alloc (Nat.le_refl _) (.cells #[] 97)).drew.grown hgrow (by simp) (by intro k hk; simp [Value.ownBlock] at hk; omega))
                           have OR4 := Lib.hid (own_keep OR.out (w' := w4) fun b hb => B4.out.block b (by simp [Value.ownBlock] at hb; omega))
                           have gAl := hown.lt gA (by simp [Value.ownBlock])
                           have KA := Lib.hid (show w4.cell? ⟨p, 0, none⟩ = some (.slice (some ⟨gL, 0, none⟩) t.L.length cL) ∧ w4.cell? ⟨X, 3, none⟩ = some (.slice (some ad) l.length kl) from ⟨(B4.out.cell (p := ⟨p, 0, none⟩) pl3).trans d3, (B4.out.cell (p := ⟨X, 3, none⟩) XL3).trans x3⟩)
                           clear hown hgrow)
                        | (refine step_append_own (by rfl) _ _ _ (by rfl) w3.heap.size 97 iL (.agg #[.string ⟨#[]⟩, .int .i64 0]) 2 24 Tryz.underlying60 hiL hl0 hl1 hl2 rfl (by decide) (.slice (some ⟨gA, 0, none⟩) (0 + j) cA) (0 + j) ([] ++ flatL (l.take j)) (by rfl) OA.out ⟨gr, 0, none⟩ M cr ([.string nm, .int .i64 (t.L.length : Int)] ++ flatL (l.drop j)) (by rfl) (by rw [List.length_append, flatL_len, List.length_drop]; simp; omega) (fun i u hu => OR4.out.cells (g := gr) (by simp [Value.ownBlock]) i u hu) (link_one nm t.L.length _) (by unfold maxLen; omega) (by omega) (by omega) (by simp) ?_
                           intro gB cB w5 hown hgrow
                           rw [show 0 + j + M = l.length + 1 by omega] at hown ⊢
                           have B5 := Lib.hid (show Below w3.heap.size w3 w5 from B4.out.grown hgrow B4.out.size (by intro k hk; simp [Value.ownBlock] at hk; omega))
                           have LK := Lib.hid (ins_links (k := t.L.length) PL.out hown (by rw [List.nil_append]) rfl)
                           have gBl := hown.lt gB (by simp [Value.ownBlock])
                           have H5 := Lib.hid (show RefAt w5 p t F gL cL vR hd from H3.out.keep fun b hb => B5.out.block b (H3.out.lt b hb))
                           have KB := Lib.hid (show w5.cell? ⟨p, 0, none⟩ = some (.slice (some ⟨gL, 0, none⟩) t.L.length cL) ∧ w5.cell? ⟨X, 3, none⟩ = some (.slice (some ad) l.length kl) from ⟨(B5.out.cell (p := ⟨p, 0, none⟩) pl3).trans d3, (B5.out.cell (p := ⟨X, 3, none⟩) XL3).trans x3⟩)
                           have KD := Lib.hid (fun v => show (w5.setCell ⟨gL, c * 4 + 3, none⟩ v).cell? ⟨p, 0, none⟩ = some (.slice (some ⟨gL, 0, none⟩) t.L.length cL) ∧ (w5.setCell ⟨gL, c * 4 + 3, none⟩ v).cell? ⟨X, 3, none⟩ = some (.slice (some ad) l.length kl) from ⟨(World.cell?_of_block (Below.heap_setCell w5 _ _ p (fun e => pg e))).trans KB.out.1, (World.cell?_of_block (Below.heap_setCell w5 _ _ X (fun e => Xg e))).trans KB.out.2⟩)
                           have z5 := H5.out.r3 cl
                           have f5 := ref_frozen H5.out (c * 4 + 3)
                           clear hown hgrow)))
                      go_wp2_with fail
                      go_meet
                      case rel =>
                        have L := link_at H5.out cl LK.out (F' := More F w3 w5) (fun b hb => .inl hb) (fun b hb => hb.elim (fun h => H5.out.lt b h) (fun h => h.2)) (fun b hb => by
                          simp [Value.ownBlock] at hb
                          subst hb
                          exact ⟨.inr gBl, fun e => by have := H3.out.lt _ e; omega⟩)
                        have hwb := B23.out.size
                        refine ⟨More F w3 w5, _, rfl, Lib.hid ⟨L, by simp, by simp⟩, Lib.hid ((Chg.of_below (B23.out.trans (B5.out.mono hwb))).trans (Chg.set w5 _ _ H3.out.fL) (fun x hx => .inl hx)), Lib.hid (fun b hb => hb.imp_right And.left), Lib.hid ?_⟩
                        have h5 := BX3.out.below B5.out XL3
                        unfold Bk at h5 ⊢
                        rw [Below.heap_setCell w5 _ _ X (fun e => Xg e)]
                        exact h5
                  case rest =>
                    obtain ⟨F', hd', rfl, HH, CH, SU, BX4⟩ := hcut
                    generalize wc = w4 at *
                    obtain ⟨T, hT⟩ : ∃ T, t.relinked c (insL nm t.L.length l) = T := ⟨_, rfl⟩
                    have hTL : T.L.length = t.L.length := by rw [← hT]; simp [Tre.relinked]
                    have hTn : (T.sh c).names = ns := by rw [← hT, relinked_sh t _ cl, if_pos rfl]; exact CN.out
                    have EQ := Lib.hid (show t.grow c nm = T.push kc (ns ++ [nm]) by rw [grow_is t c nm cl, LE.out, KC.out, CN.out, hT])
                    rw [hT] at HH
                    have H4 := Lib.hid HH.out.1
                    have S4 := Lib.hid (show SlS w4 (· < w4.heap.size) (some (hd c).nA) ns by
                      have h := H4.out.names c (by rw [hTL]; exact cl)
                      rw [hTn, HH.out.2.1] at h
                      exact h.imp fun b hb => H4.out.lt b hb.1)
                    have d4 := H4.out.c0
                    have hc4 := H4.out.cap
                    have XL4 : X < w4.heap.size := BX4.out.lt
                    have pl4 : p < w4.heap.size := H4.out.hp.lt
                    have gl4 : gL < w4.heap.size := H4.out.lt gL H4.out.fL
                    have pf : w4.frozen? ⟨p, 0, none⟩ = false := H4.out.hp.frozen 0
                    have XF' : ¬ F' X := fun e => (SU.out X e).elim XF.out (fun h => by omega)
                    have Xg : X ≠ gL := fun e => XF' (by rw [e]; exact H4.out.fL)
                    have Xp : X ≠ p := fun e => XF' (by rw [e]; exact H4.out.fp)
                    have KX := Lib.hid (fun (w' : World) (h : Bk w' X #[.int .i64 kc, .int .i64 (aliV (t.sh c)), .slice (some (hd c).nA) ns.length (hd c).nc, .slice Al l.length kl] 62) => show w'.cell? ⟨X, 0, none⟩ = some (.int .i64 kc) ∧ w'.cell? ⟨X, 2, none⟩ = some (.slice (some (hd c).nA) ns.length (hd c).nc) from ⟨h.cell 0 _ rfl, h.cell 2 _ rfl⟩)
                    have BD := Lib.hid (show Bk w4.drew X #[.int .i64 kc, .int .i64 (aliV (t.sh c)), .slice (some (hd c).nA) ns.length (hd c).nc, .slice Al l.length kl] 62 from BX4.out)
                    obtain ⟨i0, hi0, hz0, hz1, hz2⟩ := info_parts infoS
                    obtain ⟨i1, hi1, hy0, hy1, hy2⟩ := info_parts infoSh
                    obtain ⟨xs, ho, hx⟩ := H4.out.rows
                    have HO := Lib.hid (show w4.ownsRow 0 62 4 (.slice (some ⟨gL, 0, none⟩) T.L.length cL) T.L.length xs from ho)
                    have HX := Lib.hid hx
                    have hws : w.heap.size ≤ w3.heap.size := B23.out.size
                    have hT2 : T.L.length < 200 := by omega
                    have hn2 : ns.length < 64 := by omega
                    clear ho hx d3 x0 x2 x3 XL3 pl3 gl3 z3 fz hT hTn hcap BX BX3
                    obtain ⟨TN, hTNe⟩ : ∃ TN, T.L.length = TN := ⟨_, rfl⟩
                    have TNE := Lib.hid hTNe
                    rw [hTNe] at d4 hT2
                    have HO := Lib.hid (show w4.ownsRow 0 62 4 (.slice (some ⟨gL, 0, none⟩) TN cL) TN xs by rw [← hTNe]; exact HO.out)
                    clear hTL hTNe hc4
                    have hmx : Tryz.prog.follows .mixedOrders = true := by kernel_rfl
                    have xk := KX.out _ BX4.out
                    have keepS := Lib.hid (show ∀ Y : World, Below w4.heap.size w4 Y → Y.cell? ⟨p, 0, none⟩ = some (.slice (some ⟨gL, 0, none⟩) TN cL) ∧ Y.cell? ⟨X, 0, none⟩ = some (.int .i64 kc) ∧ Y.cell? ⟨X, 2, none⟩ = some (.slice (some (hd c).nA) ns.length (hd c).nc) from fun Y hY => ⟨(hY.cell (p := ⟨p, 0, none⟩) pl4).trans d4, (hY.cell (p := ⟨X, 0, none⟩) XL4).trans xk.1, (hY.cell (p := ⟨X, 2, none⟩) XL4).trans xk.2⟩)
                    have S1 := Lib.hid (show w4.drew.cell? ⟨p, 0, none⟩ = some (.slice (some ⟨gL, 0, none⟩) TN cL) ∧ w4.drew.cell? ⟨X, 0, none⟩ = some (.int .i64 kc) ∧ w4.drew.cell? ⟨X, 2, none⟩ = some (.slice (some (hd c).nA) ns.length (hd c).nc) from ⟨d4, xk.1, xk.2⟩)
                    have Bd := (Below.refl w4.heap.size w4).drew
                    obtain ⟨Z4, hZ4⟩ : ∃ Z, w4.heap.size = Z := ⟨_, rfl⟩
                    have zd : w4.drew.heap.size = Z4 := hZ4
                    clear xk
                    go_upto_region 18 with fail
                    refine region_plainX (fun v => v.cell? ⟨p, 0, none⟩ = some (.slice (some ⟨gL, 0, none⟩) TN cL) ∧ v.cell? ⟨X, 0, none⟩ = some (.int .i64 kc) ∧ v.cell? ⟨X, 2, none⟩ = some (.slice (some (hd c).nA) ns.length (hd c).nc)) [19] hmx ?_
                    refine anyEx_take (i := 0) (u := ?_) rfl (by kernel_rfl) (by kernel_rfl) (by kernel_rfl) (by kernel_rfl) (by kernel_rfl) (fun _ _ _ h => h) (.inl ⟨by kernel_rfl, fun v hS => ?_⟩) S1.out ?_
                    rotate_left
                    · obtain ⟨h0, h1, h2⟩ := hS
                      go_simp
                      with_reducible rfl
                    refine anyEx_take (i := 1) (u := ?_) rfl (by kernel_rfl) (by kernel_rfl) (by kernel_rfl) (by kernel_rfl) (by kernel_rfl) (fun _ _ _ h => h) (.inl ⟨by kernel_rfl, fun v hS => ?_⟩) S1.out ?_
                    rotate_left
                    · obtain ⟨h0, h1, h2⟩ := hS
                      go_simp
                      with_reducible rfl
                    refine anyEx_take (i := 2) (u := ?_) rfl (by kernel_rfl) (by kernel_rfl) (by kernel_rfl) (by kernel_rfl) (by kernel_rfl) (fun _ _ _ h => h) (.inl ⟨by kernel_rfl, fun v hS => ?_⟩) S1.out ?_
                    rotate_left
                    · obtain ⟨h0, h1, h2⟩ := hS
                      go_simp
                      with_reducible rfl
                    refine anyEx_take (i := 3) (u := ?_) rfl (by kernel_rfl) (by kernel_rfl) (by kernel_rfl) (by kernel_rfl) (by kernel_rfl) (fun _ _ _ h => h) (.inl ⟨by kernel_rfl, fun v hS => ?_⟩) S1.out ?_
                    rotate_left
                    · obtain ⟨h0, h1, h2⟩ := hS
                      go_simp
                      with_reducible rfl
                    refine anyEx_take (i := 4) (u := ?_) rfl (by kernel_rfl) (by kernel_rfl) (by kernel_rfl) (by kernel_rfl) (by kernel_rfl) (fun _ _ _ h => h) (.inl ⟨by kernel_rfl, fun v hS => ?_⟩) S1.out ?_
                    rotate_left
                    · obtain ⟨h0, h1, h2⟩ := hS
                      go_simp
                      with_reducible rfl
                    refine anyEx_take (i := 5) (u := ?_) rfl (by kernel_rfl) (by kernel_rfl) (by kernel_rfl) (by kernel_rfl) (by kernel_rfl) (fun _ _ _ h => h) (.inl ⟨by kernel_rfl, fun v hS => ?_⟩) S1.out ?_
                    rotate_left
                    · obtain ⟨h0, h1, h2⟩ := hS
                      go_simp
                      with_reducible rfl
                    refine anyEx_take (i := 6) (u := ?_) rfl (by kernel_rfl) (by kernel_rfl) (by kernel_rfl) (by kernel_rfl) (by kernel_rfl) (fun _ _ _ h => h) (.inl ⟨by kernel_rfl, fun v hS => ?_⟩) S1.out ?_
                    rotate_left
                    · obtain ⟨h0, h1, h2⟩ := hS
                      go_simp
                      with_reducible rfl
                    refine anyEx_take (i := 8) (u := ?_) rfl (by kernel_rfl) (by kernel_rfl) (by kernel_rfl) (by kernel_rfl) (by kernel_rfl) (fun _ _ _ h => h) (.inl ⟨by kernel_rfl, fun v hS => ?_⟩) S1.out ?_
                    rotate_left
                    · obtain ⟨h0, h1, h2⟩ := hS
                      go_simp
                      with_reducible rfl
                    refine anyEx_take (i := 9) (u := ?_) rfl (by kernel_rfl) (by kernel_rfl) (by kernel_rfl) (by kernel_rfl) (by kernel_rfl) (fun _ _ _ h => h) (.inl ⟨by kernel_rfl, fun v hS => ?_⟩) S1.out ?_
                    rotate_left
                    · obtain ⟨h0, h1, h2⟩ := hS
                      go_simp
                      with_reducible rfl
                    refine anyEx_take (i := 11) (u := ?_) rfl (by kernel_rfl) (by kernel_rfl) (by kernel_rfl) (by kernel_rfl) (by kernel_rfl) (fun _ _ _ h => h) (.inl ⟨by kernel_rfl, fun v hS => ?_⟩) S1.out ?_
                    rotate_left
                    · obtain ⟨h0, h1, h2⟩ := hS
                      go_simp
                      with_reducible rfl
                    refine anyEx_two 7 12 rfl rfl (by kernel_rfl) (by kernel_rfl) (by kernel_rfl) ?_ ?_
                    · obtain ⟨V1, hV1⟩ : ∃ V1, w4.drew.alloc (.cells #[] 9) = V1 := ⟨_, rfl⟩
                      have B1 := Lib.hid (show Below w4.heap.size w4 V1 by rw [← hV1]; exact Bd.alloc (by have := Bd.size; omega) _)
                      have zV1 : V1.heap.size = Z4 + 1 := by rw [← hV1, World.size_alloc, zd]
                      have OV1 := Lib.hid (show OwnS V1 w4.heap.size (.slice (some ⟨Z4, 0, none⟩) 0 0) [] by rw [← hV1, ← zd]; exact World.ownsRow_made w4.drew #[] 0 (by have := Bd.size; omega) (Nat.zero_le _) (by simp))
                      go_simp
                      first
                        | refine ⟨.inr (keepS.out _ B1.out), ?_⟩
                        | refine ⟨keepS.out _ B1.out, ?_⟩
                        | skip
                      refine anyEx_two 10 12 rfl rfl (by kernel_rfl) (by kernel_rfl) (by kernel_rfl) ?_ ?_
                      · refine wp_append_onto _ _ rfl w4.heap.size Z4 0 [] ns rfl OV1.out (fun b => b < w4.heap.size) (some (hd c).nA) (hd c).nc rfl (S4.out.keep fun b hb => ⟨hb, B1.out.block b hb⟩) (fun e => by cases e) (by simp; omega) (by have := B1.out.size; omega) ?_
                        intro gN cN w5 o5 g15 h5
                        rw [List.nil_append] at o5 ⊢
                        have B5 := Lib.hid (B1.out.grown g15 (by have := B1.out.size; omega) (fun j e => by injection e with e; omega))
                        have ON := Lib.hid o5
                        clear o5 g15 h5
                        refine ⟨.inr (keepS.out _ B5.out), ?_⟩
                        obtain ⟨Z5, zw5⟩ : ∃ Z, w5.heap.size = Z := ⟨_, rfl⟩
                        obtain ⟨V2, hV2⟩ : ∃ V2, w5.alloc (.cells #[.string nm] 9) = V2 := ⟨_, rfl⟩
                        have B2 := Lib.hid (show Below w4.heap.size w4 V2 by rw [← hV2]; exact B5.out.alloc (by have := B5.out.size; omega) _)
                        have zV2 : V2.heap.size = Z5 + 1 := by rw [← hV2, World.size_alloc, zw5]
                        have NV2 := Lib.hid (show Bk V2 (Z5) #[.string nm] 9 by rw [← hV2, ← zw5]; exact Bk.new w5 _ _)
                        refine anyEx_one 12 rfl (by kernel_rfl) (by kernel_rfl) ?_
                        go_simp
                        first
                          | refine ⟨.inr (keepS.out _ B2.out), ?_⟩
                          | refine ⟨keepS.out _ B2.out, ?_⟩
                          | skip
                        have ON2 := Lib.hid (show OwnS V2 w4.heap.size (.slice (some ⟨gN, 0, none⟩) ns.length cN) ns by rw [← hV2]; exact OwnS.below ON.out ((Below.refl _ w5).alloc (Nat.le_refl _) _) (Nat.le_refl _))
                        refine anyEx_one 13 rfl (by kernel_rfl) (by kernel_rfl) ?_
                        refine wp_append_lies _ _ _ 41 rfl w4.heap.size 9 i0 (.string ⟨#[]⟩) 1 16 Tryz.underlying41 hi0 hz0 hz1 hz2 rfl (by decide) (.slice (some ⟨gN, 0, none⟩) ns.length cN) ns.length _ rfl ON2.out ⟨Z5, 0, none⟩ 1 1 [.string nm] rfl rfl (World.news_of_block (cs := #[.string nm]) (t := 9) (fr := (0, 0)) NV2.out) (by simp [Value.oneCell']) (by omega) (by unfold maxLen; omega) (by omega) (by have := B2.out.size; omega) V2.heap.size rfl ?_
                        intro gM cM w6 o6 g56 h6 h6l
                        have B6 := Lib.hid (B2.out.grown g56 (by have := B2.out.size; omega) (fun j e => by injection e with e; have e : gN = j := e; have := (ON.out.lt gN rfl).1; omega))
                        obtain ⟨nn, hnn⟩ : ∃ nn, ns ++ [nm] = nn := ⟨_, rfl⟩
                        have hnl : ns.length + 1 = nn.length := by rw [← hnn]; simp
                        rw [hnl] at o6 ⊢
                        have SN := Lib.hid (show SlS w6 (fun b => (w4.heap.size ≤ b ∧ b < w6.heap.size) ∧ isStr w6 b) (some ⟨gM, 0, none⟩) nn from made_names' o6 (by rw [← hnn, List.map_append]; rfl))
                        have NNE := Lib.hid hnn
                        clear o6 g56 h6 h6l hnn
                        refine ⟨.inr (keepS.out _ B6.out), ?_⟩
                        refine anyEx_one 14 rfl (by kernel_rfl) (by kernel_rfl) ?_
                        go_simp
                        first
                          | refine ⟨.inr (keepS.out _ B6.out), ?_⟩
                          | refine ⟨keepS.out _ B6.out, ?_⟩
                          | skip
                        obtain ⟨V7, hV7⟩ : ∃ V7, w6.alloc (.cells #[.int .i64 kc, .int .i64 (-1), .slice (some ⟨gM, 0, none⟩) nn.length cM, .slice none 0 0] 62) = V7 := ⟨_, rfl⟩
                        have z6 := B6.out.size
                        have B7 := Lib.hid (show Below w4.heap.size w4 V7 by rw [← hV7]; exact B6.out.alloc (by omega) _)
                        have N7 := Lib.hid (show Bk V7 w6.heap.size #[.int .i64 kc, .int .i64 (-1), .slice (some ⟨gM, 0, none⟩) nn.length cM, .slice none 0 0] 62 by rw [← hV7]; exact Bk.new w6 _ _)
                        have zV7 : V7.heap.size = w6.heap.size + 1 := by rw [← hV7, World.size_alloc]
                        have O7 := Lib.hid (own_keep HO.out fun b hb => B7.out.block b (HO.out.lt b hb).2)
                        refine anyEx_one 15 rfl (by kernel_rfl) (by kernel_rfl) ?_
                        go_simp
                        first
                          | refine ⟨.inr (keepS.out _ B7.out), ?_⟩
                          | refine ⟨keepS.out _ B7.out, ?_⟩
                          | skip
                        refine anyEx_one 16 rfl (by kernel_rfl) (by kernel_rfl) ?_
                        refine wp_append_lies _ _ _ 53 rfl 0 62 i1 _ 4 64 Tryz.underlying53 hi1 hy0 hy1 hy2 rfl (by omega) (.slice (some ⟨gL, 0, none⟩) TN cL) TN _ rfl O7.out ⟨w6.heap.size, 0, none⟩ 1 1 [.int .i64 kc, .int .i64 (-1), .slice (some ⟨gM, 0, none⟩) nn.length cM, .slice none 0 0] rfl rfl (World.news_of_block (cs := #[.int .i64 kc, .int .i64 (-1), .slice (some ⟨gM, 0, none⟩) nn.length cM, .slice none 0 0]) (t := 62) (fr := (0, 0)) N7.out) (by simp [Value.oneCell']) (by omega) (by unfold maxLen; omega) (by omega) (by omega) (w6.heap.size + 1) zV7 ?_
                        intro g8 c8 w8 o8 g78 h8 h8l
                        have g78' : (w6.alloc (.cells #[.int .i64 kc, .int .i64 (-1), .slice (some ⟨gM, 0, none⟩) nn.length cM, .slice none 0 0] 62)).grownBy w8 (Value.ownBlock (.slice (some ⟨gL, 0, none⟩) T.L.length cL)) := by rw [hV7]; exact g78
                        have HO' : w4.ownsRow 0 62 4 (.slice (some ⟨gL, 0, none⟩) T.L.length cL) T.L.length xs := by rw [TNE.out]; exact HO.out
                        have PH := push_hdr H4.out HO' B6.out g78'
                        have FIN := Lib.hid (push_done (cN := cM) (k := kc) H4.out HO' B6.out g78' HX.out SN.out (by rw [TNE.out]; exact o8) h8 h8l)
                        have p8 := PH.cell 0 _ rfl
                        have f8 := PH.frozen 0
                        rw [TNE.out] at p8 FIN
                        have x8 : ∀ i, w8.cell? ⟨X, i, none⟩ = w4.cell? ⟨X, i, none⟩ := fun i => World.cell?_of_block (push_other B6.out g78' X XL4 Xg)
                        have S8 := Lib.hid (show w8.cell? ⟨p, 0, none⟩ = some (.slice (some ⟨gL, 0, none⟩) TN cL) ∧ w8.cell? ⟨X, 0, none⟩ = some (.int .i64 kc) ∧ w8.cell? ⟨X, 2, none⟩ = some (.slice (some (hd c).nA) ns.length (hd c).nc) from ⟨p8, (x8 0).trans (KX.out _ BX4.out).1, (x8 2).trans (KX.out _ BX4.out).2⟩)
                        obtain ⟨W9, hW9⟩ : ∃ W9, w8.setCell ⟨p, 0, none⟩ (.slice (some ⟨g8, 0, none⟩) (TN + 1) c8) = W9 := ⟨_, rfl⟩
                        rw [hW9] at FIN
                        have G := Lib.hid (show RefTo w p F (t.grow c nm) (mkV ((t.L.length : Int), 0)) (.returned (mkV ((t.L.length : Int), 0))) W9 from
                          ⟨_, rfl, by rw [EQ.out, NNE.out]; exact FIN.out.1, CH.out.trans FIN.out.2 (fun x hx => (SU.out x hx).imp_right fun h => Nat.le_trans hws h), fun b (hb : More F' w4 W9 b) => hb.elim (fun h => (SU.out b h).imp_right fun h => Nat.le_trans hws h) (fun h => .inr (Nat.le_trans CH.out.size h.1))⟩)
                        clear o8 g78 h8 g78' HO' PH FIN x8 p8
                        refine ⟨.inr S8.out, ?_⟩
                        refine anyEx_one 17 rfl (by kernel_rfl) (by kernel_rfl) ?_
                        go_simp
                        first
                          | refine ⟨.inr S8.out, ?_⟩
                          | refine ⟨S8.out, ?_⟩
                          | skip
                        refine anyEx_one 18 rfl (by kernel_rfl) (by kernel_rfl) ?_
                        go_simp
                        first
                          | refine ⟨.inr S8.out, ?_⟩
                          | refine ⟨S8.out, ?_⟩
                          | skip
                        have p8 := S8.out.1
                        refine anyEx_one 19 rfl (by kernel_rfl) (by kernel_rfl) ?_
                        go_simp
                        first
                          | refine ⟨.inl (by simp), rfl, ?_⟩
                          | refine ⟨rfl, ?_⟩
                          | skip
                        go_wp2_with fail
                        go_ret2
                        rw [HR.out]
                        exact G.out
                      · obtain ⟨V2, hV2⟩ : ∃ V2, V1.alloc (.cells #[.string nm] 9) = V2 := ⟨_, rfl⟩
                        have B2 := Lib.hid (show Below w4.heap.size w4 V2 by rw [← hV2]; exact B1.out.alloc (by have := B1.out.size; omega) _)
                        have zV2 : V2.heap.size = Z4 + 1 + 1 := by rw [← hV2, World.size_alloc, zV1]
                        have NV2 := Lib.hid (show Bk V2 (Z4 + 1) #[.string nm] 9 by rw [← hV2, ← zV1]; exact Bk.new V1 _ _)
                        go_simp
                        first
                          | refine ⟨.inr (keepS.out _ B2.out), ?_⟩
                          | refine ⟨keepS.out _ B2.out, ?_⟩
                          | skip
                        have OE2 := Lib.hid (show OwnS V2 w4.heap.size (.slice (some ⟨Z4, 0, none⟩) 0 0) [] by rw [← hV2]; exact OwnS.below OV1.out ((Below.refl _ V1).alloc (Nat.le_refl _) _) (Nat.le_refl _))
                        refine anyEx_one 10 rfl (by kernel_rfl) (by kernel_rfl) ?_
                        refine wp_append_onto _ _ rfl w4.heap.size Z4 0 [] ns rfl OE2.out (fun b => b < w4.heap.size) (some (hd c).nA) (hd c).nc rfl (S4.out.keep fun b hb => ⟨hb, B2.out.block b hb⟩) (fun e => by cases e) (by simp; omega) (by have := B2.out.size; omega) ?_
                        intro gN cN w5 o5 g15 h5
                        rw [List.nil_append] at o5 ⊢
                        have B5 := Lib.hid (B2.out.grown g15 (by have := B2.out.size; omega) (fun j e => by injection e with e; omega))
                        have ON := Lib.hid o5
                        have NB5 := Lib.hid (show Bk w5 (Z4 + 1) #[.string nm] 9 from (g15.block _ NV2.out.lt (fun e => by injection e with e; omega)).trans NV2.out)
                        clear o5 g15 h5
                        refine ⟨.inr (keepS.out _ B5.out), ?_⟩
                        refine anyEx_one 13 rfl (by kernel_rfl) (by kernel_rfl) ?_
                        refine wp_append_lies _ _ _ 41 rfl w4.heap.size 9 i0 (.string ⟨#[]⟩) 1 16 Tryz.underlying41 hi0 hz0 hz1 hz2 rfl (by decide) (.slice (some ⟨gN, 0, none⟩) ns.length cN) ns.length _ rfl ON.out ⟨Z4 + 1, 0, none⟩ 1 1 [.string nm] rfl rfl (World.news_of_block (cs := #[.string nm]) (t := 9) (fr := (0, 0)) NB5.out) (by simp [Value.oneCell']) (by omega) (by unfold maxLen; omega) (by omega) (by have := B5.out.size; omega) w5.heap.size rfl ?_
                        intro gM cM w6 o6 g56 h6 h6l
                        have B6 := Lib.hid (B5.out.grown g56 (by have := B5.out.size; omega) (fun j e => by injection e with e; have e : gN = j := e; have := (ON.out.lt gN rfl).1; omega))
                        obtain ⟨nn, hnn⟩ : ∃ nn, ns ++ [nm] = nn := ⟨_, rfl⟩
                        have hnl : ns.length + 1 = nn.length := by rw [← hnn]; simp
                        rw [hnl] at o6 ⊢
                        have SN := Lib.hid (show SlS w6 (fun b => (w4.heap.size ≤ b ∧ b < w6.heap.size) ∧ isStr w6 b) (some ⟨gM, 0, none⟩) nn from made_names' o6 (by rw [← hnn, List.map_append]; rfl))
                        have NNE := Lib.hid hnn
                        clear o6 g56 h6 h6l hnn
                        refine ⟨.inr (keepS.out _ B6.out), ?_⟩
                        refine anyEx_one 14 rfl (by kernel_rfl) (by kernel_rfl) ?_
                        go_simp
                        first
                          | refine ⟨.inr (keepS.out _ B6.out), ?_⟩
                          | refine ⟨keepS.out _ B6.out, ?_⟩
                          | skip
                        obtain ⟨V7, hV7⟩ : ∃ V7, w6.alloc (.cells #[.int .i64 kc, .int .i64 (-1), .slice (some ⟨gM, 0, none⟩) nn.length cM, .slice none 0 0] 62) = V7 := ⟨_, rfl⟩
                        have z6 := B6.out.size
                        have B7 := Lib.hid (show Below w4.heap.size w4 V7 by rw [← hV7]; exact B6.out.alloc (by omega) _)
                        have N7 := Lib.hid (show Bk V7 w6.heap.size #[.int .i64 kc, .int .i64 (-1), .slice (some ⟨gM, 0, none⟩) nn.length cM, .slice none 0 0] 62 by rw [← hV7]; exact Bk.new w6 _ _)
                        have zV7 : V7.heap.size = w6.heap.size + 1 := by rw [← hV7, World.size_alloc]
                        have O7 := Lib.hid (own_keep HO.out fun b hb => B7.out.block b (HO.out.lt b hb).2)
                        refine anyEx_one 15 rfl (by kernel_rfl) (by kernel_rfl) ?_
                        go_simp
                        first
                          | refine ⟨.inr (keepS.out _ B7.out), ?_⟩
                          | refine ⟨keepS.out _ B7.out, ?_⟩
                          | skip
                        refine anyEx_one 16 rfl (by kernel_rfl) (by kernel_rfl) ?_
                        refine wp_append_lies _ _ _ 53 rfl 0 62 i1 _ 4 64 Tryz.underlying53 hi1 hy0 hy1 hy2 rfl (by omega) (.slice (some ⟨gL, 0, none⟩) TN cL) TN _ rfl O7.out ⟨w6.heap.size, 0, none⟩ 1 1 [.int .i64 kc, .int .i64 (-1), .slice (some ⟨gM, 0, none⟩) nn.length cM, .slice none 0 0] rfl rfl (World.news_of_block (cs := #[.int .i64 kc, .int .i64 (-1), .slice (some ⟨gM, 0, none⟩) nn.length cM, .slice none 0 0]) (t := 62) (fr := (0, 0)) N7.out) (by simp [Value.oneCell']) (by omega) (by unfold maxLen; omega) (by omega) (by omega) (w6.heap.size + 1) zV7 ?_
                        intro g8 c8 w8 o8 g78 h8 h8l
                        have g78' : (w6.alloc (.cells #[.int .i64 kc, .int .i64 (-1), .slice (some ⟨gM, 0, none⟩) nn.length cM, .slice none 0 0] 62)).grownBy w8 (Value.ownBlock (.slice (some ⟨gL, 0, none⟩) T.L.length cL)) := by rw [hV7]; exact g78
                        have HO' : w4.ownsRow 0 62 4 (.slice (some ⟨gL, 0, none⟩) T.L.length cL) T.L.length xs := by rw [TNE.out]; exact HO.out
                        have PH := push_hdr H4.out HO' B6.out g78'
                        have FIN := Lib.hid (push_done (cN := cM) (k := kc) H4.out HO' B6.out g78' HX.out SN.out (by rw [TNE.out]; exact o8) h8 h8l)
                        have p8 := PH.cell 0 _ rfl
                        have f8 := PH.frozen 0
                        rw [TNE.out] at p8 FIN
                        have x8 : ∀ i, w8.cell? ⟨X, i, none⟩ = w4.cell? ⟨X, i, none⟩ := fun i => World.cell?_of_block (push_other B6.out g78' X XL4 Xg)
                        have S8 := Lib.hid (show w8.cell? ⟨p, 0, none⟩ = some (.slice (some ⟨gL, 0, none⟩) TN cL) ∧ w8.cell? ⟨X, 0, none⟩ = some (.int .i64 kc) ∧ w8.cell? ⟨X, 2, none⟩ = some (.slice (some (hd c).nA) ns.length (hd c).nc) from ⟨p8, (x8 0).trans (KX.out _ BX4.out).1, (x8 2).trans (KX.out _ BX4.out).2⟩)
                        obtain ⟨W9, hW9⟩ : ∃ W9, w8.setCell ⟨p, 0, none⟩ (.slice (some ⟨g8, 0, none⟩) (TN + 1) c8) = W9 := ⟨_, rfl⟩
                        rw [hW9] at FIN
                        have G := Lib.hid (show RefTo w p F (t.grow c nm) (mkV ((t.L.length : Int), 0)) (.returned (mkV ((t.L.length : Int), 0))) W9 from
                          ⟨_, rfl, by rw [EQ.out, NNE.out]; exact FIN.out.1, CH.out.trans FIN.out.2 (fun x hx => (SU.out x hx).imp_right fun h => Nat.le_trans hws h), fun b (hb : More F' w4 W9 b) => hb.elim (fun h => (SU.out b h).imp_right fun h => Nat.le_trans hws h) (fun h => .inr (Nat.le_trans CH.out.size h.1))⟩)
                        clear o8 g78 h8 g78' HO' PH FIN x8 p8
                        refine ⟨.inr S8.out, ?_⟩
                        refine anyEx_one 17 rfl (by kernel_rfl) (by kernel_rfl) ?_
                        go_simp
                        first
                          | refine ⟨.inr S8.out, ?_⟩
                          | refine ⟨S8.out, ?_⟩
                          | skip
                        refine anyEx_one 18 rfl (by kernel_rfl) (by kernel_rfl) ?_
                        go_simp
                        first
                          | refine ⟨.inr S8.out, ?_⟩
                          | refine ⟨S8.out, ?_⟩
                          | skip
                        have p8 := S8.out.1
                        refine anyEx_one 19 rfl (by kernel_rfl) (by kernel_rfl) ?_
                        go_simp
                        first
                          | refine ⟨.inl (by simp), rfl, ?_⟩
                          | refine ⟨rfl, ?_⟩
                          | skip
                        go_wp2_with fail
                        go_ret2
                        rw [HR.out]
                        exact G.out
                    · obtain ⟨V1, hV1⟩ : ∃ V1, w4.drew.alloc (.cells #[.string nm] 9) = V1 := ⟨_, rfl⟩
                      have B1 := Lib.hid (show Below w4.heap.size w4 V1 by rw [← hV1]; exact Bd.alloc (by have := Bd.size; omega) _)
                      have zV1 : V1.heap.size = Z4 + 1 := by rw [← hV1, World.size_alloc, zd]
                      have NV1 := Lib.hid (show Bk V1 (Z4) #[.string nm] 9 by rw [← hV1, ← zd]; exact Bk.new w4.drew _ _)
                      go_simp
                      first
                        | refine ⟨.inr (keepS.out _ B1.out), ?_⟩
                        | refine ⟨keepS.out _ B1.out, ?_⟩
                        | skip
                      obtain ⟨V2, hV2⟩ : ∃ V2, V1.alloc (.cells #[] 9) = V2 := ⟨_, rfl⟩
                      have B2 := Lib.hid (show Below w4.heap.size w4 V2 by rw [← hV2]; exact B1.out.alloc (by have := B1.out.size; omega) _)
                      have zV2 : V2.heap.size = Z4 + 1 + 1 := by rw [← hV2, World.size_alloc, zV1]
                      have OV2 := Lib.hid (show OwnS V2 w4.heap.size (.slice (some ⟨Z4 + 1, 0, none⟩) 0 0) [] by rw [← hV2, ← zV1]; exact World.ownsRow_made V1 #[] 0 (by have := B1.out.size; omega) (Nat.zero_le _) (by simp))
                      refine anyEx_one 7 rfl (by kernel_rfl) (by kernel_rfl) ?_
                      go_simp
                      first
                        | refine ⟨.inr (keepS.out _ B2.out), ?_⟩
                        | refine ⟨keepS.out _ B2.out, ?_⟩
                        | skip
                      have NV2 := Lib.hid (show Bk V2 Z4 #[.string nm] 9 by rw [← hV2]; exact NV1.out.alloc _)
                      refine anyEx_one 10 rfl (by kernel_rfl) (by kernel_rfl) ?_
                      refine wp_append_onto _ _ rfl w4.heap.size (Z4 + 1) 0 [] ns rfl OV2.out (fun b => b < w4.heap.size) (some (hd c).nA) (hd c).nc rfl (S4.out.keep fun b hb => ⟨hb, B2.out.block b hb⟩) (fun e => by cases e) (by simp; omega) (by have := B2.out.size; omega) ?_
                      intro gN cN w5 o5 g15 h5
                      rw [List.nil_append] at o5 ⊢
                      have B5 := Lib.hid (B2.out.grown g15 (by have := B2.out.size; omega) (fun j e => by injection e with e; omega))
                      have ON := Lib.hid o5
                      have NB5 := Lib.hid (show Bk w5 Z4 #[.string nm] 9 from (g15.block _ NV2.out.lt (fun e => by injection e with e; omega)).trans NV2.out)
                      clear o5 g15 h5
                      refine ⟨.inr (keepS.out _ B5.out), ?_⟩
                      refine anyEx_one 13 rfl (by kernel_rfl) (by kernel_rfl) ?_
                      refine wp_append_lies _ _ _ 41 rfl w4.heap.size 9 i0 (.string ⟨#[]⟩) 1 16 Tryz.underlying41 hi0 hz0 hz1 hz2 rfl (by decide) (.slice (some ⟨gN, 0, none⟩) ns.length cN) ns.length _ rfl ON.out ⟨Z4, 0, none⟩ 1 1 [.string nm] rfl rfl (World.news_of_block (cs := #[.string nm]) (t := 9) (fr := (0, 0)) NB5.out) (by simp [Value.oneCell']) (by omega) (by unfold maxLen; omega) (by omega) (by have := B5.out.size; omega) w5.heap.size rfl ?_
                      intro gM cM w6 o6 g56 h6 h6l
                      have B6 := Lib.hid (B5.out.grown g56 (by have := B5.out.size; omega) (fun j e => by injection e with e; have e : gN = j := e; have := (ON.out.lt gN rfl).1; omega))
                      obtain ⟨nn, hnn⟩ : ∃ nn, ns ++ [nm] = nn := ⟨_, rfl⟩
                      have hnl : ns.length + 1 = nn.length := by rw [← hnn]; simp
                      rw [hnl] at o6 ⊢
                      have SN := Lib.hid (show SlS w6 (fun b => (w4.heap.size ≤ b ∧ b < w6.heap.size) ∧ isStr w6 b) (some ⟨gM, 0, none⟩) nn from made_names' o6 (by rw [← hnn, List.map_append]; rfl))
                      have NNE := Lib.hid hnn
                      clear o6 g56 h6 h6l hnn
                      refine ⟨.inr (keepS.out _ B6.out), ?_⟩
                      refine anyEx_one 14 rfl (by kernel_rfl) (by kernel_rfl) ?_
                      go_simp
                      first
                        | refine ⟨.inr (keepS.out _ B6.out), ?_⟩
                        | refine ⟨keepS.out _ B6.out, ?_⟩
                        | skip
                      obtain ⟨V7, hV7⟩ : ∃ V7, w6.alloc (.cells #[.int .i64 kc, .int .i64 (-1), .slice (some ⟨gM, 0, none⟩) nn.length cM, .slice none 0 0] 62) = V7 := ⟨_, rfl⟩
                      have z6 := B6.out.size
                      have B7 := Lib.hid (show Below w4.heap.size w4 V7 by rw [← hV7]; exact B6.out.alloc (by omega) _)
                      have N7 := Lib.hid (show Bk V7 w6.heap.size #[.int .i64 kc, .int .i64 (-1), .slice (some ⟨gM, 0, none⟩) nn.length cM, .slice none 0 0] 62 by rw [← hV7]; exact Bk.new w6 _ _)
                      have zV7 : V7.heap.size = w6.heap.size + 1 := by rw [← hV7, World.size_alloc]
                      have O7 := Lib.hid (own_keep HO.out fun b hb => B7.out.block b (HO.out.lt b hb).2)
                      refine anyEx_one 15 rfl (by kernel_rfl) (by kernel_rfl) ?_
                      go_simp
                      first
                        | refine ⟨.inr (keepS.out _ B7.out), ?_⟩
                        | refine ⟨keepS.out _ B7.out, ?_⟩
                        | skip
                      refine anyEx_one 16 rfl (by kernel_rfl) (by kernel_rfl) ?_
                      refine wp_append_lies _ _ _ 53 rfl 0 62 i1 _ 4 64 Tryz.underlying53 hi1 hy0 hy1 hy2 rfl (by omega) (.slice (some ⟨gL, 0, none⟩) TN cL) TN _ rfl O7.out ⟨w6.heap.size, 0, none⟩ 1 1 [.int .i64 kc, .int .i64 (-1), .slice (some ⟨gM, 0, none⟩) nn.length cM, .slice none 0 0] rfl rfl (World.news_of_block (cs := #[.int .i64 kc, .int .i64 (-1), .slice (some ⟨gM, 0, none⟩) nn.length cM, .slice none 0 0]) (t := 62) (fr := (0, 0)) N7.out) (by simp [Value.oneCell']) (by omega) (by unfold maxLen; omega) (by omega) (by omega) (w6.heap.size + 1) zV7 ?_
                      intro g8 c8 w8 o8 g78 h8 h8l
                      have g78' : (w6.alloc (.cells #[.int .i64 kc, .int .i64 (-1), .slice (some ⟨gM, 0, none⟩) nn.length cM, .slice none 0 0] 62)).grownBy w8 (Value.ownBlock (.slice (some ⟨gL, 0, none⟩) T.L.length cL)) := by rw [hV7]; exact g78
                      have HO' : w4.ownsRow 0 62 4 (.slice (some ⟨gL, 0, none⟩) T.L.length cL) T.L.length xs := by rw [TNE.out]; exact HO.out
                      have PH := push_hdr H4.out HO' B6.out g78'
                      have FIN := Lib.hid (push_done (cN := cM) (k := kc) H4.out HO' B6.out g78' HX.out SN.out (by rw [TNE.out]; exact o8) h8 h8l)
                      have p8 := PH.cell 0 _ rfl
                      have f8 := PH.frozen 0
                      rw [TNE.out] at p8 FIN
                      have x8 : ∀ i, w8.cell? ⟨X, i, none⟩ = w4.cell? ⟨X, i, none⟩ := fun i => World.cell?_of_block (push_other B6.out g78' X XL4 Xg)
                      have S8 := Lib.hid (show w8.cell? ⟨p, 0, none⟩ = some (.slice (some ⟨gL, 0, none⟩) TN cL) ∧ w8.cell? ⟨X, 0, none⟩ = some (.int .i64 kc) ∧ w8.cell? ⟨X, 2, none⟩ = some (.slice (some (hd c).nA) ns.length (hd c).nc) from ⟨p8, (x8 0).trans (KX.out _ BX4.out).1, (x8 2).trans (KX.out _ BX4.out).2⟩)
                      obtain ⟨W9, hW9⟩ : ∃ W9, w8.setCell ⟨p, 0, none⟩ (.slice (some ⟨g8, 0, none⟩) (TN + 1) c8) = W9 := ⟨_, rfl⟩
                      rw [hW9] at FIN
                      have G := Lib.hid (show RefTo w p F (t.grow c nm) (mkV ((t.L.length : Int), 0)) (.returned (mkV ((t.L.length : Int), 0))) W9 from
                        ⟨_, rfl, by rw [EQ.out, NNE.out]; exact FIN.out.1, CH.out.trans FIN.out.2 (fun x hx => (SU.out x hx).imp_right fun h => Nat.le_trans hws h), fun b (hb : More F' w4 W9 b) => hb.elim (fun h => (SU.out b h).imp_right fun h => Nat.le_trans hws h) (fun h => .inr (Nat.le_trans CH.out.size h.1))⟩)
                      clear o8 g78 h8 g78' HO' PH FIN x8 p8
                      refine ⟨.inr S8.out, ?_⟩
                      refine anyEx_one 17 rfl (by kernel_rfl) (by kernel_rfl) ?_
                      go_simp
                      first
                        | refine ⟨.inr S8.out, ?_⟩
                        | refine ⟨S8.out, ?_⟩
                        | skip
                      refine anyEx_one 18 rfl (by kernel_rfl) (by kernel_rfl) ?_
                      go_simp
                      first
                        | refine ⟨.inr S8.out, ?_⟩
                        | refine ⟨S8.out, ?_⟩
                        | skip
                      have p8 := S8.out.1
                      refine anyEx_one 19 rfl (by kernel_rfl) (by kernel_rfl) ?_
                      go_simp
                      first
                        | refine ⟨.inl (by simp), rfl, ?_⟩
                        | refine ⟨rfl, ?_⟩
                        | skip
                      go_wp2_with fail
                      go_ret2
                      rw [HR.out]
                      exact G.out
end Go.Proofs.YtjodmjadpooipaaGreatDoor.Sh
