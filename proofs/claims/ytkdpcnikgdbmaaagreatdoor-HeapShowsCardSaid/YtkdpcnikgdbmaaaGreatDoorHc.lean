/-
  Contract of eachNamed.
-/
import Derived.Test.YtkdpcnikgdbmaaaGreatDoorHb
import Derived.Maps.Own
import Derived.Maps.OwnOps
import Derived.Maps.Views
import Derived.Maps.OwnSet
import Derived.Lib.Walk
namespace Go.Proofs.YtkdpcnikgdbmaaaGreatDoor.Hp
open Go Go.RowKit Go.Maps Va

instance (x : ByteArray) (l : List ByteArray) : Decidable (x ∈ l) := @List.instDecidableMemOfLawfulBEq ByteArray instBEqOfDecidableEq inferInstance x l
theorem strLaw : Keyed Tryz.prog 9 := string_keyed Tryz.underlying9
theorem zeroBool (w : World) : (zeroValue 4).run Tryz.prog w = .ok (.bool false) w := by kernel_rfl
/-- Block b is a set of at most k names: those of l. -/
def Seen (w : World) (b k : Nat) (l : List ByteArray) : Prop :=
  ∃ D : DataW Unit, w.ownsMap Tryz.prog 9 (plainElem Tryz.prog 4) b k D ∧ ∀ s : ByteArray, s.size ≤ maxLen → D.atKey (.string s.data.toList) (.lit (.bool false)) = .lit (.bool (decide (s ∈ l)))
theorem Seen.lt {w : World} {b k : Nat} {l : List ByteArray} (h : Seen w b k l) : b < w.heap.size := by obtain ⟨_, h, _⟩ := h; exact h.lt
set_option maxRecDepth 100000 in
theorem Seen.look {w : World} {b k : Nat} {l : List ByteArray} (h : Seen w b k l) (s : ByteArray) (hs : s.size ≤ maxLen) : (Instr.lookup 150 (.map (some b)) (.string s) false).run Tryz.prog w = .ok (.bool (decide (s ∈ l))) w := by
  obtain ⟨D, ho, hD⟩ := h
  obtain ⟨v, ps, hrun, hv⟩ := ho.lookup strLaw Tryz.underlying150 (zeroBool w) (plainElem_bool Tryz.underlying4 false) (Go.WideMaps.keyOf_string_mk Tryz.underlying9 hs)
  rw [hD s hs] at hv
  rw [hrun]
  congr 1
  unfold plainElem at hv
  rw [Tryz.underlying4] at hv
  cases v <;> simp at hv
  rw [hv.1]
theorem data_inj {s x : ByteArray} (h : s.data.toList = x.data.toList) : s = x := by
  cases s; cases x
  congr 1
  exact Array.ext' h
theorem Seen.after {w1 : World} {b k : Nat} {l : List ByteArray} {D : DataW Unit} {s : ByteArray} (hm : IsMap D) (hD : ∀ s : ByteArray, s.size ≤ maxLen → D.atKey (.string s.data.toList) (.lit (.bool false)) = .lit (.bool (decide (s ∈ l))))
    (h : w1.ownsMap Tryz.prog 9 (plainElem Tryz.prog 4) b (k + 1) (D.put (.string s.data.toList) (.lit (.bool true)))) : Seen w1 b (k + 1) (l ++ [s]) := by
  refine ⟨_, h, fun x hx => ?_⟩
  by_cases e : x = s
  · subst e
    rw [atKey_put_same hm (by trivial)]
    simp
  · rw [atKey_put_other (fun h => e (data_inj (Lit.string.inj h))), hD x hx]
    simp [e]
/-- A slice of strings that is read; its cells lie in blocks of P. -/
def SlS (w : World) (P : Nat → Prop) (A : Option Addr) (ns : List ByteArray) : Prop :=
  ∀ j x, ns[j]? = some x → ∃ b o, A = some ⟨b, o, none⟩ ∧ P b ∧ w.cell? ⟨b, o + j, none⟩ = some (.string x)
theorem SlS.keep {w w' : World} {P Q : Nat → Prop} {A : Option Addr} {ns : List ByteArray} (h : SlS w P A ns) (hk : ∀ b, P b → Q b ∧ w'.heap[b]? = w.heap[b]?) : SlS w' Q A ns := fun j z hz => by
  obtain ⟨b, o, rfl, hb, hc⟩ := h j z hz
  exact ⟨b, o, rfl, (hk _ hb).1, (World.cell?_of_block (a := ⟨b, o + j, none⟩) (hk _ hb).2 : w'.cell? ⟨b, o + j, none⟩ = w.cell? ⟨b, o + j, none⟩).trans hc⟩
theorem SlS.low {w w' : World} {P : Nat → Prop} {A : Option Addr} {ns : List ByteArray} (h : SlS w P A ns) (hP : ∀ b, P b → b < w.heap.size) (hb : Below w.heap.size w w') : SlS w' P A ns :=
  h.keep fun b h' => ⟨h', hb.block b (hP b h')⟩
def bE : ByteArray := ⟨#[]⟩
theorem each_snoc {l : List ByteArray} {k : Nat} (h : k < l.length) : (bE :: l.take (k + 1)).Nodup ↔ (bE :: l.take k).Nodup ∧ l[k] ∉ bE :: l.take k := by
  rw [List.take_succ_eq_append_getElem h, ← List.cons_append, List.nodup_append]
  constructor
  · rintro ⟨h1, _, h3⟩
    exact ⟨h1, fun hm => h3 _ hm _ (by simp) rfl⟩
  · rintro ⟨h1, h2⟩
    refine ⟨h1, by simp, fun a ha b hb e => ?_⟩
    simp at hb
    subst hb; subst e
    exact h2 ha
theorem each_iff (ns : List ByteArray) (m : Nat) : eachB ns m = true ↔ ns.length = m ∧ (bE :: ns).Nodup := by
  unfold eachB
  simp only [Bool.and_eq_true, decide_eq_true_eq, List.all_eq_true, List.nodup_cons]
  constructor
  · rintro ⟨⟨h1, h2⟩, h3⟩
    exact ⟨h1, fun hm => h3 _ hm rfl, h2⟩
  · rintro ⟨h1, h2, h3⟩
    refine ⟨⟨h1, h3⟩, fun s hs => ?_⟩
    intro h0
    refine h2 (by
      have : s = bE := data_inj (List.eq_nil_of_length_eq_zero (by rw [Array.length_toList]; exact h0))
      rw [← this]; exact hs)
theorem each_no {ns : List ByteArray} {m k : Nat} (h : k < ns.length) (hm : ns[k] ∈ bE :: ns.take k) : eachB ns m = false := by
  rw [Bool.eq_false_iff]
  intro e
  have h1 := ((each_iff ns m).1 e).2
  have h2 : (bE :: ns.take (k + 1)).Nodup := by
    have : (bE :: ns.take (k + 1)) = (bE :: ns).take (k + 2) := by rw [List.take_succ_cons]
    rw [this]; exact h1.sublist (List.take_sublist _ _)
  exact ((each_snoc h).1 h2).2 hm
set_option maxRecDepth 100000 in
set_option maxHeartbeats 4000000 in
theorem each_any (P : Nat → Prop) (A : Option Addr) (ns : List ByteArray) (c : Nat) (m : Nat) (w : World) (h : SlS w P A ns) (hP : ∀ b, P b → b < w.heap.size) (hl : ns.length ≤ 4398046511104) (hm : m ≤ 4398046511104) (hf : ∀ s ∈ ns, s.size ≤ maxLen) :
    Calls Tryz.prog 104 #[.slice A ns.length c, .int .i64 m] w fun e w' => e = .returned (.bool (eachB ns m)) ∧ Below w.heap.size w w' := by
  have H := Lib.hid h
  have HP := Lib.hid hP
  have HF := Lib.hid hf
  have hmm := @run_makeMap Tryz.prog
  clear h hP hf
  by_cases hml : ns.length = m
  · subst hml
    have KE := Lib.hid (Go.WideMaps.keyOf_string_mk (P := Tryz.prog) Tryz.underlying9 (show bE.size ≤ maxLen by unfold maxLen; decide))
    have M0 := World.ownsMap_made (H := Unit) w Tryz.prog 9 (plainElem Tryz.prog 4)
    obtain ⟨w2, hrun, ho, hg⟩ := M0.update strLaw Tryz.underlying150 (by unfold maxLen; omega) KE.out (plainElem_bool (H := Unit) Tryz.underlying4 true)
    rw [show bE = ⟨#[]⟩ from rfl] at hrun
    go_enter Tryz.func104, Tryz.ntmps104
    have S2 := Lib.hid (show Seen w2 w.heap.size 1 [bE] from Seen.after (l := []) M0.isMap (fun s _ => by simp [DataW.atKey]) ho)
    have B2 := Lib.hid (((Below.refl _ w).alloc (Nat.le_refl _) (.map #[] 0)).grown hg (by simp) (fun k hk => by injection hk with hk; omega))
    clear ho hg M0
    go_wp2_with fail
    clear hrun
    go_loopw [16] (fun i wr => ∃ k : Nat, k ≤ ns.length ∧ i = .int .i64 k ∧ Hid ((bE :: ns.take k).Nodup) ∧ Hid (Seen wr w.heap.size (k + 1) (bE :: ns.take k)) ∧ Hid (Below w.heap.size w wr)) (fun i _ => ns.length - (intOf i).toNat)
    case atStart => exact ⟨0, by omega, rfl, Lib.hid (by simp), S2, B2⟩
    case round =>
      clear S2 B2
      obtain ⟨k, hk, rfl, hn, hs, hw⟩ := hrel
      by_cases hlt : k < ns.length
      · have hg := List.getElem?_eq_getElem hlt
        obtain ⟨b, o, rfl, hb, c0⟩ := H.out.low HP.out hw.out k _ hg
        have FT := Lib.hid (HF.out _ (List.getElem_mem hlt))
        have ES := Lib.hid (each_snoc hlt)
        have EN := Lib.hid (fun m => each_no (m := m) hlt)
        have TK := Lib.hid (show bE :: ns.take (k + 1) = (bE :: ns.take k) ++ [ns[k]] by rw [List.take_succ_eq_append_getElem hlt, List.cons_append])
        have ki : (k : Int) < ns.length := by omega
        generalize ns[k] = s at *
        clear hg hb
        have KX := Lib.hid (Go.WideMaps.keyOf_string_mk (P := Tryz.prog) Tryz.underlying9 FT.out)
        have LK := hs.out.look s FT.out
        by_cases hmem : s ∈ bE :: ns.take k
        · have E2 := Lib.hid (EN.out ns.length hmem)
          rw [decide_eq_true hmem] at LK
          clear hmem
          go_wp2_with fail
          go_ret
          exact ⟨by rw [E2.out]; rfl, hw.out⟩
        · have N2 := Lib.hid (ES.out.2 ⟨hn.out, hmem⟩)
          rw [decide_eq_false hmem] at LK
          obtain ⟨D, ho, hD⟩ := hs.out
          have HD := Lib.hid hD
          have IM := Lib.hid ho.isMap
          clear hmem hD
          go_wp2_with (at_mapUpdate; refine wpList_mapUpdate_own _ rfl _ _ _ 150 rfl 9 4 strLaw Tryz.underlying150 _ w.heap.size (k + 1) _ rfl ho (by unfold maxLen; omega) _ _ _ rfl rfl KX.out _ [] (plainElem_bool Tryz.underlying4 true) ?_)
          intro w3 ho1 hg1
          have S3 := Lib.hid (show Seen w3 w.heap.size (k + 1 + 1) (bE :: ns.take (k + 1)) by rw [TK.out]; exact Seen.after IM.out HD.out ho1)
          have B3 := Lib.hid (hw.out.grown hg1 hw.out.size (fun k hk => by injection hk with hk; omega))
          clear ho ho1 hg1 LK
          go_wp2_with fail
          go_roundw
          case rel => exact ⟨k + 1, by omega, by go_num, N2, S3, B3⟩
          case measure => simp [intOf]; omega
      · obtain rfl : k = ns.length := by omega
        have E2 := Lib.hid (show eachB ns ns.length = true from (each_iff ns _).2 ⟨rfl, by have := hn.out; rw [List.take_length] at this; exact this⟩)
        go_wp2_with fail
        go_ret
        exact ⟨by rw [E2.out]; rfl, hw.out⟩
  · have E := Lib.hid (show eachB ns m = false by unfold eachB; rw [decide_eq_false hml]; rfl)
    have hml' : ((ns.length : Int) == m) = false := by simp; omega
    go_enter Tryz.func104, Tryz.ntmps104
    go_wp2_with fail
    go_ret
    exact ⟨by rw [E.out]; rfl, Below.refl _ _⟩
end Go.Proofs.YtkdpcnikgdbmaaaGreatDoor.Hp
