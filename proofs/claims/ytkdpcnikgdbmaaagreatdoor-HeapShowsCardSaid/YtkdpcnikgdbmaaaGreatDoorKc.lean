/-
  The reference's Right, where cells are right.
-/
import Derived.Test.YtkdpcnikgdbmaaaGreatDoorKa
import Derived.Test.YtkdpcnikgdbmaaaGreatDoorJc
namespace Go.Proofs.YtkdpcnikgdbmaaaGreatDoor.Hp
open Go Go.RowKit Go.Maps Va

theorem nodup_pos {l : List ByteArray} (h : l.Nodup) {j : Nat} {s : ByteArray} (hs : l[j]? = some s) : pos l s = some j := by
  refine pos_at hs fun hm => ?_
  obtain ⟨i, hi⟩ := List.mem_iff_getElem?.1 hm
  have hij := (List.getElem?_eq_some_iff.1 hi).1
  rw [List.length_take] at hij
  rw [List.getElem?_take_of_lt (by omega)] at hi
  have a := List.getElem?_eq_some_iff.1 hs
  have b := List.getElem?_eq_some_iff.1 hi
  have hne := List.pairwise_iff_getElem.1 h i j b.1 a.1 (by omega)
  exact hne (by rw [a.2, b.2])
theorem refRight_ok (P : Nat → Prop) (c : Cel) (A B : Option Addr) (n nc m ic : Nat) (w : World) (hn : c.names.length = n) (hm : c.items.length = m) (hS : SlS w P A c.names) (hV : ValsAt w P B c.items) (hP : ∀ b, P b → b < w.heap.size) (hc : Cok c) :
    Calls Tryz.prog 57 #[celV c (.slice A n nc) (.slice B m ic)] w fun e w' => e = .returned (.bool true) ∧ Below w.heap.size w w' := by
  obtain ⟨r1, r2, r3, r4, r5⟩ := hc
  unfold Cel.right at r1
  rw [Bool.and_eq_true, decide_eq_true_eq] at r1
  obtain ⟨ht, r1⟩ := r1
  have st : storB c.items = true → ∀ v ∈ c.items, okB v = true := fun h v hv => by
    unfold storB at h
    simp only [Bool.and_eq_true, List.all_eq_true] at h
    exact h.2 v hv
  have em : ∀ l : List ByteArray, l.isEmpty = true → l.length = 0 := fun l h => by rw [List.isEmpty_iff.1 h]; rfl
  have fin := fun (hf : ∀ v ∈ c.items, okB v = true) hk => refRight_cell P c A B n nc m ic w hn hm hS hV hP (by omega) (by omega) (fun v hv => ⟨hf v hv, (r2 v hv).2.2⟩) ht hk
  split at r1
  · rename_i hk
    simp only [Bool.and_eq_true, decide_eq_true_eq] at r1
    obtain ⟨⟨⟨k1, k2⟩, k3⟩, k4⟩ := r1
    obtain ⟨e1, e2⟩ := (each_iff _ _).1 k4
    rw [List.nodup_cons] at e2
    refine fin (st k3) (.inl ⟨hk, k1, k2, by omega, fun j s hs => ⟨fun h0 => e2.1 ?_, nodup_pos e2.2 hs⟩⟩)
    have : s = bE := data_inj (by
      have h1 : s.data.toList = [] := List.eq_nil_of_length_eq_zero (by simpa using h0)
      rw [h1]; rfl)
    rw [← this]
    exact List.mem_of_getElem? hs
  · split at r1
    · rename_i hk
      simp only [Bool.and_eq_true, decide_eq_true_eq] at r1
      obtain ⟨⟨⟨k1, k2⟩, k3⟩, k4⟩ := r1
      exact fin (st k3) (.inr (.inl ⟨hk, k1, k2, by rw [← hn]; exact em _ k4⟩))
    · split at r1
      · rename_i hk
        simp only [Bool.and_eq_true, decide_eq_true_eq] at r1
        obtain ⟨⟨⟨k1, k2⟩, k3⟩, k4⟩ := r1
        exact fin (st k3) (.inr (.inr (.inl ⟨hk, k1, k2, by rw [← hn]; exact em _ k4⟩)))
      · split at r1
        · rename_i hk
          simp only [Bool.and_eq_true, decide_eq_true_eq] at r1
          obtain ⟨⟨⟨k1, k2⟩, k3⟩, k4⟩ := r1
          unfold targB at k3
          split at k3
          · rename_i v hv
            simp only [Bool.and_eq_true, Bool.or_eq_true, decide_eq_true_eq] at k3
            refine fin (fun u hu => ?_) (.inr (.inr (.inr ⟨hk, k1, k2, by rw [← hn]; exact em _ k4, v, hv, k3.1⟩)))
            rw [hv] at hu
            obtain rfl := List.mem_singleton.1 hu
            exact k3.2
          · cases k3
        · cases r1
end Go.Proofs.YtkdpcnikgdbmaaaGreatDoor.Hp
