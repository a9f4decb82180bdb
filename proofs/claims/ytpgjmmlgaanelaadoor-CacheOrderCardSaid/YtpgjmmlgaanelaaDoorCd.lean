/-
  slices.Contains and slices.DeleteFunc of rows of ints that the call owns; the closure of CacheOrder.
-/
import Derived.Test.YtpgjmmlgaanelaaDoorCf
import Derived.Test.YtpgjmmlgaanelaaDoorPl
import Derived.Test.YtpgjmmlgaanelaaDoorGen
import Derived.Sort.OwnSortedInts
namespace Go.Proofs.YtpgjmmlgaanelaaDoor.Ch
open Go Go.RowKit Go.Sort

theorem contains_any (P : Nat → Prop) (A : Option Addr) (xs : List Int) (c : Nat) (x : Int) (w : World) (h : SlI w P A xs) (hx : xs.length ≤ 8796093022208) (b : Bool) (hb : decide (x ∈ xs) = b) :
    Calls Tryd.prog 21 #[.slice A xs.length c, .int .i64 x] w fun e w' => e = .returned (.bool b) ∧ w = w' := by
  rcases Nat.eq_zero_or_pos xs.length with h0 | h0
  · obtain rfl := List.eq_nil_of_length_eq_zero h0
    refine (Tryd.slices_Contains_int_empty A c x w).mono ?_
    rintro e w' ⟨rfl, rfl⟩
    exact ⟨by rw [← hb]; simp, rfl⟩
  · obtain ⟨g, rfl⟩ := h.plain h0
    refine (Tryd.slices_Contains_int g 0 xs.length c xs x w (Nat.le_refl _) (by omega) h.cells).mono ?_
    rintro e w' ⟨rfl, rfl⟩
    refine ⟨?_, rfl⟩
    rw [← hb, List.take_length]
    congr 2
    rw [Bool.eq_iff_iff]
    simp
/-- The closure says whether a number is that of the box. -/
theorem closure_gives (lim x : Int) (B : Nat) (W : World) (hc : W.cell? ⟨B, 0, none⟩ = some (.int .i64 lim)) :
    Go.Proofs.FnGives Tryd.prog 24 #[.pointer (some ⟨B, 0, none⟩)] #[.int .i64 x] (.bool (decide (x = lim))) W := by
  show Calls Tryd.prog 24 #[.int .i64 x, .pointer (some ⟨B, 0, none⟩)] W _
  go_enter Tryd.func24, Tryd.ntmps24
  go_wp2
  all_goals (go_ret; exact ⟨ret_bool (by rw [Bool.eq_iff_iff]; simp), 0, rfl⟩)
theorem closure_pred (lim : Int) (B : Nat) (w : World) (hB : B < w.heap.size) (hcell : w.cell? ⟨B, 0, none⟩ = some (.int .i64 lim)) :
    Go.Proofs.PredAt Tryd.prog 24 #[.pointer (some ⟨B, 0, none⟩)] (Value.int .i64) (fun x => decide (x = lim)) w :=
  fun W x hb => closure_gives lim x B W ((hb.cell (p := ⟨B, 0, none⟩) hB).trans hcell)
theorem closure_over (lim : Int) (B blk off size : Nat) (w : World) (hB : B < w.heap.size) (hne : B ≠ blk) (hcell : w.cell? ⟨B, 0, none⟩ = some (.int .i64 lim)) :
    Go.Proofs.PredOver Tryd.prog 24 #[.pointer (some ⟨B, 0, none⟩)] (Value.int .i64) (fun x => decide (x = lim)) blk off size w :=
  fun n os dk x _ => closure_gives lim x B _ (by
    unfold sortWorld
    rw [cell?_grow _ _ _ (by show B < (putRow _ _ _ _ _).heap.size; rw [size_putRow]; exact hB), cell?_putRow_other _ _ blk off _ _ (Or.inl hne)]
    exact hcell)
theorem own_prefix {w : World} {base : Nat} {e : TypeId} {g n cap k : Nat} {xs : List Value} (h : w.ownsRow base e 1 (.slice (some ⟨g, 0, none⟩) n cap) n xs) (hk : k ≤ n) : w.ownsRow base e 1 (.slice (some ⟨g, 0, none⟩) k cap) k (xs.take k) := by
  rcases h.2 with ⟨h', _⟩ | ⟨g', cap', cur, e', hb, hg, hn, hm, hs, ht⟩
  · cases h'
  · injection e' with e1 e2 e3
    injection e1 with e1
    injection e1 with e1
    subst e1 e3
    have hl := h.1
    refine ⟨by rw [List.length_take, hl]; omega, .inr ⟨g, cap, cur, rfl, hb, hg, by omega, hm, hs, ?_⟩⟩
    rw [← ht, List.take_take, Nat.mul_one, Nat.mul_one, Nat.min_eq_left hk]
/-- slices.DeleteFunc of a row of the call's own, nil or not. -/
theorem delete_any (base : Nat) (v : Value) (D : List Int) (lim : Int) (B : Nat) (w : World) (ho : OwnI w base v D) (hl : D.length ≤ 4) (hB : B < w.heap.size) (hb0 : v.ownBlock ≠ some B) (hcell : w.cell? ⟨B, 0, none⟩ = some (.int .i64 lim)) :
    Calls Tryd.prog 23 #[v, .func (.func 24) #[] #[.pointer (some ⟨B, 0, none⟩)]] w fun e w' =>
      ∃ v', e = .returned v' ∧ OwnI w' base v' (D.filter fun x => !decide (x = lim)) ∧ v'.ownBlock = v.ownBlock ∧ w.grownBy w' v.ownBlock := by
  have ho' := ho
  rcases ho.2 with ⟨rfl, h0⟩ | ⟨g, cap, cur, rfl, hb, hg, hn, hm, hs, ht⟩
  · have : D = [] := List.eq_nil_of_length_eq_zero h0
    subst this
    have hidx := Go.Proofs.AnyE.slices_IndexFunc_empty Tryd.idxF none 0 (.func (.func 24) #[] #[.pointer (some ⟨B, 0, none⟩)]) w
    change Calls Tryd.prog 37 _ _ _ at hidx
    go_enter Tryd.func23, Tryd.ntmps23
    go_wp2_with fail
    refine hidx.mono ?_
    rintro e w' ⟨rfl, rfl⟩
    go_wp2_with fail
    go_ret
    exact ⟨.slice none 0 0, rfl, World.ownsRow_nil _ _ _ _, rfl, ⟨rfl, rfl, rfl, Nat.le_refl _, fun _ _ _ => rfl⟩⟩
  · have eg : ∀ args w, (callFunc 24 args).run Tryd.prog w = .ok (.enter 24 args) w := enters_of Tryd.func24 (by kernel_rfl) rfl
    have hne : B ≠ g := fun e => hb0 (by rw [e]; rfl)
    have hcon := Go.Proofs.AnyE.slices_DeleteFunc Tryd.delF (Value.int .i64) (fun _ => rfl) (fun x => decide (x = lim)) 24 #[.pointer (some ⟨B, 0, none⟩)] eg 0 Tryd.zeroValue3 g 0 cap D.toArray w
      (closure_pred lim B w hB hcell) (closure_over lim B g 0 _ w hB hne hcell) (holds_of_blockI hg (by simpa using ht)) (by simp; omega) (by simpa using hn)
    change Calls Tryd.prog 23 _ _ _ at hcon
    simp only [List.size_toArray] at hcon
    refine hcon.mono ?_
    rintro e w' ⟨rfl, q, rfl⟩
    obtain ⟨r, hr⟩ : ∃ r, (D.filter fun x => !decide (x = lim)) = r := ⟨_, rfl⟩
    have rl : r.length ≤ D.length := by rw [← hr]; exact List.length_filter_le _ _
    rw [hr]
    have hz : (r ++ List.replicate (D.length - r.length) 0).length = D.length := by rw [List.length_append, List.length_replicate]; omega
    have o1 := ownsRow_sortedI (w := w) (n := q) (os := #[]) (e := 3) (base := base) (ss := D) hz hb hg hn hm (by simpa using hs)
    have o2 := own_prefix o1 rl
    refine ⟨_, rfl, ?_, rfl, ?_⟩
    · unfold OwnI
      have e1 : (List.map (Value.int .i64) (r ++ List.replicate (D.length - r.length) 0)).take r.length = r.map (Value.int .i64) := by rw [List.map_append, List.take_left' (by rw [List.length_map])]
      rw [e1] at o2
      exact o2
    · exact grownBy_sortedI (w := w) (n := q) (os := #[]) _
end Go.Proofs.YtpgjmmlgaanelaaDoor.Ch
