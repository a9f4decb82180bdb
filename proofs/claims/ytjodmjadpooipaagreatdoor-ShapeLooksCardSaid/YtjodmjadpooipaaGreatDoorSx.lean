/-
  The set that ShapeMakes keeps.
-/
import Derived.Test.YtjodmjadpooipaaGreatDoorSu
import Derived.Maps.Own
import Derived.Maps.OwnOps
import Derived.Maps.Views
import Derived.Maps.OwnSet
namespace Go.Proofs.YtjodmjadpooipaaGreatDoor.Sh
open Go Go.RowKit Go.Maps

theorem strLaw : Keyed Tryz.prog 9 := string_keyed Tryz.underlying9
theorem zeroBool (w : World) : (zeroValue 4).run Tryz.prog w = .ok (.bool false) w := by kernel_rfl
/-- Block b is a set of at most k names: those of l. -/
def Seen (w : World) (b k : Nat) (l : List ByteArray) : Prop :=
  ∃ D : DataW Unit, w.ownsMap Tryz.prog 9 (plainElem Tryz.prog 4) b k D ∧ ∀ s : ByteArray, s.size ≤ maxLen → D.atKey (.string s.data.toList) (.lit (.bool false)) = .lit (.bool (decide (s ∈ l)))
theorem Seen.made (w : World) : Seen (w.alloc (.map #[] 0)) w.heap.size 0 [] := ⟨_, World.ownsMap_made _ _ _ _, fun s _ => by simp [DataW.atKey]⟩
theorem Seen.lt {w : World} {b k : Nat} {l : List ByteArray} (h : Seen w b k l) : b < w.heap.size := by obtain ⟨_, h, _⟩ := h; exact h.lt
theorem data_inj {s x : ByteArray} (h : s.data.toList = x.data.toList) : s = x := by
  cases s; cases x
  congr 1
  exact Array.ext' h
theorem Seen.after {w w1 : World} {b k : Nat} {l : List ByteArray} {D : DataW Unit} {s : ByteArray} (h0 : w.ownsMap Tryz.prog 9 (plainElem Tryz.prog 4) b k D) (hD : ∀ s : ByteArray, s.size ≤ maxLen → D.atKey (.string s.data.toList) (.lit (.bool false)) = .lit (.bool (decide (s ∈ l))))
    (h : w1.ownsMap Tryz.prog 9 (plainElem Tryz.prog 4) b (k + 1) (D.put (.string s.data.toList) (.lit (.bool true)))) : Seen w1 b (k + 1) (l ++ [s]) := by
  refine ⟨_, h, fun x hx => ?_⟩
  by_cases e : x = s
  · subst e
    rw [atKey_put_same h0.isMap (by trivial)]
    simp
  · rw [atKey_put_other (fun h => e (data_inj (Lit.string.inj h))), hD x hx]
    simp [e]
/-- What right has become after k names. -/
def rightB (ns : List ByteArray) (k : Nat) : Bool := decide (ns.length ≤ 64 ∧ (ns.take k).Nodup ∧ ∀ x ∈ ns.take k, x.size ≠ 0)
theorem right_zero (ns : List ByteArray) : rightB ns 0 = decide (ns.length ≤ 64) := by unfold rightB; simp
theorem right_all (ns : List ByteArray) : rightB ns ns.length = okNames ns := by unfold rightB okNames; rw [List.take_length]
theorem right_step (ns : List ByteArray) (k : Nat) (h : k < ns.length) : rightB ns (k + 1) = (rightB ns k && (decide (ns[k].size ≠ 0) && !decide (ns[k] ∈ ns.take k))) := by
  unfold rightB
  rw [take_next _ _ h, Bool.eq_iff_iff]
  simp only [Bool.and_eq_true, Bool.not_eq_true', decide_eq_true_eq, decide_eq_false_iff_not, List.nodup_append, List.mem_append, List.mem_singleton]
  constructor
  · rintro ⟨a, ⟨b, _, c⟩, d⟩
    exact ⟨⟨a, b, fun x hx => d x (.inl hx)⟩, d _ (.inr rfl), fun hm => c _ hm _ rfl rfl⟩
  · rintro ⟨⟨a, b, d⟩, e, f⟩
    refine ⟨a, ⟨b, by simp, fun x hx y hy e => ?_⟩, fun x hx => ?_⟩
    · subst hy; subst e; exact f hx
    · rcases hx with hx | rfl
      · exact d x hx
      · exact e
end Go.Proofs.YtjodmjadpooipaaGreatDoor.Sh
