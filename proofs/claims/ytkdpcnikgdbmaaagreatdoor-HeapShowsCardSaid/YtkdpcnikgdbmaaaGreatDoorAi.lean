/-
  Ints of 64 bits; small words that all texts of layer 6 share.
-/
import Derived.Test.YtkdpcnikgdbmaaaGreatDoorAm
import Derived.WalkKit
import Derived.WalkLawsBesides
import Derived.WalkSpells
import Derived.Deep.QuietTactic
import Derived.BigQuiet
import Derived.Lib.Hide
namespace Go.Proofs.YtkdpcnikgdbmaaaGreatDoor.Ac
open Go Go.RowKit

def I64 (n : Int) : Prop := -9223372036854775808 ≤ n ∧ n ≤ 9223372036854775807
theorem ret_bool {a b : Bool} (h : a = b) : Ending.returned (.bool a) = .returned (.bool b) := by rw [h]
theorem quo_mul (s e : Int) (hs : 0 ≤ s) (he : 0 < e) : 0 ≤ s / e * e ∧ s / e * e ≤ s ∧ s / e * e = s - s % e ∧ 0 ≤ s / e ∧ s / e ≤ s := by
  have h1 := Int.emod_add_mul_ediv s e
  have h2 := mod_bd s e he
  rw [Int.mul_comm] at h1
  have h3 : 0 ≤ s / e := Int.ediv_nonneg hs (by omega)
  have h4 : s / e ≤ s := Int.ediv_le_self _ hs
  have h5 : 0 ≤ s / e * e := Int.mul_nonneg h3 (by omega)
  omega
/-- A quiet contract behind draws. -/
theorem qq {P : Program} {f : FuncId} {args : Array Value} {v : Value} (w : World) (n : Nat) (h : ∀ W : World, Calls P f args W fun e w' => e = .returned v ∧ ∃ m, w' = W.drewN m) :
    Calls P f args (w.drewN n) fun e w' => e = .returned v ∧ ∃ m, w' = w.drewN m :=
  (h _).mono fun _ _ ⟨he, m, hm⟩ => ⟨he, n + m, by rw [hm, World.drewN_drewN]⟩
theorem q_same {P : Program} {f : FuncId} {args : Array Value} {v : Value} (h : ∀ W : World, Calls P f args W fun e w' => e = .returned v ∧ W = w') :
    ∀ W : World, Calls P f args W fun e w' => e = .returned v ∧ ∃ m, w' = W.drewN m := fun W => (h W).mono fun _ _ ⟨he, hm⟩ => ⟨he, 0, by rw [hm]; rfl⟩
end Go.Proofs.YtkdpcnikgdbmaaaGreatDoor.Ac
