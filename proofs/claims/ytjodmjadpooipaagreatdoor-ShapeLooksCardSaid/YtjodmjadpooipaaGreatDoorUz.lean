/-
  What the reference does: the kit of the walk of ShapePlays.
-/
import Derived.Test.YtjodmjadpooipaaGreatDoorTp
import Derived.Test.YtjodmjadpooipaaGreatDoorTg
import Derived.Test.YtjodmjadpooipaaGreatDoorUf
import Derived.Test.YtjodmjadpooipaaGreatDoorUa
namespace Go.Proofs.YtjodmjadpooipaaGreatDoor.Sh
open Go Go.RowKit

theorem inv_n200 {fl : List (List ByteArray)} {t : Tre} (h : Inv fl t) (s : Nat) : (t.sh s).names.length ≤ 200 := Nat.le_trans (nodup_len (h.ok.wf.na s) (h.ok.q s)) (by decide)
theorem nameL_small : ∀ x ∈ nameL, x.size ≤ 1 := by decide
theorem inv_one {fl : List (List ByteArray)} {t : Tre} (h : Inv fl t) (s : Nat) : ∀ x ∈ (t.sh s).names, x.size ≤ 1 := fun x hx => nameL_small x (h.ok.q s x hx)
theorem theRef : RefKit where
  new := fun w A fl c hc h12 h64 h0 => ref_new w A fl c hc h12 h64 h0
  doo := fun w q t G fl x h hi hs hx => ref_do (fun w p t F m s nm h hw hsr h64 hs hnm => ref_add w p t F m s nm h hw hsr h64 hs hnm) (fun w p t F m a h hw hsr h64 ha => ref_split w p t F m a h hw hsr h64 ha) w q t G fl x h hi hs hx
end Go.Proofs.YtjodmjadpooipaaGreatDoor.Sh
