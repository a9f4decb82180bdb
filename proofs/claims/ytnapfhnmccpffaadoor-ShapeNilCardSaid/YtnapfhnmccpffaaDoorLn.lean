/-
  What package shape does with nil and zero trees, of the landed code.
-/
import Derived.Test.YtnapfhnmccpffaaDoorLc
namespace Go.Proofs.YtnapfhnmccpffaaDoor.Sh
open Go Go.RowKit

theorem theNil : NilKit where
  add w v s nm h hs _ := z_add w v s nm h hs
  split w v s h hs := z_split w v s h hs
  slot w v s nm h hs _ := z_slot w v s nm h hs
  find w v h := z_find w v h
  make w v h := z_make w v h
  merge w v s h hs := z_merge w v s h hs
  root w v h := z_root w v h
  cls w v s h hs := z_class w v s h hs
  canon w v s h hs := (z_canon w v s h hs).mono fun _ _ ⟨he, hw⟩ => ⟨he, by rw [← hw]; exact Below.refl _ _⟩
  names w v s h hs := z_names w v s h hs
  count w v h := (z_count w v h).mono fun _ _ ⟨he, hw⟩ => ⟨he, by rw [← hw]; exact Below.refl _ _⟩
  text w v h := z_text w v h
end Go.Proofs.YtnapfhnmccpffaaDoor.Sh
