/-
  The walk of ShapeAdds.
-/
import Derived.Test.YtjodmjadpooipaaGreatDoorSu
import Derived.Deep.RegionLaw
import Derived.Deep.RegionHeld3
namespace Go.Proofs.YtjodmjadpooipaaGreatDoor.Sh
open Go Go.RowKit

section
variable {P : Program} {ops : Array Oper} {Q : Exit → Go.Act → World → Prop} {a : Go.Act} {w : World} {rest : List Oper} {o : Oper}
theorem wpList_when (hw : Region.wanted o (yielded ops a.tmps) = true) (h : ∀ K : Go.Act → World → Prop, (∀ a w, wpList P ops Q rest a w → K a w) → o.wp P a w K Q) : wpList P ops Q (o :: rest) a w :=
  wpList_step fun K hK => by simp only [hw, if_true]; exact h K hK
theorem wpList_append_if (hw : Region.wanted o (yielded ops a.tmps) = true) (s x : Operand) (t : TypeId)
    (ho : o.op = .call { callee := .builtin .append, args := #[s, x], argTypes := #[t, t] })
    (base : Nat) (e : TypeId) (i : TypeInfo) (z : Value) (size bytes : Nat) (ht : P.underlying t = some (.slice e)) (hi : P.info? e = some i) (hz : i.zero = some z)
    (hsize : i.size = size) (hby : i.bytes = bytes) (hzs : z.cells.size = size) (hsz : 0 < size)
    (v : Value) (n : Nat) (xs : List Value) (hs : a.eval s = v) (hown : w.ownsRow base e size v n xs)
    (ad : Addr) (m c : Nat) (news : List Value) (hx : a.eval x = .slice (some ad) m c) (hl : news.length = m * size) (hnews : ∀ j u, news[j]? = some u → w.cell? (ad.add j) = some u) (h1 : ∀ u ∈ news, u.oneCell' = true)
    (h63 : n + m ≤ maxLen) (hbytes : (n + m) * bytes ≤ 140737488355328) (hbase : base ≤ w.heap.size)
    (h : ∀ v' w', w'.ownsRow base e size v' (n + m) (xs ++ news) → w.grownBy w' v.ownBlock → (v' = .slice none 0 0 ↔ v = .slice none 0 0 ∧ m = 0) → wpList P ops Q rest (a.put o.dst v') w') : wpList P ops Q (o :: rest) a w :=
  wpList_when hw fun _ hK => wp_append_own w s x t ho base e i z size bytes ht hi hz hsize hby hzs hsz v n xs hs hown ad m c news hx hl hnews h1 h63 hbytes hbase fun v' w' h2 h3 h4 => hK _ _ (h v' w' h2 h3 h4)
end
theorem add_name {t : Tre} {s : Nat} {nm : ByteArray} (hs : s < t.L.length) (h : nm.size = 0 ∨ nm ∈ (t.sh s).names) : t.add s nm = ((0, 13), t) := by
  unfold Tre.add
  rw [if_neg (by rw [there_nat hs]; decide), if_pos (by rw [namesI_nat hs]; exact h)]
theorem slot_in {t : Tre} {s : Nat} {nm : ByteArray} (hs : s < t.L.length) (h : nm ∈ (t.sh s).names) : slotL (t.namesI s) nm = ((posL nm (t.sh s).names : Int), true) := by
  unfold slotL; rw [namesI_nat hs, if_pos h]
theorem slot_out {t : Tre} {s : Nat} {nm : ByteArray} (hs : s < t.L.length) (h : nm ∉ (t.sh s).names) : slotL (t.namesI s) nm = (0, false) := by
  unfold slotL; rw [namesI_nat hs, if_neg h]
theorem nat64 {s N : Nat} (h : s < N) (hN : N ≤ 200) : I64 (s : Int) := ⟨by omega, by omega⟩
theorem names_len {fl : List (List ByteArray)} {t : Tre} (h : Inv fl t) (s : Nat) : (t.sh s).names.length ≤ 6 := nodup_len (h.ok.wf.na s) (h.ok.q s)
theorem names_short {fl : List (List ByteArray)} {t : Tre} (h : Inv fl t) (s : Nat) : ∀ x ∈ (t.sh s).names, x.size ≤ maxLen := fun x hx => by
  have := nameL_size x (h.ok.q s x hx); unfold maxLen; omega
end Go.Proofs.YtjodmjadpooipaaGreatDoor.Sh
