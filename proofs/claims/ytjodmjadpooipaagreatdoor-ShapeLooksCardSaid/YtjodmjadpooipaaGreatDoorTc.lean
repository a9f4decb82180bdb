/-
  The reference's Merge.
-/
import Derived.Test.YtjodmjadpooipaaGreatDoorTb
namespace Go.Proofs.YtjodmjadpooipaaGreatDoor.Sh
open Go Go.RowKit

theorem Chg.set {F : Nat → Prop} (w : World) (p : Addr) (v : Value) (h : F p.block) : Chg F w (w.setCell p v) :=
  ⟨rfl, rfl, rfl, by simp [World.setCell], fun k _ hf => Below.heap_setCell w p v k (fun e => hf (by rw [e]; exact h))⟩
theorem Chg.drewN {F : Nat → Prop} (w : World) (n : Nat) : Chg F w (w.drewN n) := ⟨rfl, rfl, rfl, Nat.le_refl _, fun _ _ _ => rfl⟩
theorem ref_frozen {w : World} {p : Nat} {t : Tre} {F : Nat → Prop} {gL cL : Nat} {vR : Value} {hd : Nat → Hd} (h : RefAt w p t F gL cL vR hd) (i : Nat) : w.frozen? ⟨gL, i, none⟩ = false := by
  obtain ⟨xs, o, _⟩ := h.rows
  exact World.ownsRow.frozenAt o i
set_option maxRecDepth 100000 in
set_option maxHeartbeats 4000000 in
theorem ref_merge (w : World) (p : Nat) (t : Tre) (F : Nat → Prop) (m : Nat) (a b : Int) (h : RefH w p t F) (hw : t.WF m) (h64 : ∀ s, (t.sh s).names.length ≤ 200) (ha : I64 a) (hb : I64 b) :
    Calls Tryz.prog 32 #[.pointer (some ⟨p, 0, none⟩), .int .i64 a, .int .i64 b] w (RefTo w p F (t.merge a b).2 (.int .i64 (t.merge a b).1)) := by
  have H := Lib.hid h
  have HA := Lib.hid ha
  have HB := Lib.hid hb
  cases hta : t.there a
  · have M := Lib.hid (merge_err (t := t) (a := a) (b := b) (by unfold Tre.alike; rw [hta]; rfl))
    have TA := Lib.hid (fun n => there_q w n p t F a h ha false hta)
    clear h hw h64 ha hb hta
    rw [M.out]
    have G := Lib.hid (fun n => RefTo.same (v := .int .i64 1) H.out n)
    go_enter Tryz.func32, Tryz.ntmps32
    go_wp2_with fail
    go_quiet ((go_at_call 40; exact TA.out _))
    go_wp2_with fail
    go_ret
    exact G.out _
  · cases htb : t.there b
    · have M := Lib.hid (merge_err (t := t) (a := a) (b := b) (by unfold Tre.alike; rw [hta, htb]; rfl))
      have TA := Lib.hid (fun n => there_q w n p t F a h ha true hta)
      have TB := Lib.hid (fun n => there_q w n p t F b h hb false htb)
      clear h hw h64 ha hb hta htb
      rw [M.out]
      have G := Lib.hid (fun n => RefTo.same (v := .int .i64 1) H.out n)
      go_enter Tryz.func32, Tryz.ntmps32
      go_wp2_with fail
      go_quiet ((go_at_call 40; first | with_reducible exact TA.out _ | with_reducible exact TB.out _))
      go_wp2_with fail
      go_ret
      exact G.out _
    · have TA := Lib.hid (fun n => there_q w n p t F a h ha true hta)
      have TB := Lib.hid (fun n => there_q w n p t F b h hb true htb)
      obtain ⟨a, rfl⟩ := Int.eq_ofNat_of_zero_le (there_iff.1 hta).1
      obtain ⟨b, rfl⟩ := Int.eq_ofNat_of_zero_le (there_iff.1 htb).1
      have al : a < t.L.length := (there_iff.1 hta).2
      have bl : b < t.L.length := (there_iff.1 htb).2
      obtain ⟨gL, cL, vR, hd, h⟩ := h
      have HAT := Lib.hid h
      have hcap := h.cap
      have few := hw.few
      have c0 := h.c0
      have x0 := h.r0 al
      have x2 := h.r2 al
      have y0 := h.r0 bl
      have y2 := h.r2 bl
      have SA := Lib.hid (h.names a al)
      have SB := Lib.hid (h.names b bl)
      have na := h64 a
      have nb := h64 b
      obtain ⟨ka, hka⟩ : ∃ k, (t.sh a).cls = k := ⟨_, rfl⟩
      obtain ⟨kb, hkb⟩ : ∃ k, (t.sh b).cls = k := ⟨_, rfl⟩
      obtain ⟨la, hla⟩ : ∃ l, (t.sh a).names = l := ⟨_, rfl⟩
      obtain ⟨lb, hlb⟩ : ∃ l, (t.sh b).names = l := ⟨_, rfl⟩
      have AL : t.alike (a : Int) (b : Int) = true ↔ ka = kb ∧ la = lb := by
        rw [alike_iff, ← hka, ← hkb, ← hla, ← hlb]
        exact ⟨fun h => h.2.2, fun h => ⟨hta, htb, h⟩⟩
      rw [hka] at x0
      rw [hkb] at y0
      rw [hla] at x2 SA na
      rw [hlb] at y2 SB nb
      have ai : (a : Int) < t.L.length := by omega
      have bi : (b : Int) < t.L.length := by omega
      have CA := Lib.hid (fun W hW => ref_canon W p t F m (a : Int) hW hw ha)
      have CB := Lib.hid (fun W hW => ref_canon W p t F m (b : Int) hW hw hb)
      have W := Lib.hid hw
      clear h hw h64 ha hb hta htb hka hkb hla hlb
      by_cases hk : ka = kb
      · by_cases hn : la = lb
        · have hal := AL.2 ⟨hk, hn⟩
          have ST := Lib.hid (fun n => strings_q w n _ _ (some (hd a).nA) (some (hd b).nA) la lb (hd a).nc (hd b).nc SA.out SB.out (by omega) (by omega) true (by simp [hn]))
          obtain ⟨ca, hca⟩ : ∃ c, t.canon a = c := ⟨_, rfl⟩
          obtain ⟨cb, hcb⟩ : ∃ c, t.canon b = c := ⟨_, rfl⟩
          have bcl : cb < t.L.length := by rw [← hcb]; exact canon_lt W.out bl
          have acl : ca < t.L.length := by rw [← hca]; exact canon_lt W.out al
          have bci : (cb : Int) < t.L.length := by omega
          have KA := Lib.hid (show t.canonI (a : Int) = (ca : Int) by rw [canonI_nat al, hca])
          have KB := Lib.hid (show t.canonI (b : Int) = (cb : Int) by rw [canonI_nat bl, hcb])
          have MM : t.merge (a : Int) (b : Int) = (0, if ca = cb then t else t.tie ca cb) := by
            unfold Tre.merge; rw [if_neg (by rw [hal]; decide)]; rw [show (a : Int).toNat = a from rfl, show (b : Int).toNat = b from rfl, hca, hcb]
          subst hk
          have HN := Lib.hid hn
          clear AL hal hn hca hcb
          by_cases hc : ca = cb
          · subst hc
            have M := Lib.hid (show t.merge (a : Int) (b : Int) = (0, t) by rw [MM, if_pos rfl])
            clear MM
            rw [M.out]
            go_enter Tryz.func32, Tryz.ntmps32
            go_wp2_with fail
            go_quiet (first | (go_at_call 40; first | with_reducible exact TA.out _ | with_reducible exact TB.out _) | (go_at_call 22; exact ST.out _))
            have H2 := Lib.hid (show RefAt (w.drewN nq) p t F gL cL vR hd from HAT.out.keep fun _ _ => rfl)
            have CH := Lib.hid (show Chg F w (w.drewN nq) from Chg.drewN w nq)
            have d0 : (w.drewN nq).cell? ⟨p, 0, none⟩ = some (.slice (some ⟨gL, 0, none⟩) t.L.length cL) := c0
            clear c0 x0 x2 y0 y2
            generalize w.drewN nq = w1 at *
            go_wp2_with fail
            refine (CA.out _ H2.out.refH).mono ?_
            rintro e w2 ⟨rfl, rfl⟩
            rw [KA.out]
            go_wp2_with fail
            refine (CB.out _ H2.out.refH).mono ?_
            rintro e w2 ⟨rfl, rfl⟩
            rw [KB.out]
            have G := Lib.hid (show RefTo w p F t (.int .i64 0) (.returned (.int .i64 0)) w1 from ⟨F, rfl, H2.out.refH, CH.out, fun _ hb => .inl hb⟩)
            go_wp2_with fail
            go_ret
            exact G.out
          · have hcf : ((ca : Int) == (cb : Int)) = false := by simp; omega
            have M := Lib.hid (show t.merge (a : Int) (b : Int) = (0, t.tie ca cb) by rw [MM, if_neg hc])
            clear MM hc
            rw [M.out]
            go_enter Tryz.func32, Tryz.ntmps32
            go_wp2_with fail
            go_quiet (first | (go_at_call 40; first | with_reducible exact TA.out _ | with_reducible exact TB.out _) | (go_at_call 22; exact ST.out _))
            have H2 := Lib.hid (show RefAt (w.drewN nq) p t F gL cL vR hd from HAT.out.keep fun _ _ => rfl)
            have CH := Lib.hid (show Chg F w (w.drewN nq) from Chg.drewN w nq)
            have d0 : (w.drewN nq).cell? ⟨p, 0, none⟩ = some (.slice (some ⟨gL, 0, none⟩) t.L.length cL) := c0
            clear c0 x0 x2 y0 y2
            generalize w.drewN nq = w1 at *
            go_wp2_with fail
            refine (CA.out _ H2.out.refH).mono ?_
            rintro e w2 ⟨rfl, rfl⟩
            rw [KA.out]
            go_wp2_with fail
            refine (CB.out _ H2.out.refH).mono ?_
            rintro e w2 ⟨rfl, rfl⟩
            rw [KB.out]
            have fz := ref_frozen H2.out (cb * 4 + 1)
            have z1 := H2.out.r1 bcl
            have G := Lib.hid (show RefTo w p F (t.tie ca cb) (.int .i64 0) (.returned (.int .i64 0)) (w1.setCell ⟨gL, cb * 4 + 1, none⟩ (.int .i64 (ca : Int))) from
              ⟨F, rfl, (tie_at H2.out bcl).refH, CH.out.trans (Chg.set w1 _ _ H2.out.fL) (fun x hx => .inl hx), fun _ hb => .inl hb⟩)
            go_wp2_with fail
            go_ret
            exact G.out
        · have M := Lib.hid (merge_err (t := t) (a := (a : Int)) (b := (b : Int)) (by rw [Bool.eq_false_iff]; exact fun e => hn (AL.1 e).2))
          have ST := Lib.hid (fun n => strings_q w n _ _ (some (hd a).nA) (some (hd b).nA) la lb (hd a).nc (hd b).nc SA.out SB.out (by omega) (by omega) false (by simp [hn]))
          subst hk
          have HN := Lib.hid hn
          clear AL hn
          rw [M.out]
          have G := Lib.hid (fun n => RefTo.same (v := .int .i64 1) H.out n)
          go_enter Tryz.func32, Tryz.ntmps32
          go_wp2_with fail
          go_quiet (first | (go_at_call 40; first | with_reducible exact TA.out _ | with_reducible exact TB.out _) | (go_at_call 22; exact ST.out _))
          go_wp2_with fail
          go_ret
          exact G.out _
      · have M := Lib.hid (merge_err (t := t) (a := (a : Int)) (b := (b : Int)) (by rw [Bool.eq_false_iff]; exact fun e => hk (AL.1 e).1))
        have kf : ((ka : Int) == (kb : Int)) = false := by simp; omega
        have kn : ((ka : Int) != (kb : Int)) = true := by simp; omega
        have HK := Lib.hid hk
        clear AL hk
        rw [M.out]
        have G := Lib.hid (fun n => RefTo.same (v := .int .i64 1) H.out n)
        go_enter Tryz.func32, Tryz.ntmps32
        go_wp2_with fail
        go_quiet (first | (go_at_call 40; first | with_reducible exact TA.out _ | with_reducible exact TB.out _))
        go_wp2_with fail
        go_ret
        exact G.out _
end Go.Proofs.YtjodmjadpooipaaGreatDoor.Sh
