/-
  visited's closure.
-/
import Derived.Test.YtkdpcnikgdbmaaaGreatDoorHw
import Derived.Test.YtkdpcnikgdbmaaaGreatDoorHy
import Derived.Test.YtkdpcnikgdbmaaaGreatDoorRg
namespace Go.Proofs.YtkdpcnikgdbmaaaGreatDoor.Hp
open Go Go.RowKit Go.Maps Go.Sort Go.Shelf Va

theorem sub_len : ∀ {a b : List Int}, a.Nodup → (∀ i ∈ a, i ∈ b) → a.length ≤ b.length
  | [], b, _, _ => Nat.zero_le _
  | x :: a, b, hn, hs => by
    rw [List.nodup_cons] at hn
    have hx := hs x (by simp)
    have := sub_len (a := a) (b := b.erase x) hn.2 fun i hi => (List.mem_erase_of_ne (fun e : i = x => hn.1 (e ▸ hi))).2 (hs i (by simp [hi]))
    rw [List.length_erase_of_mem hx] at this
    have := List.length_pos_of_mem hx
    simp; omega
theorem room_more {l : List Ent} {S : List Int} {i : Int} {k : Nat} (hn : S.Nodup) (hs : ∀ j ∈ S, j ∈ ids l) (hi : i ∉ S) (hm : i ∈ ids l) (hk : (ids l).length - S.length ≤ k) : ∃ k', k = k' + 1 ∧ (ids l).length - (S ++ [i]).length ≤ k' := by
  have h : (S ++ [i]).length ≤ (ids l).length := sub_len (List.nodup_append.2 ⟨hn, by simp, fun a ha b hb e => by
    obtain rfl : b = i := by simpa using hb
    exact hi (e ▸ ha)⟩) fun j hj => by
    rcases List.mem_append.1 hj with hj | hj
    · exact hs j hj
    · obtain rfl : j = i := by simpa using hj
      exact hm
  simp only [List.length_append, List.length_singleton] at h ⊢
  exact ⟨k - 1, by omega, by omega⟩
set_option maxHeartbeats 1000000 in
theorem reach1_any (b : Nat) (k : Int) (w : World) (h : w.cell? ⟨b, 0, none⟩ = some (.int .i64 k)) : Calls Tryz.prog 66 #[.pointer (some ⟨b, 0, none⟩)] w fun e w' => e = .returned (.bool (k != 4)) ∧ w = w' := by
  go_enter Tryz.func66, Tryz.ntmps66
  go_wp2_with fail
  go_ret
  exact ⟨rfl, rfl⟩
/-- The closure's four boxes, and what is in them. -/
structure Boxes (w : World) (p sb lf hB sB lB vB : Nat) : Prop where
  h : Bk w hB #[.pointer (some ⟨p, 0, none⟩)] 25
  s : Bk w sB #[.map (some sb)] 62
  l : Bk w lB #[.func (.func lf) #[] #[]] 104
  v : Bk w vB #[.func (.func 94) #[] #[.pointer (some ⟨hB, 0, none⟩), .pointer (some ⟨sB, 0, none⟩), .pointer (some ⟨lB, 0, none⟩), .pointer (some ⟨vB, 0, none⟩)]] 137
theorem Boxes.keep {w w' : World} {p sb lf hB sB lB vB : Nat} (h : Boxes w p sb lf hB sB lB vB) (hf : Frm (fun g => g = sb) w w') (hs : ∃ es clock, w.heap[sb]? = some (.map es clock)) : Boxes w' p sb lf hB sB lB vB := by
  obtain ⟨es, clock, hs⟩ := hs
  have k : ∀ {b : Nat} {c : Array Value} {T : TypeId}, Bk w b c T → Bk w' b c T := fun {b c T} hb => (hf.block b hb.lt fun e => by
    subst e
    unfold Bk at hb
    rw [hs] at hb; cases hb).trans hb
  exact ⟨k h.h, k h.s, k h.l, k h.v⟩
theorem SeenI.isMap {w : World} {b : Nat} {l : List Int} (h : SeenI w b l) : ∃ es clock, w.heap[b]? = some (.map es clock) := by obtain ⟨_, h, _⟩ := h; exact own_isMap h
theorem Frm.alloc {F : Nat → Prop} {w w' : World} (h : Frm F w w') (o : Obj) : Frm F w (w'.alloc o) := ⟨h.os, h.tape, h.output, by rw [World.size_alloc]; have := h.size; omega, fun k hk hf => (Below.heap_alloc _ _ _ (Nat.lt_of_lt_of_le hk h.size)).trans (h.block k hk hf)⟩
theorem Frm.then {F : Nat → Prop} {w w1 w' : World} (h : Frm F w w1) (h' : Frm F w1 w') : Frm F w w' := h.trans h' fun _ _ h => h
theorem Frm.low {F : Nat → Prop} {w w1 w' : World} (h : Frm F w w1) (h' : Below w1.heap.size w1 w') : Frm F w w' := h.then (Frm.of_below h')
theorem Frm.grown {F : Nat → Prop} {w w1 w' : World} {b : Nat} (h : Frm F w w1) (h' : w1.grownBy w' (some b)) (hb : F b) : Frm F w w' := h.then ⟨h'.os, h'.tape, h'.output, h'.size, fun k hk hf => h'.block k hk fun e => hf (by cases e; exact hb)⟩
set_option maxRecDepth 100000 in
set_option maxHeartbeats 4000000 in
theorem visit_any (F : Nat → Prop) (p sb lf hB sB lB vB : Nat) (mb : Option Nat) (f : Int → Hd) (l : List Ent) (next : Int) (wk : Bool) (hsb : ¬ F sb) (hfit : ∀ e ∈ l, ∀ v ∈ e.2.items, I64 v.n) (hlen : ∀ e ∈ l, e.2.items.length ≤ 4398046511104) (hcnt : l.length ≤ 100000)
    (EN : ∀ args w, (callFunc lf args).run Tryz.prog w = .ok (.enter lf args) w)
    (LF : ∀ b k w, w.cell? ⟨b, 0, none⟩ = some (.int .i64 k) → Calls Tryz.prog lf #[.pointer (some ⟨b, 0, none⟩)] w fun e w' => e = .returned (.bool (wk || k != 4)) ∧ w = w') (k : Nat) :
    ∀ (P : Nat → Prop) (L : List Val) (A : Option Addr) (n c : Nat) (S : List Int) (w : World), L.length = n → n ≤ 4398046511104 → (∀ v ∈ L, I64 v.n) → HeapA w F p mb f l next → (∀ g, F g → g < w.heap.size) → SeenI w sb S → S.Nodup → (∀ i ∈ S, i ∈ ids l) → Boxes w p sb lf hB sB lB vB → ValsAt w P A L → (∀ b, P b → b < w.heap.size ∧ b ≠ sb) → (ids l).length - S.length ≤ k →
      Calls Tryz.prog 94 #[.slice A n c, .pointer (some ⟨hB, 0, none⟩), .pointer (some ⟨sB, 0, none⟩), .pointer (some ⟨lB, 0, none⟩), .pointer (some ⟨vB, 0, none⟩)] w fun e w' => e = .returned (.tuple #[]) ∧ Hid (∃ S', Vis l wk L S S' ∧ SeenI w' sb S' ∧ Frm (fun g => g = sb) w w') := by
  induction k using Nat.strongRecOn with
  | _ k ih =>
    intro P L A n c S w hn hn' hL hH hF hS hSn hSi hBx hV hP hk
    subst hn
    have IH := Lib.hid ih
    have HS := Lib.hid hS
    have HL := Lib.hid hL
    have HF := Lib.hid hF
    have SN := Lib.hid hSn
    have SI := Lib.hid hSi
    have HK := Lib.hid hk
    have HX := Lib.hid hH
    have FIT := Lib.hid hfit
    have LEN := Lib.hid hlen
    have LEAD := Lib.hid LF
    have HH := Lib.hid (fun (w' : World) (hf : Frm (fun g => g = sb) w w') => hH.beside (w' := w') hF (fun g (hg : g = sb) => hg ▸ hsb) hf)
    have BX := Lib.hid (fun (w' : World) (hf : Frm (fun g => g = sb) w w') => hBx.keep hf hS.isMap)
    have VV := Lib.hid (fun (w' : World) (hf : Frm (fun g => g = sb) w w') => hV.keep (w' := w') (Q := fun b => b < w.heap.size ∧ b ≠ sb) fun b hb => ⟨hP b hb, hf.block b (hP b hb).1 (hP b hb).2⟩)
    clear ih hS hL hH hF hSn hSi hBx hV hP hk hfit hlen LF
    go_enter Tryz.func94, Tryz.ntmps94
    go_wp2_with fail
    go_loopw [11] (fun i wr => ∃ (q : Nat) (T : List Int), q ≤ L.length ∧ i = .int .i64 q ∧ Hid (Vis l wk (L.take q) S T) ∧ Hid (SeenI wr sb T) ∧ Hid (Frm (fun g => g = sb) w wr)) (fun i _ => L.length - (intOf i).toNat)
    case atStart => exact ⟨0, S, by omega, rfl, Lib.hid (Vis.start l wk S), HS, Lib.hid (Frm.of_below (Below.refl _ _))⟩
    case round =>
      obtain ⟨q, T, hq, rfl, hvis, hseen, hfr⟩ := hrel
      by_cases hlt : q < L.length
      · have hg := List.getElem?_eq_getElem hlt
        have TK := Lib.hid (List.take_succ_eq_append_getElem hlt)
        have IV := HL.out _ (List.getElem_mem hlt)
        obtain ⟨b, o, rfl, hb, c0, c1, c2⟩ := VV.out _ hfr.out q _ hg
        have ki : (q : Int) < L.length := by omega
        generalize L[q] = v at *
        clear hg
        obtain ⟨vk, vn, vs⟩ := v
        simp only at c0 c1 c2 IV
        have bx := BX.out _ hfr.out
        have b0 := Lib.hid bx
        have h0 := bx.h.cell 0 _ rfl
        have s0 := bx.s.cell 0 _ rfl
        have l0 := bx.l.cell 0 _ rfl
        have v0 := bx.v.cell 0 _ rfl
        have hl' := bx.h.lt
        have sl' := bx.s.lt
        have ll' := bx.l.lt
        have vl' := bx.v.lt
        clear bx
        have DE := Lib.hid (fun (o : Obj) => denoted_any F p mb f l next ⟨vk, vn, vs⟩ (wr.alloc o) (fun g hg => by have := HF.out g hg; have := hfr.out.size; simp; omega) (HH.out _ (hfr.out.alloc o)) IV)
        go_wp2_with fail
        refine (DE.out _).mono ?_
        rintro e w2 ⟨rfl, hb2⟩
        have sbl : sb < wr.heap.size := hseen.out.lt
        have F2 := Lib.hid ((hfr.out.alloc _).low hb2)
        have K2 := Lib.hid ((Bk.new wr _ _).below hb2 (by simp))
        have SE2 := Lib.hid (hseen.out.keep ((hb2.block sb (by simp; omega)).trans (Below.heap_alloc _ _ _ sbl)))
        have b2 := BX.out _ F2.out
        have s2 := b2.s.cell 0 _ rfl
        have x1 := K2.out.cell 1 (.int .i64 vn) rfl
        clear hb2 h0 s0 l0 v0 c0 c1 c2 hl' sl' ll' vl' DE b0 hb
        have B2 := Lib.hid b2
        clear b2
        have VP := Lib.hid (fun (h : ∀ c, denC l ⟨vk, vn, vs⟩ = some c → vn ∈ T) => hvis.out.pass (v := ⟨vk, vn, vs⟩) h)
        have VE := Lib.hid (fun (c : Cel) (T2 : List Int) (h1 : denC l ⟨vk, vn, vs⟩ = some c) (h2 : vn ∉ T) (h3 : Vis l wk (kids wk c) (T ++ [vn]) T2) => hvis.out.enter (v := ⟨vk, vn, vs⟩) h1 h2 h3)
        rw [← TK.out] at VP VE
        cases hd : denC l ⟨vk, vn, vs⟩ with
        | none =>
          rw [denC_none f hd]
          have V2 := Lib.hid (VP.out fun c h => by rw [hd] at h; cases h)
          clear hd VP VE
          go_wp2_with fail
          go_roundw
          case rel => exact ⟨q + 1, T, by omega, by go_num, V2, SE2, F2⟩
          case measure => simp [intOf]; omega
        | some cc =>
          obtain ⟨h5, hmem⟩ := denC_some hd
          simp only at h5 hmem
          rw [show denOf l f ⟨vk, vn, vs⟩ = some ⟨(f vn).b, 0, none⟩ by unfold denOf; rw [if_pos h5]; exact (HX.out.of hmem).1]
          have LK := SE2.out.look IV
          by_cases hT : vn ∈ T
          · rw [decide_eq_true hT] at LK
            have V2 := Lib.hid (VP.out fun _ _ => hT)
            clear hd VP VE h5 hmem hT
            go_wp2_with fail
            go_roundw
            case rel => exact ⟨q + 1, T, by omega, by go_num, V2, SE2, F2⟩
            case measure => simp [intOf]; omega
          · rw [decide_eq_false hT] at LK
            have NT := Lib.hid hT
            have DC := Lib.hid hd
            have MM := Lib.hid hmem
            have KX := Lib.hid (key_int IV)
            have TN := Lib.hid (hvis.out.nodup SN.out)
            have TI := Lib.hid (hvis.out.known SI.out)
            have RM := Lib.hid (room_more (k := k) TN.out TI.out hT (List.mem_map.2 ⟨_, hmem, rfl⟩) (by have := sub_len SN.out hvis.out.sub; have := HK.out; omega))
            have TL : T.length ≤ 100000 := Nat.le_trans (sub_len TN.out TI.out) (by simp [ids]; exact hcnt)
            obtain ⟨D, ho, hD1, hD2, hD3⟩ := SE2.out
            have AF := Lib.hid (fun (w3 : World) h => SeenI.after (w1 := w3) (b := sb) (ho.tidy intLaw) IV hT hD1 hD2 hD3 h)
            clear hD1 hD2 hD3 hd h5 hmem hT VP
            go_wp2_with (at_mapUpdate; refine wpList_mapUpdate_own _ rfl _ _ _ 62 rfl 3 4 intLaw Tryz.underlying62 _ sb T.length _ rfl ho (by unfold maxLen; omega) _ _ _ rfl rfl KX.out _ [] (plainElem_bool Tryz.underlying4 true) ?_)
            intro w3 ho1 hg1
            have S3 := Lib.hid (AF.out w3 ho1)
            have F3 := Lib.hid (F2.out.grown hg1 rfl)
            clear ho ho1 hg1 LK AF
            have H3 := Lib.hid (HH.out _ F3.out)
            have C3 := Lib.hid (H3.out.of MM.out).2
            have B3 := Lib.hid (BX.out _ F3.out)
            have l3 := B3.out.l.cell 0 _ rfl
            have kb := C3.out.blk.cell 0 (.int .i64 cc.kind) rfl
            have LE := Lib.hid (LEAD.out (f vn).b cc.kind w3 kb)
            go_wp2_with fail
            refine LE.out.mono ?_
            rintro e w4 ⟨rfl, rfl⟩
            cases hw : (wk || cc.kind != 4)
            · have V2 := Lib.hid (VE.out cc (T ++ [vn]) DC.out NT.out (by unfold kids; rw [hw]; exact Vis.start _ _ _))
              clear hw VE
              go_wp2_with fail
              go_roundw
              case rel => exact ⟨q + 1, T ++ [vn], by omega, by go_num, V2, S3, F3⟩
              case measure => simp [intOf]; omega
            · have V2 := Lib.hid (fun T2 (h : Vis l wk cc.items (T ++ [vn]) T2) => VE.out cc T2 DC.out NT.out (by unfold kids; rw [hw]; exact h))
              clear hw VE
              have v3 := B3.out.v.cell 0 _ rfl
              obtain ⟨A1, nc, B, ic, e1, e2, -, hV3⟩ := C3.out.rows
              have bk := C3.out.blk
              unfold rowC at bk
              rw [e2] at bk
              have k5 := bk.cell 5 (.slice B cc.items.length ic) rfl
              have hmx : Tryz.prog.follows .mixedOrders = true := by kernel_rfl
              have EI := Lib.hid e2
              clear bk e1 e2
              go_wp2_with fail
              have S1 := Lib.hid (show (fun v' : World => v'.cell? ⟨vB, 0, none⟩ = some (.func (.func 94) #[] #[.pointer (some ⟨hB, 0, none⟩), .pointer (some ⟨sB, 0, none⟩), .pointer (some ⟨lB, 0, none⟩), .pointer (some ⟨vB, 0, none⟩)]) ∧ v'.cell? ⟨(f vn).b, 5, none⟩ = some (.slice B cc.items.length ic)) w3 from ⟨v3, k5⟩)
              obtain ⟨k', rfl, hk'⟩ := RM.out
              have RC := Lib.hid (IH.out k' (Nat.lt_succ_self _) (f vn).has cc.items B cc.items.length ic (T ++ [vn]) w3.drew rfl (LEN.out _ MM.out) (FIT.out _ MM.out) H3.out.drew (fun g hg => Nat.lt_of_lt_of_le (HF.out g hg) F3.out.size) S3.out (List.nodup_append.2 ⟨TN.out, by simp, fun a ha b hb e => by
                obtain rfl : b = vn := by simpa using hb
                exact NT.out (e ▸ ha)⟩) (fun j hj => by
                rcases List.mem_append.1 hj with hj | hj
                · exact TI.out j hj
                · obtain rfl : j = vn := by simpa using hj
                  exact List.mem_map.2 ⟨_, MM.out, rfl⟩) ⟨B3.out.h, B3.out.s, B3.out.l, B3.out.v⟩ hV3 (fun b hb => ⟨Hd.lt_of C3.out hb, fun e => hsb (e ▸ (H3.out.inF MM.out hb))⟩) hk')
              clear IH v3 k5 hV3 hk'
              refine region_plainX (fun v' => v'.cell? ⟨vB, 0, none⟩ = some (.func (.func 94) #[] #[.pointer (some ⟨hB, 0, none⟩), .pointer (some ⟨sB, 0, none⟩), .pointer (some ⟨lB, 0, none⟩), .pointer (some ⟨vB, 0, none⟩)]) ∧ v'.cell? ⟨(f vn).b, 5, none⟩ = some (.slice B cc.items.length ic)) [] hmx ?_
              refine anyEx_take (i := 0) (u := ?_) rfl (by kernel_rfl) (by kernel_rfl) (by kernel_rfl) (by kernel_rfl) (by kernel_rfl) (fun _ _ _ h => h) (.inl ⟨by kernel_rfl, fun v' hS => ?_⟩) S1.out ?_
              rotate_left
              · obtain ⟨h0, h1⟩ := hS
                go_simp
                with_reducible rfl
              refine anyEx_take (i := 1) (u := ?_) rfl (by kernel_rfl) (by kernel_rfl) (by kernel_rfl) (by kernel_rfl) (by kernel_rfl) (fun _ _ _ h => h) (.inl ⟨by kernel_rfl, fun v' hS => ?_⟩) S1.out ?_
              rotate_left
              · obtain ⟨h0, h1⟩ := hS
                go_simp
                with_reducible rfl
              refine anyEx_take (i := 2) (u := ?_) rfl (by kernel_rfl) (by kernel_rfl) (by kernel_rfl) (by kernel_rfl) (by kernel_rfl) (fun _ _ _ h => h) (.inl ⟨by kernel_rfl, fun v' hS => ?_⟩) S1.out ?_
              rotate_left
              · obtain ⟨h0, h1⟩ := hS
                go_simp
                with_reducible rfl
              refine anyEx_take (i := 3) (u := ?_) rfl (by kernel_rfl) (by kernel_rfl) (by kernel_rfl) (by kernel_rfl) (by kernel_rfl) (fun _ _ _ h => h) (.inl ⟨by kernel_rfl, fun v' hS => ?_⟩) S1.out ?_
              rotate_left
              · obtain ⟨h0, h1⟩ := hS
                go_simp
                with_reducible rfl
              refine anyEx_take (i := 4) (u := ?_) rfl (by kernel_rfl) (by kernel_rfl) (by kernel_rfl) (by kernel_rfl) (by kernel_rfl) (fun _ _ _ h => h) (.inl ⟨by kernel_rfl, fun v' hS => ?_⟩) S1.out ?_
              rotate_left
              · obtain ⟨h0, h1⟩ := hS
                go_simp
                with_reducible rfl
              refine anyEx_one 5 rfl (by kernel_rfl) (by kernel_rfl) ?_
              go_simp
              refine RC.out.mono ?_
              rintro e w5 ⟨rfl, hh⟩
              obtain ⟨T2, hv2, hs2, hf2⟩ := hh.out
              have F5 := Lib.hid (F3.out.drew.then hf2)
              have V5 := Lib.hid (V2.out T2 hv2)
              have S5 := Lib.hid hs2
              have B5 := Lib.hid (BX.out _ F5.out)
              have bk5 := ((HH.out _ F5.out).of MM.out).2.blk
              unfold rowC at bk5
              rw [EI.out] at bk5
              have S6 := Lib.hid (show (fun v' : World => v'.cell? ⟨vB, 0, none⟩ = some (.func (.func 94) #[] #[.pointer (some ⟨hB, 0, none⟩), .pointer (some ⟨sB, 0, none⟩), .pointer (some ⟨lB, 0, none⟩), .pointer (some ⟨vB, 0, none⟩)]) ∧ v'.cell? ⟨(f vn).b, 5, none⟩ = some (.slice B cc.items.length ic)) w5 from ⟨B5.out.v.cell 0 _ rfl, bk5.cell 5 _ rfl⟩)
              clear hh hv2 hs2 hf2 bk5 S1 RC V2 B5
              refine ⟨by first | exact S6.out | exact .inr S6.out, by kernel_rfl, ?_⟩
              clear S6
              go_wp2_with fail
              go_roundw
              case rel => exact ⟨q + 1, T2, by omega, by go_num, V5, S5, F5⟩
              case measure => simp [intOf]; omega
      · obtain rfl : q = L.length := by omega
        have V2 := Lib.hid (show Vis l wk L S T by have := hvis.out; rwa [List.take_length] at this)
        clear hvis
        go_wp2_with fail
        go_end0
        exact ⟨rfl, Lib.hid ⟨T, V2.out, hseen.out, hfr.out⟩⟩
end Go.Proofs.YtkdpcnikgdbmaaaGreatDoor.Hp
