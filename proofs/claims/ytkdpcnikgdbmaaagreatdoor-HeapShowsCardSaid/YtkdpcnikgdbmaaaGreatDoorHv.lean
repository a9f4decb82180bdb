/-
  element refused by its operands, by its index's kind, by its index; carried out.
-/
import Derived.Test.YtkdpcnikgdbmaaaGreatDoorHx
import Derived.BigRegion
namespace Go.Proofs.YtkdpcnikgdbmaaaGreatDoor.Hp
open Go Go.RowKit Go.Maps Va

theorem HeapA.beside {w w' : World} {F G : Nat → Prop} {p : Nat} {mb : Option Nat} {f : Int → Hd} {l : List Ent} {next : Int} (h : HeapA w F p mb f l next) (hF : ∀ g, F g → g < w.heap.size) (hG : ∀ g, G g → ¬ F g) (hf : Frm G w w') : HeapA w' F p mb f l next :=
  h.keep fun g hg => ⟨hg, hf.block g (hF g hg) fun h' => hG g h' hg⟩
theorem own_row {w : World} {v : Value} {n : Nat} {l : List Val} (h : w.ownsRow 0 64 3 v n (flatV l)) (hn : l.length = n) : ∃ A c, v = .slice A n c ∧ ValsAt w (fun g => v.ownBlock = some g) A l := by
  subst hn; exact own_vals h
theorem oper_bad_row (F : Nat → Prop) (p : Nat) (mb : Option Nat) (f : Int → Hd) (l : List Ent) (next kind : Int) (v : Val) (O : Value) (o : List Val) (n : Nat) (w : World) (H : HeapA w F p mb f l next) (hF : ∀ g, F g → g < w.heap.size) (hn : o.length = n) (h : w.ownsRow 0 64 3 O n (flatV o)) (hl : n ≤ 4398046511104) (hid : I64 v.n)
    (hu : operF l kind v o ≠ ⟨#[]⟩) :
    Calls Tryz.prog 80 #[.pointer (some ⟨p, 0, none⟩), .int .i64 kind, valV v, O] w fun e w' => e = .returned (.tuple #[.pointer none, .string (operF l kind v o)]) ∧ Below w.heap.size w w' := by
  obtain ⟨A, c, e, hV⟩ := own_row h hn
  have hP : ∀ b, O.ownBlock = some b → b < w.heap.size := fun b hb => (World.ownsRow.lt h b hb).2
  subst e
  exact oper_bad F _ p mb f l next kind v A o n c w H hF hn hV hP hl hid hu
theorem oper_cell_row (F : Nat → Prop) (p : Nat) (mb : Option Nat) (f : Int → Hd) (l : List Ent) (next kind : Int) (v : Val) (O : Value) (o : List Val) (n : Nat) (w : World) (H : HeapA w F p mb f l next) (hF : ∀ g, F g → g < w.heap.size) (hn : o.length = n) (h : w.ownsRow 0 64 3 O n (flatV o)) (hl : n ≤ 4398046511104) (hid : I64 v.n)
    (hu : anyU v o = false) (c0 : Cel) (hv : v.k = 5) (hm : (v.n, c0) ∈ l) (hk0 : c0.kind = kind) :
    Calls Tryz.prog 80 #[.pointer (some ⟨p, 0, none⟩), .int .i64 kind, valV v, O] w fun e w' => e = .returned (.tuple #[.pointer (some ⟨(f v.n).b, 0, none⟩), .string ⟨#[]⟩]) ∧ Below w.heap.size w w' := by
  obtain ⟨A, c, e, hV⟩ := own_row h hn
  have hP : ∀ b, O.ownBlock = some b → b < w.heap.size := fun b hb => (World.ownsRow.lt h b hb).2
  subst e
  exact oper_cell F _ p mb f l next kind v A o n c w H hF hn hV hP hl hid hu c0 hv hm hk0
set_option maxRecDepth 100000 in
set_option maxHeartbeats 2000000 in
theorem elem_bad (F : Nat → Prop) (p : Nat) (mb : Option Nat) (f : Int → Hd) (l : List Ent) (next : Int) (v i : Val) (O : Value) (o : List Val) (n : Nat) (w : World) (H : HeapA w F p mb f l next) (hF : ∀ g, F g → g < w.heap.size) (hid : I64 v.n) (hn : o.length = n) (hO : w.ownsRow 0 64 3 O n (flatV o)) (hOF : ∀ g, O.ownBlock = some g → ¬ F g) (hl : n ≤ 1000) (hu : operF l 2 v (o ++ [i]) ≠ ⟨#[]⟩) :
    Calls Tryz.prog 82 #[.pointer (some ⟨p, 0, none⟩), valV v, valV i, O] w fun e w' => e = .returned (.tuple #[.pointer none, .string (operF l 2 v (o ++ [i]))]) ∧ Hid (Frm (fun g => O.ownBlock = some g) w w') := by
  have hte := operF_full hu
  have OP := Lib.hid (fun (w' : World) (O' : Value) (hf : Frm (fun g => O.ownBlock = some g) w w') (h : w'.ownsRow 0 64 3 O' (n + 1) (flatV (o ++ [i]))) => oper_bad_row F p mb f l next 2 v O' (o ++ [i]) (n + 1) w' (H.beside hF hOF hf) (fun g hg => Nat.lt_of_lt_of_le (hF g hg) hf.size) (by simp [hn]) h (by omega) hid hu)
  generalize operF l 2 v (o ++ [i]) = flt at *
  have hmx : Tryz.prog.follows .mixedOrders = true := by kernel_rfl
  obtain ⟨j0, hj0, hy0, hy1, hy2⟩ := info_parts infoV
  have OO := Lib.hid hO
  have OL := Lib.hid (fun g (h : O.ownBlock = some g) => (World.ownsRow.lt hO g h).2)
  have NB := Lib.hid hn
  clear hO hOF H hF hu
  unfold valV
  go_enter Tryz.func82, Tryz.ntmps82
  go_wp2_with fail
  have KV := Lib.hid ((Bk.new w #[.int .i64 v.k, .int .i64 v.n, .string v.s] 64).alloc (.cells #[.int .i64 i.k, .int .i64 i.n, .string i.s] 64))
  have KI := Lib.hid (Bk.new2 w (.cells #[.int .i64 v.k, .int .i64 v.n, .string v.s] 64) #[.int .i64 i.k, .int .i64 i.n, .string i.s] 64)
  have HB := Lib.hid (((Below.refl _ w).alloc (Nat.le_refl _) (.cells #[.int .i64 v.k, .int .i64 v.n, .string v.s] 64)).alloc (by simp) (.cells #[.int .i64 i.k, .int .i64 i.n, .string i.s] 64))
  have SZ : ((w.alloc (.cells #[.int .i64 v.k, .int .i64 v.n, .string v.s] 64)).alloc (.cells #[.int .i64 i.k, .int .i64 i.n, .string i.s] 64)).heap.size = w.heap.size + 1 + 1 := by simp
  have O1 := Lib.hid ((OO.out.alloc (.cells #[.int .i64 v.k, .int .i64 v.n, .string v.s] 64)).alloc (.cells #[.int .i64 i.k, .int .i64 i.n, .string i.s] 64))
  generalize (w.alloc (.cells #[.int .i64 v.k, .int .i64 v.n, .string v.s] 64)).alloc (.cells #[.int .i64 i.k, .int .i64 i.n, .string i.s] 64) = w1 at *
  have S1 := Lib.hid (show (fun v' : World => v'.cell? ⟨w.heap.size, 0, none⟩ = some (.int .i64 v.k) ∧ v'.cell? ⟨w.heap.size, 1, none⟩ = some (.int .i64 v.n) ∧ v'.cell? ⟨w.heap.size, 2, none⟩ = some (.string v.s) ∧ v'.cell? ⟨w.heap.size + 1, 0, none⟩ = some (.int .i64 i.k) ∧ v'.cell? ⟨w.heap.size + 1, 1, none⟩ = some (.int .i64 i.n) ∧ v'.cell? ⟨w.heap.size + 1, 2, none⟩ = some (.string i.s)) w1 from ⟨KV.out.cell 0 _ rfl, KV.out.cell 1 _ rfl, KV.out.cell 2 _ rfl, KI.out.cell 0 _ rfl, KI.out.cell 1 _ rfl, KI.out.cell 2 _ rfl⟩)
  refine region_plainX (fun v' => v'.cell? ⟨w.heap.size, 0, none⟩ = some (.int .i64 v.k) ∧ v'.cell? ⟨w.heap.size, 1, none⟩ = some (.int .i64 v.n) ∧ v'.cell? ⟨w.heap.size, 2, none⟩ = some (.string v.s) ∧ v'.cell? ⟨w.heap.size + 1, 0, none⟩ = some (.int .i64 i.k) ∧ v'.cell? ⟨w.heap.size + 1, 1, none⟩ = some (.int .i64 i.n) ∧ v'.cell? ⟨w.heap.size + 1, 2, none⟩ = some (.string i.s)) [] hmx ?_
  refine anyEx_take (i := 0) (u := ?_) rfl (by kernel_rfl) (by kernel_rfl) (by kernel_rfl) (by kernel_rfl) (by kernel_rfl) (fun _ _ _ h => h) (.inl ⟨by kernel_rfl, fun v' hS => ?_⟩) S1.out ?_
  rotate_left
  · obtain ⟨h0, h1, h2, h3, h4, h5⟩ := hS
    go_simp
    with_reducible rfl
  refine anyEx_take (i := 1) (u := ?_) rfl (by kernel_rfl) (by kernel_rfl) (by kernel_rfl) (by kernel_rfl) (by kernel_rfl) (fun _ _ _ h => h) (.inl ⟨by kernel_rfl, fun v' hS => ?_⟩) S1.out ?_
  rotate_left
  · obtain ⟨h0, h1, h2, h3, h4, h5⟩ := hS
    go_simp
    with_reducible rfl
  refine anyEx_take (i := 2) (u := ?_) rfl (by kernel_rfl) (by kernel_rfl) (by kernel_rfl) (by kernel_rfl) (by kernel_rfl) (fun _ _ _ h => h) (.inl ⟨by kernel_rfl, fun v' hS => ?_⟩) S1.out ?_
  rotate_left
  · obtain ⟨h0, h1, h2, h3, h4, h5⟩ := hS
    go_simp
    with_reducible rfl
  refine anyEx_take (i := 3) (u := ?_) rfl (by kernel_rfl) (by kernel_rfl) (by kernel_rfl) (by kernel_rfl) (by kernel_rfl) (fun _ _ _ h => h) (.inl ⟨by kernel_rfl, fun v' hS => ?_⟩) S1.out ?_
  rotate_left
  · obtain ⟨h0, h1, h2, h3, h4, h5⟩ := hS
    go_simp
    with_reducible rfl
  have BA := Lib.hid ((Below.refl _ w1).alloc (Nat.le_refl _) (.cells #[.int .i64 i.k, .int .i64 i.n, .string i.s] 64))
  have S2 := Lib.hid (show (fun v' : World => v'.cell? ⟨w.heap.size, 0, none⟩ = some (.int .i64 v.k) ∧ v'.cell? ⟨w.heap.size, 1, none⟩ = some (.int .i64 v.n) ∧ v'.cell? ⟨w.heap.size, 2, none⟩ = some (.string v.s) ∧ v'.cell? ⟨w.heap.size + 1, 0, none⟩ = some (.int .i64 i.k) ∧ v'.cell? ⟨w.heap.size + 1, 1, none⟩ = some (.int .i64 i.n) ∧ v'.cell? ⟨w.heap.size + 1, 2, none⟩ = some (.string i.s)) (w1.alloc (.cells #[.int .i64 i.k, .int .i64 i.n, .string i.s] 64)) from ⟨(BA.out.cell (p := ⟨_, _, none⟩) KV.out.lt).trans S1.out.1, (BA.out.cell (p := ⟨_, _, none⟩) KV.out.lt).trans S1.out.2.1, (BA.out.cell (p := ⟨_, _, none⟩) KV.out.lt).trans S1.out.2.2.1, (BA.out.cell (p := ⟨_, _, none⟩) KI.out.lt).trans S1.out.2.2.2.1, (BA.out.cell (p := ⟨_, _, none⟩) KI.out.lt).trans S1.out.2.2.2.2.1, (BA.out.cell (p := ⟨_, _, none⟩) KI.out.lt).trans S1.out.2.2.2.2.2⟩)
  refine anyEx_one 4 rfl (by kernel_rfl) (by kernel_rfl) ?_
  go_simp
  refine ⟨by first | exact S2.out | exact .inr S2.out | exact S1.out, ?_⟩
  refine anyEx_one 5 rfl (by kernel_rfl) (by kernel_rfl) ?_
  refine wp_append_lies _ _ _ 44 rfl 0 64 j0 _ 3 32 Tryz.underlying44 hj0 hy0 hy1 hy2 rfl (by decide) O n _ rfl (O1.out.alloc _).drew ⟨w.heap.size + 1 + 1, 0, none⟩ 1 1 [.int .i64 i.k, .int .i64 i.n, .string i.s] rfl rfl (World.news_of_block (w := (w1.alloc (.cells #[.int .i64 i.k, .int .i64 i.n, .string i.s] 64)).drew) (cs := #[.int .i64 i.k, .int .i64 i.n, .string i.s]) (t := 64) (fr := (0, 0)) (by rw [← SZ]; exact heap_alloc_new _ _)) (by simp [Value.oneCell']) (by decide) (by unfold maxLen; omega) (by omega) (Nat.zero_le _) (w1.heap.size + 1) (by simp [World.drew]) ?_
  intro g cap w3 o3 g3 h3 h3l
  have KV3 := Lib.hid ((KV.out.alloc (.cells #[.int .i64 i.k, .int .i64 i.n, .string i.s] 64)).grown (w := w1.alloc (.cells #[.int .i64 i.k, .int .i64 i.n, .string i.s] 64)) ⟨g3.os, g3.tape, g3.output, g3.size, g3.block⟩ (fun e => by have := OL.out _ e.symm; omega))
  have KI3 := Lib.hid ((KI.out.alloc (.cells #[.int .i64 i.k, .int .i64 i.n, .string i.s] 64)).grown (w := w1.alloc (.cells #[.int .i64 i.k, .int .i64 i.n, .string i.s] 64)) ⟨g3.os, g3.tape, g3.output, g3.size, g3.block⟩ (fun e => by have := OL.out _ e.symm; omega))
  have S3 := Lib.hid (show (fun v' : World => v'.cell? ⟨w.heap.size, 0, none⟩ = some (.int .i64 v.k) ∧ v'.cell? ⟨w.heap.size, 1, none⟩ = some (.int .i64 v.n) ∧ v'.cell? ⟨w.heap.size, 2, none⟩ = some (.string v.s) ∧ v'.cell? ⟨w.heap.size + 1, 0, none⟩ = some (.int .i64 i.k) ∧ v'.cell? ⟨w.heap.size + 1, 1, none⟩ = some (.int .i64 i.n) ∧ v'.cell? ⟨w.heap.size + 1, 2, none⟩ = some (.string i.s)) w3 from ⟨KV3.out.cell 0 _ rfl, KV3.out.cell 1 _ rfl, KV3.out.cell 2 _ rfl, KI3.out.cell 0 _ rfl, KI3.out.cell 1 _ rfl, KI3.out.cell 2 _ rfl⟩)
  have FR := Lib.hid (show Frm (fun g => O.ownBlock = some g) w w3 from ⟨g3.os.trans HB.out.os, g3.tape.trans HB.out.tape, g3.output.trans HB.out.output, Nat.le_trans HB.out.size (Nat.le_trans (by simp [World.drew]) g3.size), fun k hk hn => (g3.block k (by simp [World.drew]; omega) (fun e => hn e.symm)).trans ((Below.heap_alloc _ _ _ (by omega)).trans (HB.out.block k hk))⟩)
  have O3 := Lib.hid (show w3.ownsRow 0 64 3 (.slice (some ⟨g, 0, none⟩) (n + 1) cap) (n + 1) (flatV (o ++ [i])) by rw [show flatV (o ++ [i]) = flatV o ++ [.int .i64 i.k, .int .i64 i.n, .string i.s] by simp [flatV]]; exact o3)
  clear o3 g3 h3 h3l S2 BA O1
  refine ⟨.inr S3.out, ?_⟩
  refine anyEx_one 6 rfl (by kernel_rfl) (by kernel_rfl) ?_
  go_simp
  refine (OP.out w3 _ FR.out O3.out).mono ?_
  rintro e w4 ⟨rfl, hb⟩
  have KV4 := Lib.hid (KV3.out.below hb KV3.out.lt)
  have KI4 := Lib.hid (KI3.out.below hb KI3.out.lt)
  have S4 := Lib.hid (show (fun v' : World => v'.cell? ⟨w.heap.size, 0, none⟩ = some (.int .i64 v.k) ∧ v'.cell? ⟨w.heap.size, 1, none⟩ = some (.int .i64 v.n) ∧ v'.cell? ⟨w.heap.size, 2, none⟩ = some (.string v.s) ∧ v'.cell? ⟨w.heap.size + 1, 0, none⟩ = some (.int .i64 i.k) ∧ v'.cell? ⟨w.heap.size + 1, 1, none⟩ = some (.int .i64 i.n) ∧ v'.cell? ⟨w.heap.size + 1, 2, none⟩ = some (.string i.s)) w4 from ⟨KV4.out.cell 0 _ rfl, KV4.out.cell 1 _ rfl, KV4.out.cell 2 _ rfl, KI4.out.cell 0 _ rfl, KI4.out.cell 1 _ rfl, KI4.out.cell 2 _ rfl⟩)
  have FR4 := Lib.hid (show Frm (fun g => O.ownBlock = some g) w w4 from FR.out.trans (Frm.of_below (F := fun g => O.ownBlock = some g) hb) (fun _ _ h => h))
  clear hb KV3 KI3 S3 FR O3 S1 KV KI
  refine ⟨by first | exact S4.out | exact .inr S4.out, ?_⟩
  refine anyEx_take (i := 7) (u := ?_) rfl (by kernel_rfl) (by kernel_rfl) (by kernel_rfl) (by kernel_rfl) (by kernel_rfl) (fun _ _ _ h => h) (.inl ⟨by kernel_rfl, fun v' hS => ?_⟩) S4.out ?_
  rotate_left
  · obtain ⟨h0, h1, h2, h3, h4, h5⟩ := hS
    go_simp
    with_reducible rfl
  refine anyEx_take (i := 8) (u := ?_) rfl (by kernel_rfl) (by kernel_rfl) (by kernel_rfl) (by kernel_rfl) (by kernel_rfl) (fun _ _ _ h => h) (.inl ⟨by kernel_rfl, fun v' hS => ?_⟩) S4.out ?_
  rotate_left
  · obtain ⟨h0, h1, h2, h3, h4, h5⟩ := hS
    go_simp
    with_reducible rfl
  refine anyEx_take (i := 9) (u := ?_) rfl (by kernel_rfl) (by kernel_rfl) (by kernel_rfl) (by kernel_rfl) (by kernel_rfl) (fun _ _ _ h => h) (.inl ⟨by kernel_rfl, fun v' hS => ?_⟩) S4.out ?_
  rotate_left
  · obtain ⟨h0, h1, h2, h3, h4, h5⟩ := hS
    go_simp
    with_reducible rfl
  refine anyEx_take (i := 10) (u := ?_) rfl (by kernel_rfl) (by kernel_rfl) (by kernel_rfl) (by kernel_rfl) (by kernel_rfl) (fun _ _ _ h => h) (.inl ⟨by kernel_rfl, fun v' hS => ?_⟩) S4.out ?_
  rotate_left
  · obtain ⟨h0, h1, h2, h3, h4, h5⟩ := hS
    go_simp
    with_reducible rfl
  refine anyEx_take (i := 11) (u := ?_) rfl (by kernel_rfl) (by kernel_rfl) (by kernel_rfl) (by kernel_rfl) (by kernel_rfl) (fun _ _ _ h => h) (.inl ⟨by kernel_rfl, fun v' hS => ?_⟩) S4.out ?_
  rotate_left
  · obtain ⟨h0, h1, h2, h3, h4, h5⟩ := hS
    go_simp
    with_reducible rfl
  refine ⟨by kernel_rfl, ?_⟩
  clear S4 KV4 KI4
  go_wp2_with fail
  go_ret2
  exact ⟨rfl, FR4⟩
set_option maxRecDepth 100000 in
set_option maxHeartbeats 2000000 in
theorem elem_type (F : Nat → Prop) (p : Nat) (mb : Option Nat) (f : Int → Hd) (l : List Ent) (next : Int) (v i : Val) (O : Value) (o : List Val) (n : Nat) (w : World) (H : HeapA w F p mb f l next) (hF : ∀ g, F g → g < w.heap.size) (hid : I64 v.n) (hn : o.length = n) (hO : w.ownsRow 0 64 3 O n (flatV o)) (hOF : ∀ g, O.ownBlock = some g → ¬ F g) (hl : n ≤ 1000) (c0 : Cel) (hv : v.k = 5) (hm : (v.n, c0) ∈ l) (hk0 : c0.kind = 2) (hu : anyU v (o ++ [i]) = false) (hi : i.k ≠ 3) :
    Calls Tryz.prog 82 #[.pointer (some ⟨p, 0, none⟩), valV v, valV i, O] w fun e w' => e = .returned (.tuple #[.pointer none, .string sType]) ∧ Hid (Frm (fun g => O.ownBlock = some g) w w') := by
  have OP := Lib.hid (fun (w' : World) (O' : Value) (hf : Frm (fun g => O.ownBlock = some g) w w') (h : w'.ownsRow 0 64 3 O' (n + 1) (flatV (o ++ [i]))) => oper_cell_row F p mb f l next 2 v O' (o ++ [i]) (n + 1) w' (H.beside hF hOF hf) (fun g hg => Nat.lt_of_lt_of_le (hF g hg) hf.size) (by simp [hn]) h (by omega) hid hu c0 hv hm hk0)
  have CA := (H.of hm).2
  obtain ⟨A, nc, B, ic, e1, e2, -, -⟩ := CA.rows
  have bk := CA.blk
  unfold rowC at bk
  rw [e2] at bk
  have kF := H.inF hm (.inl rfl)
  have KC := Lib.hid (fun (w' : World) (hf : Frm (fun g => O.ownBlock = some g) w w') => (show w'.cell? ⟨(f v.n).b, 5, none⟩ = some (.slice B c0.items.length ic) from (World.cell?_of_block (hf.block _ bk.lt fun h => hOF _ h kF)).trans (bk.cell 5 _ rfl)))
  clear CA bk kF e2
  have hi3 : (i.k == 3) = false := by simpa using hi
  clear e1
  have hmx : Tryz.prog.follows .mixedOrders = true := by kernel_rfl
  obtain ⟨j0, hj0, hy0, hy1, hy2⟩ := info_parts infoV
  have OO := Lib.hid hO
  have OL := Lib.hid (fun g (h : O.ownBlock = some g) => (World.ownsRow.lt hO g h).2)
  have NB := Lib.hid hn
  clear hO hOF H hF hu hm hv hk0 hi
  unfold valV
  go_enter Tryz.func82, Tryz.ntmps82
  go_wp2_with fail
  have KV := Lib.hid ((Bk.new w #[.int .i64 v.k, .int .i64 v.n, .string v.s] 64).alloc (.cells #[.int .i64 i.k, .int .i64 i.n, .string i.s] 64))
  have KI := Lib.hid (Bk.new2 w (.cells #[.int .i64 v.k, .int .i64 v.n, .string v.s] 64) #[.int .i64 i.k, .int .i64 i.n, .string i.s] 64)
  have HB := Lib.hid (((Below.refl _ w).alloc (Nat.le_refl _) (.cells #[.int .i64 v.k, .int .i64 v.n, .string v.s] 64)).alloc (by simp) (.cells #[.int .i64 i.k, .int .i64 i.n, .string i.s] 64))
  have SZ : ((w.alloc (.cells #[.int .i64 v.k, .int .i64 v.n, .string v.s] 64)).alloc (.cells #[.int .i64 i.k, .int .i64 i.n, .string i.s] 64)).heap.size = w.heap.size + 1 + 1 := by simp
  have O1 := Lib.hid ((OO.out.alloc (.cells #[.int .i64 v.k, .int .i64 v.n, .string v.s] 64)).alloc (.cells #[.int .i64 i.k, .int .i64 i.n, .string i.s] 64))
  generalize (w.alloc (.cells #[.int .i64 v.k, .int .i64 v.n, .string v.s] 64)).alloc (.cells #[.int .i64 i.k, .int .i64 i.n, .string i.s] 64) = w1 at *
  have S1 := Lib.hid (show (fun v' : World => v'.cell? ⟨w.heap.size, 0, none⟩ = some (.int .i64 v.k) ∧ v'.cell? ⟨w.heap.size, 1, none⟩ = some (.int .i64 v.n) ∧ v'.cell? ⟨w.heap.size, 2, none⟩ = some (.string v.s) ∧ v'.cell? ⟨w.heap.size + 1, 0, none⟩ = some (.int .i64 i.k) ∧ v'.cell? ⟨w.heap.size + 1, 1, none⟩ = some (.int .i64 i.n) ∧ v'.cell? ⟨w.heap.size + 1, 2, none⟩ = some (.string i.s)) w1 from ⟨KV.out.cell 0 _ rfl, KV.out.cell 1 _ rfl, KV.out.cell 2 _ rfl, KI.out.cell 0 _ rfl, KI.out.cell 1 _ rfl, KI.out.cell 2 _ rfl⟩)
  refine region_plainX (fun v' => v'.cell? ⟨w.heap.size, 0, none⟩ = some (.int .i64 v.k) ∧ v'.cell? ⟨w.heap.size, 1, none⟩ = some (.int .i64 v.n) ∧ v'.cell? ⟨w.heap.size, 2, none⟩ = some (.string v.s) ∧ v'.cell? ⟨w.heap.size + 1, 0, none⟩ = some (.int .i64 i.k) ∧ v'.cell? ⟨w.heap.size + 1, 1, none⟩ = some (.int .i64 i.n) ∧ v'.cell? ⟨w.heap.size + 1, 2, none⟩ = some (.string i.s)) [] hmx ?_
  refine anyEx_take (i := 0) (u := ?_) rfl (by kernel_rfl) (by kernel_rfl) (by kernel_rfl) (by kernel_rfl) (by kernel_rfl) (fun _ _ _ h => h) (.inl ⟨by kernel_rfl, fun v' hS => ?_⟩) S1.out ?_
  rotate_left
  · obtain ⟨h0, h1, h2, h3, h4, h5⟩ := hS
    go_simp
    with_reducible rfl
  refine anyEx_take (i := 1) (u := ?_) rfl (by kernel_rfl) (by kernel_rfl) (by kernel_rfl) (by kernel_rfl) (by kernel_rfl) (fun _ _ _ h => h) (.inl ⟨by kernel_rfl, fun v' hS => ?_⟩) S1.out ?_
  rotate_left
  · obtain ⟨h0, h1, h2, h3, h4, h5⟩ := hS
    go_simp
    with_reducible rfl
  refine anyEx_take (i := 2) (u := ?_) rfl (by kernel_rfl) (by kernel_rfl) (by kernel_rfl) (by kernel_rfl) (by kernel_rfl) (fun _ _ _ h => h) (.inl ⟨by kernel_rfl, fun v' hS => ?_⟩) S1.out ?_
  rotate_left
  · obtain ⟨h0, h1, h2, h3, h4, h5⟩ := hS
    go_simp
    with_reducible rfl
  refine anyEx_take (i := 3) (u := ?_) rfl (by kernel_rfl) (by kernel_rfl) (by kernel_rfl) (by kernel_rfl) (by kernel_rfl) (fun _ _ _ h => h) (.inl ⟨by kernel_rfl, fun v' hS => ?_⟩) S1.out ?_
  rotate_left
  · obtain ⟨h0, h1, h2, h3, h4, h5⟩ := hS
    go_simp
    with_reducible rfl
  have BA := Lib.hid ((Below.refl _ w1).alloc (Nat.le_refl _) (.cells #[.int .i64 i.k, .int .i64 i.n, .string i.s] 64))
  have S2 := Lib.hid (show (fun v' : World => v'.cell? ⟨w.heap.size, 0, none⟩ = some (.int .i64 v.k) ∧ v'.cell? ⟨w.heap.size, 1, none⟩ = some (.int .i64 v.n) ∧ v'.cell? ⟨w.heap.size, 2, none⟩ = some (.string v.s) ∧ v'.cell? ⟨w.heap.size + 1, 0, none⟩ = some (.int .i64 i.k) ∧ v'.cell? ⟨w.heap.size + 1, 1, none⟩ = some (.int .i64 i.n) ∧ v'.cell? ⟨w.heap.size + 1, 2, none⟩ = some (.string i.s)) (w1.alloc (.cells #[.int .i64 i.k, .int .i64 i.n, .string i.s] 64)) from ⟨(BA.out.cell (p := ⟨_, _, none⟩) KV.out.lt).trans S1.out.1, (BA.out.cell (p := ⟨_, _, none⟩) KV.out.lt).trans S1.out.2.1, (BA.out.cell (p := ⟨_, _, none⟩) KV.out.lt).trans S1.out.2.2.1, (BA.out.cell (p := ⟨_, _, none⟩) KI.out.lt).trans S1.out.2.2.2.1, (BA.out.cell (p := ⟨_, _, none⟩) KI.out.lt).trans S1.out.2.2.2.2.1, (BA.out.cell (p := ⟨_, _, none⟩) KI.out.lt).trans S1.out.2.2.2.2.2⟩)
  refine anyEx_one 4 rfl (by kernel_rfl) (by kernel_rfl) ?_
  go_simp
  refine ⟨by first | exact S2.out | exact .inr S2.out | exact S1.out, ?_⟩
  refine anyEx_one 5 rfl (by kernel_rfl) (by kernel_rfl) ?_
  refine wp_append_lies _ _ _ 44 rfl 0 64 j0 _ 3 32 Tryz.underlying44 hj0 hy0 hy1 hy2 rfl (by decide) O n _ rfl (O1.out.alloc _).drew ⟨w.heap.size + 1 + 1, 0, none⟩ 1 1 [.int .i64 i.k, .int .i64 i.n, .string i.s] rfl rfl (World.news_of_block (w := (w1.alloc (.cells #[.int .i64 i.k, .int .i64 i.n, .string i.s] 64)).drew) (cs := #[.int .i64 i.k, .int .i64 i.n, .string i.s]) (t := 64) (fr := (0, 0)) (by rw [← SZ]; exact heap_alloc_new _ _)) (by simp [Value.oneCell']) (by decide) (by unfold maxLen; omega) (by omega) (Nat.zero_le _) (w1.heap.size + 1) (by simp [World.drew]) ?_
  intro g cap w3 o3 g3 h3 h3l
  have KV3 := Lib.hid ((KV.out.alloc (.cells #[.int .i64 i.k, .int .i64 i.n, .string i.s] 64)).grown (w := w1.alloc (.cells #[.int .i64 i.k, .int .i64 i.n, .string i.s] 64)) ⟨g3.os, g3.tape, g3.output, g3.size, g3.block⟩ (fun e => by have := OL.out _ e.symm; omega))
  have KI3 := Lib.hid ((KI.out.alloc (.cells #[.int .i64 i.k, .int .i64 i.n, .string i.s] 64)).grown (w := w1.alloc (.cells #[.int .i64 i.k, .int .i64 i.n, .string i.s] 64)) ⟨g3.os, g3.tape, g3.output, g3.size, g3.block⟩ (fun e => by have := OL.out _ e.symm; omega))
  have S3 := Lib.hid (show (fun v' : World => v'.cell? ⟨w.heap.size, 0, none⟩ = some (.int .i64 v.k) ∧ v'.cell? ⟨w.heap.size, 1, none⟩ = some (.int .i64 v.n) ∧ v'.cell? ⟨w.heap.size, 2, none⟩ = some (.string v.s) ∧ v'.cell? ⟨w.heap.size + 1, 0, none⟩ = some (.int .i64 i.k) ∧ v'.cell? ⟨w.heap.size + 1, 1, none⟩ = some (.int .i64 i.n) ∧ v'.cell? ⟨w.heap.size + 1, 2, none⟩ = some (.string i.s)) w3 from ⟨KV3.out.cell 0 _ rfl, KV3.out.cell 1 _ rfl, KV3.out.cell 2 _ rfl, KI3.out.cell 0 _ rfl, KI3.out.cell 1 _ rfl, KI3.out.cell 2 _ rfl⟩)
  have FR := Lib.hid (show Frm (fun g => O.ownBlock = some g) w w3 from ⟨g3.os.trans HB.out.os, g3.tape.trans HB.out.tape, g3.output.trans HB.out.output, Nat.le_trans HB.out.size (Nat.le_trans (by simp [World.drew]) g3.size), fun k hk hn => (g3.block k (by simp [World.drew]; omega) (fun e => hn e.symm)).trans ((Below.heap_alloc _ _ _ (by omega)).trans (HB.out.block k hk))⟩)
  have O3 := Lib.hid (show w3.ownsRow 0 64 3 (.slice (some ⟨g, 0, none⟩) (n + 1) cap) (n + 1) (flatV (o ++ [i])) by rw [show flatV (o ++ [i]) = flatV o ++ [.int .i64 i.k, .int .i64 i.n, .string i.s] by simp [flatV]]; exact o3)
  clear o3 g3 h3 h3l S2 BA O1
  refine ⟨.inr S3.out, ?_⟩
  refine anyEx_one 6 rfl (by kernel_rfl) (by kernel_rfl) ?_
  go_simp
  refine (OP.out w3 _ FR.out O3.out).mono ?_
  rintro e w4 ⟨rfl, hb⟩
  have KV4 := Lib.hid (KV3.out.below hb KV3.out.lt)
  have KI4 := Lib.hid (KI3.out.below hb KI3.out.lt)
  have S4 := Lib.hid (show (fun v' : World => v'.cell? ⟨w.heap.size, 0, none⟩ = some (.int .i64 v.k) ∧ v'.cell? ⟨w.heap.size, 1, none⟩ = some (.int .i64 v.n) ∧ v'.cell? ⟨w.heap.size, 2, none⟩ = some (.string v.s) ∧ v'.cell? ⟨w.heap.size + 1, 0, none⟩ = some (.int .i64 i.k) ∧ v'.cell? ⟨w.heap.size + 1, 1, none⟩ = some (.int .i64 i.n) ∧ v'.cell? ⟨w.heap.size + 1, 2, none⟩ = some (.string i.s)) w4 from ⟨KV4.out.cell 0 _ rfl, KV4.out.cell 1 _ rfl, KV4.out.cell 2 _ rfl, KI4.out.cell 0 _ rfl, KI4.out.cell 1 _ rfl, KI4.out.cell 2 _ rfl⟩)
  have FR4 := Lib.hid (show Frm (fun g => O.ownBlock = some g) w w4 from FR.out.trans (Frm.of_below (F := fun g => O.ownBlock = some g) hb) (fun _ _ h => h))
  clear hb KV3 KI3 S3 FR O3 S1 KV KI
  refine ⟨by first | exact S4.out | exact .inr S4.out, ?_⟩
  refine anyEx_take (i := 7) (u := ?_) rfl (by kernel_rfl) (by kernel_rfl) (by kernel_rfl) (by kernel_rfl) (by kernel_rfl) (fun _ _ _ h => h) (.inl ⟨by kernel_rfl, fun v' hS => ?_⟩) S4.out ?_
  rotate_left
  · obtain ⟨h0, h1, h2, h3, h4, h5⟩ := hS
    go_simp
    with_reducible rfl
  refine anyEx_take (i := 8) (u := ?_) rfl (by kernel_rfl) (by kernel_rfl) (by kernel_rfl) (by kernel_rfl) (by kernel_rfl) (fun _ _ _ h => h) (.inl ⟨by kernel_rfl, fun v' hS => ?_⟩) S4.out ?_
  rotate_left
  · obtain ⟨h0, h1, h2, h3, h4, h5⟩ := hS
    go_simp
    with_reducible rfl
  refine anyEx_take (i := 9) (u := ?_) rfl (by kernel_rfl) (by kernel_rfl) (by kernel_rfl) (by kernel_rfl) (by kernel_rfl) (fun _ _ _ h => h) (.inl ⟨by kernel_rfl, fun v' hS => ?_⟩) S4.out ?_
  rotate_left
  · obtain ⟨h0, h1, h2, h3, h4, h5⟩ := hS
    go_simp
    with_reducible rfl
  refine anyEx_take (i := 10) (u := ?_) rfl (by kernel_rfl) (by kernel_rfl) (by kernel_rfl) (by kernel_rfl) (by kernel_rfl) (fun _ _ _ h => h) (.inl ⟨by kernel_rfl, fun v' hS => ?_⟩) S4.out ?_
  rotate_left
  · obtain ⟨h0, h1, h2, h3, h4, h5⟩ := hS
    go_simp
    with_reducible rfl
  refine anyEx_take (i := 11) (u := ?_) rfl (by kernel_rfl) (by kernel_rfl) (by kernel_rfl) (by kernel_rfl) (by kernel_rfl) (fun _ _ _ h => h) (.inl ⟨by kernel_rfl, fun v' hS => ?_⟩) S4.out ?_
  rotate_left
  · obtain ⟨h0, h1, h2, h3, h4, h5⟩ := hS
    go_simp
    with_reducible rfl
  refine ⟨by kernel_rfl, ?_⟩
  have yI := KC.out _ FR4.out
  have x0 := S4.out.2.2.2.1
  have x1 := S4.out.2.2.2.2.1
  have x2 := S4.out.2.2.2.2.2
  clear S4 KV4 KI4 KC
  go_wp2_with fail
  go_ret2
  exact ⟨rfl, FR4⟩
set_option maxRecDepth 100000 in
set_option maxHeartbeats 2000000 in
theorem elem_neg (F : Nat → Prop) (p : Nat) (mb : Option Nat) (f : Int → Hd) (l : List Ent) (next : Int) (v i : Val) (O : Value) (o : List Val) (n : Nat) (w : World) (H : HeapA w F p mb f l next) (hF : ∀ g, F g → g < w.heap.size) (hid : I64 v.n) (hn : o.length = n) (hO : w.ownsRow 0 64 3 O n (flatV o)) (hOF : ∀ g, O.ownBlock = some g → ¬ F g) (hl : n ≤ 1000) (c0 : Cel) (hv : v.k = 5) (hm : (v.n, c0) ∈ l) (hk0 : c0.kind = 2) (hu : anyU v (o ++ [i]) = false) (hi : i.k = 3) (hb : i.n < 0) :
    Calls Tryz.prog 82 #[.pointer (some ⟨p, 0, none⟩), valV v, valV i, O] w fun e w' => e = .returned (.tuple #[.pointer none, .string sBounds]) ∧ Hid (Frm (fun g => O.ownBlock = some g) w w') := by
  have OP := Lib.hid (fun (w' : World) (O' : Value) (hf : Frm (fun g => O.ownBlock = some g) w w') (h : w'.ownsRow 0 64 3 O' (n + 1) (flatV (o ++ [i]))) => oper_cell_row F p mb f l next 2 v O' (o ++ [i]) (n + 1) w' (H.beside hF hOF hf) (fun g hg => Nat.lt_of_lt_of_le (hF g hg) hf.size) (by simp [hn]) h (by omega) hid hu c0 hv hm hk0)
  have CA := (H.of hm).2
  obtain ⟨A, nc, B, ic, e1, e2, -, -⟩ := CA.rows
  have bk := CA.blk
  unfold rowC at bk
  rw [e2] at bk
  have kF := H.inF hm (.inl rfl)
  have KC := Lib.hid (fun (w' : World) (hf : Frm (fun g => O.ownBlock = some g) w w') => (show w'.cell? ⟨(f v.n).b, 5, none⟩ = some (.slice B c0.items.length ic) from (World.cell?_of_block (hf.block _ bk.lt fun h => hOF _ h kF)).trans (bk.cell 5 _ rfl)))
  clear CA bk kF e2
  clear e1
  obtain ⟨ik, xn, xs⟩ := i
  simp only at hi hb hu OP ⊢
  subst hi
  generalize c0.items.length = m at *
  have hmx : Tryz.prog.follows .mixedOrders = true := by kernel_rfl
  obtain ⟨j0, hj0, hy0, hy1, hy2⟩ := info_parts infoV
  have OO := Lib.hid hO
  have OL := Lib.hid (fun g (h : O.ownBlock = some g) => (World.ownsRow.lt hO g h).2)
  have NB := Lib.hid hn
  clear hO hOF H hF hu hm hv hk0
  unfold valV
  go_enter Tryz.func82, Tryz.ntmps82
  go_wp2_with fail
  have KV := Lib.hid ((Bk.new w #[.int .i64 v.k, .int .i64 v.n, .string v.s] 64).alloc (.cells #[.int .i64 3, .int .i64 xn, .string xs] 64))
  have KI := Lib.hid (Bk.new2 w (.cells #[.int .i64 v.k, .int .i64 v.n, .string v.s] 64) #[.int .i64 3, .int .i64 xn, .string xs] 64)
  have HB := Lib.hid (((Below.refl _ w).alloc (Nat.le_refl _) (.cells #[.int .i64 v.k, .int .i64 v.n, .string v.s] 64)).alloc (by simp) (.cells #[.int .i64 3, .int .i64 xn, .string xs] 64))
  have SZ : ((w.alloc (.cells #[.int .i64 v.k, .int .i64 v.n, .string v.s] 64)).alloc (.cells #[.int .i64 3, .int .i64 xn, .string xs] 64)).heap.size = w.heap.size + 1 + 1 := by simp
  have O1 := Lib.hid ((OO.out.alloc (.cells #[.int .i64 v.k, .int .i64 v.n, .string v.s] 64)).alloc (.cells #[.int .i64 3, .int .i64 xn, .string xs] 64))
  generalize (w.alloc (.cells #[.int .i64 v.k, .int .i64 v.n, .string v.s] 64)).alloc (.cells #[.int .i64 3, .int .i64 xn, .string xs] 64) = w1 at *
  have S1 := Lib.hid (show (fun v' : World => v'.cell? ⟨w.heap.size, 0, none⟩ = some (.int .i64 v.k) ∧ v'.cell? ⟨w.heap.size, 1, none⟩ = some (.int .i64 v.n) ∧ v'.cell? ⟨w.heap.size, 2, none⟩ = some (.string v.s) ∧ v'.cell? ⟨w.heap.size + 1, 0, none⟩ = some (.int .i64 3) ∧ v'.cell? ⟨w.heap.size + 1, 1, none⟩ = some (.int .i64 xn) ∧ v'.cell? ⟨w.heap.size + 1, 2, none⟩ = some (.string xs)) w1 from ⟨KV.out.cell 0 _ rfl, KV.out.cell 1 _ rfl, KV.out.cell 2 _ rfl, KI.out.cell 0 _ rfl, KI.out.cell 1 _ rfl, KI.out.cell 2 _ rfl⟩)
  refine region_plainX (fun v' => v'.cell? ⟨w.heap.size, 0, none⟩ = some (.int .i64 v.k) ∧ v'.cell? ⟨w.heap.size, 1, none⟩ = some (.int .i64 v.n) ∧ v'.cell? ⟨w.heap.size, 2, none⟩ = some (.string v.s) ∧ v'.cell? ⟨w.heap.size + 1, 0, none⟩ = some (.int .i64 3) ∧ v'.cell? ⟨w.heap.size + 1, 1, none⟩ = some (.int .i64 xn) ∧ v'.cell? ⟨w.heap.size + 1, 2, none⟩ = some (.string xs)) [] hmx ?_
  refine anyEx_take (i := 0) (u := ?_) rfl (by kernel_rfl) (by kernel_rfl) (by kernel_rfl) (by kernel_rfl) (by kernel_rfl) (fun _ _ _ h => h) (.inl ⟨by kernel_rfl, fun v' hS => ?_⟩) S1.out ?_
  rotate_left
  · obtain ⟨h0, h1, h2, h3, h4, h5⟩ := hS
    go_simp
    with_reducible rfl
  refine anyEx_take (i := 1) (u := ?_) rfl (by kernel_rfl) (by kernel_rfl) (by kernel_rfl) (by kernel_rfl) (by kernel_rfl) (fun _ _ _ h => h) (.inl ⟨by kernel_rfl, fun v' hS => ?_⟩) S1.out ?_
  rotate_left
  · obtain ⟨h0, h1, h2, h3, h4, h5⟩ := hS
    go_simp
    with_reducible rfl
  refine anyEx_take (i := 2) (u := ?_) rfl (by kernel_rfl) (by kernel_rfl) (by kernel_rfl) (by kernel_rfl) (by kernel_rfl) (fun _ _ _ h => h) (.inl ⟨by kernel_rfl, fun v' hS => ?_⟩) S1.out ?_
  rotate_left
  · obtain ⟨h0, h1, h2, h3, h4, h5⟩ := hS
    go_simp
    with_reducible rfl
  refine anyEx_take (i := 3) (u := ?_) rfl (by kernel_rfl) (by kernel_rfl) (by kernel_rfl) (by kernel_rfl) (by kernel_rfl) (fun _ _ _ h => h) (.inl ⟨by kernel_rfl, fun v' hS => ?_⟩) S1.out ?_
  rotate_left
  · obtain ⟨h0, h1, h2, h3, h4, h5⟩ := hS
    go_simp
    with_reducible rfl
  have BA := Lib.hid ((Below.refl _ w1).alloc (Nat.le_refl _) (.cells #[.int .i64 3, .int .i64 xn, .string xs] 64))
  have S2 := Lib.hid (show (fun v' : World => v'.cell? ⟨w.heap.size, 0, none⟩ = some (.int .i64 v.k) ∧ v'.cell? ⟨w.heap.size, 1, none⟩ = some (.int .i64 v.n) ∧ v'.cell? ⟨w.heap.size, 2, none⟩ = some (.string v.s) ∧ v'.cell? ⟨w.heap.size + 1, 0, none⟩ = some (.int .i64 3) ∧ v'.cell? ⟨w.heap.size + 1, 1, none⟩ = some (.int .i64 xn) ∧ v'.cell? ⟨w.heap.size + 1, 2, none⟩ = some (.string xs)) (w1.alloc (.cells #[.int .i64 3, .int .i64 xn, .string xs] 64)) from ⟨(BA.out.cell (p := ⟨_, _, none⟩) KV.out.lt).trans S1.out.1, (BA.out.cell (p := ⟨_, _, none⟩) KV.out.lt).trans S1.out.2.1, (BA.out.cell (p := ⟨_, _, none⟩) KV.out.lt).trans S1.out.2.2.1, (BA.out.cell (p := ⟨_, _, none⟩) KI.out.lt).trans S1.out.2.2.2.1, (BA.out.cell (p := ⟨_, _, none⟩) KI.out.lt).trans S1.out.2.2.2.2.1, (BA.out.cell (p := ⟨_, _, none⟩) KI.out.lt).trans S1.out.2.2.2.2.2⟩)
  refine anyEx_one 4 rfl (by kernel_rfl) (by kernel_rfl) ?_
  go_simp
  refine ⟨by first | exact S2.out | exact .inr S2.out | exact S1.out, ?_⟩
  refine anyEx_one 5 rfl (by kernel_rfl) (by kernel_rfl) ?_
  refine wp_append_lies _ _ _ 44 rfl 0 64 j0 _ 3 32 Tryz.underlying44 hj0 hy0 hy1 hy2 rfl (by decide) O n _ rfl (O1.out.alloc _).drew ⟨w.heap.size + 1 + 1, 0, none⟩ 1 1 [.int .i64 3, .int .i64 xn, .string xs] rfl rfl (World.news_of_block (w := (w1.alloc (.cells #[.int .i64 3, .int .i64 xn, .string xs] 64)).drew) (cs := #[.int .i64 3, .int .i64 xn, .string xs]) (t := 64) (fr := (0, 0)) (by rw [← SZ]; exact heap_alloc_new _ _)) (by simp [Value.oneCell']) (by decide) (by unfold maxLen; omega) (by omega) (Nat.zero_le _) (w1.heap.size + 1) (by simp [World.drew]) ?_
  intro g cap w3 o3 g3 h3 h3l
  have KV3 := Lib.hid ((KV.out.alloc (.cells #[.int .i64 3, .int .i64 xn, .string xs] 64)).grown (w := w1.alloc (.cells #[.int .i64 3, .int .i64 xn, .string xs] 64)) ⟨g3.os, g3.tape, g3.output, g3.size, g3.block⟩ (fun e => by have := OL.out _ e.symm; omega))
  have KI3 := Lib.hid ((KI.out.alloc (.cells #[.int .i64 3, .int .i64 xn, .string xs] 64)).grown (w := w1.alloc (.cells #[.int .i64 3, .int .i64 xn, .string xs] 64)) ⟨g3.os, g3.tape, g3.output, g3.size, g3.block⟩ (fun e => by have := OL.out _ e.symm; omega))
  have S3 := Lib.hid (show (fun v' : World => v'.cell? ⟨w.heap.size, 0, none⟩ = some (.int .i64 v.k) ∧ v'.cell? ⟨w.heap.size, 1, none⟩ = some (.int .i64 v.n) ∧ v'.cell? ⟨w.heap.size, 2, none⟩ = some (.string v.s) ∧ v'.cell? ⟨w.heap.size + 1, 0, none⟩ = some (.int .i64 3) ∧ v'.cell? ⟨w.heap.size + 1, 1, none⟩ = some (.int .i64 xn) ∧ v'.cell? ⟨w.heap.size + 1, 2, none⟩ = some (.string xs)) w3 from ⟨KV3.out.cell 0 _ rfl, KV3.out.cell 1 _ rfl, KV3.out.cell 2 _ rfl, KI3.out.cell 0 _ rfl, KI3.out.cell 1 _ rfl, KI3.out.cell 2 _ rfl⟩)
  have FR := Lib.hid (show Frm (fun g => O.ownBlock = some g) w w3 from ⟨g3.os.trans HB.out.os, g3.tape.trans HB.out.tape, g3.output.trans HB.out.output, Nat.le_trans HB.out.size (Nat.le_trans (by simp [World.drew]) g3.size), fun k hk hn => (g3.block k (by simp [World.drew]; omega) (fun e => hn e.symm)).trans ((Below.heap_alloc _ _ _ (by omega)).trans (HB.out.block k hk))⟩)
  have O3 := Lib.hid (show w3.ownsRow 0 64 3 (.slice (some ⟨g, 0, none⟩) (n + 1) cap) (n + 1) (flatV (o ++ [⟨3, xn, xs⟩])) by rw [show flatV (o ++ [⟨3, xn, xs⟩]) = flatV o ++ [.int .i64 3, .int .i64 xn, .string xs] by simp [flatV]]; exact o3)
  clear o3 g3 h3 h3l S2 BA O1
  refine ⟨.inr S3.out, ?_⟩
  refine anyEx_one 6 rfl (by kernel_rfl) (by kernel_rfl) ?_
  go_simp
  refine (OP.out w3 _ FR.out O3.out).mono ?_
  rintro e w4 ⟨rfl, hb⟩
  have KV4 := Lib.hid (KV3.out.below hb KV3.out.lt)
  have KI4 := Lib.hid (KI3.out.below hb KI3.out.lt)
  have S4 := Lib.hid (show (fun v' : World => v'.cell? ⟨w.heap.size, 0, none⟩ = some (.int .i64 v.k) ∧ v'.cell? ⟨w.heap.size, 1, none⟩ = some (.int .i64 v.n) ∧ v'.cell? ⟨w.heap.size, 2, none⟩ = some (.string v.s) ∧ v'.cell? ⟨w.heap.size + 1, 0, none⟩ = some (.int .i64 3) ∧ v'.cell? ⟨w.heap.size + 1, 1, none⟩ = some (.int .i64 xn) ∧ v'.cell? ⟨w.heap.size + 1, 2, none⟩ = some (.string xs)) w4 from ⟨KV4.out.cell 0 _ rfl, KV4.out.cell 1 _ rfl, KV4.out.cell 2 _ rfl, KI4.out.cell 0 _ rfl, KI4.out.cell 1 _ rfl, KI4.out.cell 2 _ rfl⟩)
  have FR4 := Lib.hid (show Frm (fun g => O.ownBlock = some g) w w4 from FR.out.trans (Frm.of_below (F := fun g => O.ownBlock = some g) hb) (fun _ _ h => h))
  clear hb KV3 KI3 S3 FR O3 S1 KV KI
  refine ⟨by first | exact S4.out | exact .inr S4.out, ?_⟩
  refine anyEx_take (i := 7) (u := ?_) rfl (by kernel_rfl) (by kernel_rfl) (by kernel_rfl) (by kernel_rfl) (by kernel_rfl) (fun _ _ _ h => h) (.inl ⟨by kernel_rfl, fun v' hS => ?_⟩) S4.out ?_
  rotate_left
  · obtain ⟨h0, h1, h2, h3, h4, h5⟩ := hS
    go_simp
    with_reducible rfl
  refine anyEx_take (i := 8) (u := ?_) rfl (by kernel_rfl) (by kernel_rfl) (by kernel_rfl) (by kernel_rfl) (by kernel_rfl) (fun _ _ _ h => h) (.inl ⟨by kernel_rfl, fun v' hS => ?_⟩) S4.out ?_
  rotate_left
  · obtain ⟨h0, h1, h2, h3, h4, h5⟩ := hS
    go_simp
    with_reducible rfl
  refine anyEx_take (i := 9) (u := ?_) rfl (by kernel_rfl) (by kernel_rfl) (by kernel_rfl) (by kernel_rfl) (by kernel_rfl) (fun _ _ _ h => h) (.inl ⟨by kernel_rfl, fun v' hS => ?_⟩) S4.out ?_
  rotate_left
  · obtain ⟨h0, h1, h2, h3, h4, h5⟩ := hS
    go_simp
    with_reducible rfl
  refine anyEx_take (i := 10) (u := ?_) rfl (by kernel_rfl) (by kernel_rfl) (by kernel_rfl) (by kernel_rfl) (by kernel_rfl) (fun _ _ _ h => h) (.inl ⟨by kernel_rfl, fun v' hS => ?_⟩) S4.out ?_
  rotate_left
  · obtain ⟨h0, h1, h2, h3, h4, h5⟩ := hS
    go_simp
    with_reducible rfl
  refine anyEx_take (i := 11) (u := ?_) rfl (by kernel_rfl) (by kernel_rfl) (by kernel_rfl) (by kernel_rfl) (by kernel_rfl) (fun _ _ _ h => h) (.inl ⟨by kernel_rfl, fun v' hS => ?_⟩) S4.out ?_
  rotate_left
  · obtain ⟨h0, h1, h2, h3, h4, h5⟩ := hS
    go_simp
    with_reducible rfl
  refine ⟨by kernel_rfl, ?_⟩
  have yI := KC.out _ FR4.out
  have x0 := S4.out.2.2.2.1
  have x1 := S4.out.2.2.2.2.1
  have x2 := S4.out.2.2.2.2.2
  clear S4 KV4 KI4 KC
  go_wp2_with fail
  go_region
  go_wp2_with fail
  go_ret2
  exact ⟨rfl, Lib.hid FR4.out.drew⟩
set_option maxRecDepth 100000 in
set_option maxHeartbeats 2000000 in
theorem elem_over (F : Nat → Prop) (p : Nat) (mb : Option Nat) (f : Int → Hd) (l : List Ent) (next : Int) (v i : Val) (O : Value) (o : List Val) (n : Nat) (w : World) (H : HeapA w F p mb f l next) (hF : ∀ g, F g → g < w.heap.size) (hid : I64 v.n) (hn : o.length = n) (hO : w.ownsRow 0 64 3 O n (flatV o)) (hOF : ∀ g, O.ownBlock = some g → ¬ F g) (hl : n ≤ 1000) (c0 : Cel) (hv : v.k = 5) (hm : (v.n, c0) ∈ l) (hk0 : c0.kind = 2) (hu : anyU v (o ++ [i]) = false) (hi : i.k = 3) (hb : (c0.items.length : Int) ≤ i.n) :
    Calls Tryz.prog 82 #[.pointer (some ⟨p, 0, none⟩), valV v, valV i, O] w fun e w' => e = .returned (.tuple #[.pointer none, .string sBounds]) ∧ Hid (Frm (fun g => O.ownBlock = some g) w w') := by
  have OP := Lib.hid (fun (w' : World) (O' : Value) (hf : Frm (fun g => O.ownBlock = some g) w w') (h : w'.ownsRow 0 64 3 O' (n + 1) (flatV (o ++ [i]))) => oper_cell_row F p mb f l next 2 v O' (o ++ [i]) (n + 1) w' (H.beside hF hOF hf) (fun g hg => Nat.lt_of_lt_of_le (hF g hg) hf.size) (by simp [hn]) h (by omega) hid hu c0 hv hm hk0)
  have CA := (H.of hm).2
  obtain ⟨A, nc, B, ic, e1, e2, -, -⟩ := CA.rows
  have bk := CA.blk
  unfold rowC at bk
  rw [e2] at bk
  have kF := H.inF hm (.inl rfl)
  have KC := Lib.hid (fun (w' : World) (hf : Frm (fun g => O.ownBlock = some g) w w') => (show w'.cell? ⟨(f v.n).b, 5, none⟩ = some (.slice B c0.items.length ic) from (World.cell?_of_block (hf.block _ bk.lt fun h => hOF _ h kF)).trans (bk.cell 5 _ rfl)))
  clear CA bk kF e2
  clear e1
  obtain ⟨ik, xn, xs⟩ := i
  simp only at hi hb hu OP ⊢
  subst hi
  generalize c0.items.length = m at *
  have hd0 : decide (xn < 0) = false := decide_eq_false (by omega)
  have hd1 : decide ((m : Int) ≤ xn) = true := decide_eq_true hb
  have hmx : Tryz.prog.follows .mixedOrders = true := by kernel_rfl
  obtain ⟨j0, hj0, hy0, hy1, hy2⟩ := info_parts infoV
  have OO := Lib.hid hO
  have OL := Lib.hid (fun g (h : O.ownBlock = some g) => (World.ownsRow.lt hO g h).2)
  have NB := Lib.hid hn
  clear hO hOF H hF hu hm hv hk0
  unfold valV
  go_enter Tryz.func82, Tryz.ntmps82
  go_wp2_with fail
  have KV := Lib.hid ((Bk.new w #[.int .i64 v.k, .int .i64 v.n, .string v.s] 64).alloc (.cells #[.int .i64 3, .int .i64 xn, .string xs] 64))
  have KI := Lib.hid (Bk.new2 w (.cells #[.int .i64 v.k, .int .i64 v.n, .string v.s] 64) #[.int .i64 3, .int .i64 xn, .string xs] 64)
  have HB := Lib.hid (((Below.refl _ w).alloc (Nat.le_refl _) (.cells #[.int .i64 v.k, .int .i64 v.n, .string v.s] 64)).alloc (by simp) (.cells #[.int .i64 3, .int .i64 xn, .string xs] 64))
  have SZ : ((w.alloc (.cells #[.int .i64 v.k, .int .i64 v.n, .string v.s] 64)).alloc (.cells #[.int .i64 3, .int .i64 xn, .string xs] 64)).heap.size = w.heap.size + 1 + 1 := by simp
  have O1 := Lib.hid ((OO.out.alloc (.cells #[.int .i64 v.k, .int .i64 v.n, .string v.s] 64)).alloc (.cells #[.int .i64 3, .int .i64 xn, .string xs] 64))
  generalize (w.alloc (.cells #[.int .i64 v.k, .int .i64 v.n, .string v.s] 64)).alloc (.cells #[.int .i64 3, .int .i64 xn, .string xs] 64) = w1 at *
  have S1 := Lib.hid (show (fun v' : World => v'.cell? ⟨w.heap.size, 0, none⟩ = some (.int .i64 v.k) ∧ v'.cell? ⟨w.heap.size, 1, none⟩ = some (.int .i64 v.n) ∧ v'.cell? ⟨w.heap.size, 2, none⟩ = some (.string v.s) ∧ v'.cell? ⟨w.heap.size + 1, 0, none⟩ = some (.int .i64 3) ∧ v'.cell? ⟨w.heap.size + 1, 1, none⟩ = some (.int .i64 xn) ∧ v'.cell? ⟨w.heap.size + 1, 2, none⟩ = some (.string xs)) w1 from ⟨KV.out.cell 0 _ rfl, KV.out.cell 1 _ rfl, KV.out.cell 2 _ rfl, KI.out.cell 0 _ rfl, KI.out.cell 1 _ rfl, KI.out.cell 2 _ rfl⟩)
  refine region_plainX (fun v' => v'.cell? ⟨w.heap.size, 0, none⟩ = some (.int .i64 v.k) ∧ v'.cell? ⟨w.heap.size, 1, none⟩ = some (.int .i64 v.n) ∧ v'.cell? ⟨w.heap.size, 2, none⟩ = some (.string v.s) ∧ v'.cell? ⟨w.heap.size + 1, 0, none⟩ = some (.int .i64 3) ∧ v'.cell? ⟨w.heap.size + 1, 1, none⟩ = some (.int .i64 xn) ∧ v'.cell? ⟨w.heap.size + 1, 2, none⟩ = some (.string xs)) [] hmx ?_
  refine anyEx_take (i := 0) (u := ?_) rfl (by kernel_rfl) (by kernel_rfl) (by kernel_rfl) (by kernel_rfl) (by kernel_rfl) (fun _ _ _ h => h) (.inl ⟨by kernel_rfl, fun v' hS => ?_⟩) S1.out ?_
  rotate_left
  · obtain ⟨h0, h1, h2, h3, h4, h5⟩ := hS
    go_simp
    with_reducible rfl
  refine anyEx_take (i := 1) (u := ?_) rfl (by kernel_rfl) (by kernel_rfl) (by kernel_rfl) (by kernel_rfl) (by kernel_rfl) (fun _ _ _ h => h) (.inl ⟨by kernel_rfl, fun v' hS => ?_⟩) S1.out ?_
  rotate_left
  · obtain ⟨h0, h1, h2, h3, h4, h5⟩ := hS
    go_simp
    with_reducible rfl
  refine anyEx_take (i := 2) (u := ?_) rfl (by kernel_rfl) (by kernel_rfl) (by kernel_rfl) (by kernel_rfl) (by kernel_rfl) (fun _ _ _ h => h) (.inl ⟨by kernel_rfl, fun v' hS => ?_⟩) S1.out ?_
  rotate_left
  · obtain ⟨h0, h1, h2, h3, h4, h5⟩ := hS
    go_simp
    with_reducible rfl
  refine anyEx_take (i := 3) (u := ?_) rfl (by kernel_rfl) (by kernel_rfl) (by kernel_rfl) (by kernel_rfl) (by kernel_rfl) (fun _ _ _ h => h) (.inl ⟨by kernel_rfl, fun v' hS => ?_⟩) S1.out ?_
  rotate_left
  · obtain ⟨h0, h1, h2, h3, h4, h5⟩ := hS
    go_simp
    with_reducible rfl
  have BA := Lib.hid ((Below.refl _ w1).alloc (Nat.le_refl _) (.cells #[.int .i64 3, .int .i64 xn, .string xs] 64))
  have S2 := Lib.hid (show (fun v' : World => v'.cell? ⟨w.heap.size, 0, none⟩ = some (.int .i64 v.k) ∧ v'.cell? ⟨w.heap.size, 1, none⟩ = some (.int .i64 v.n) ∧ v'.cell? ⟨w.heap.size, 2, none⟩ = some (.string v.s) ∧ v'.cell? ⟨w.heap.size + 1, 0, none⟩ = some (.int .i64 3) ∧ v'.cell? ⟨w.heap.size + 1, 1, none⟩ = some (.int .i64 xn) ∧ v'.cell? ⟨w.heap.size + 1, 2, none⟩ = some (.string xs)) (w1.alloc (.cells #[.int .i64 3, .int .i64 xn, .string xs] 64)) from ⟨(BA.out.cell (p := ⟨_, _, none⟩) KV.out.lt).trans S1.out.1, (BA.out.cell (p := ⟨_, _, none⟩) KV.out.lt).trans S1.out.2.1, (BA.out.cell (p := ⟨_, _, none⟩) KV.out.lt).trans S1.out.2.2.1, (BA.out.cell (p := ⟨_, _, none⟩) KI.out.lt).trans S1.out.2.2.2.1, (BA.out.cell (p := ⟨_, _, none⟩) KI.out.lt).trans S1.out.2.2.2.2.1, (BA.out.cell (p := ⟨_, _, none⟩) KI.out.lt).trans S1.out.2.2.2.2.2⟩)
  refine anyEx_one 4 rfl (by kernel_rfl) (by kernel_rfl) ?_
  go_simp
  refine ⟨by first | exact S2.out | exact .inr S2.out | exact S1.out, ?_⟩
  refine anyEx_one 5 rfl (by kernel_rfl) (by kernel_rfl) ?_
  refine wp_append_lies _ _ _ 44 rfl 0 64 j0 _ 3 32 Tryz.underlying44 hj0 hy0 hy1 hy2 rfl (by decide) O n _ rfl (O1.out.alloc _).drew ⟨w.heap.size + 1 + 1, 0, none⟩ 1 1 [.int .i64 3, .int .i64 xn, .string xs] rfl rfl (World.news_of_block (w := (w1.alloc (.cells #[.int .i64 3, .int .i64 xn, .string xs] 64)).drew) (cs := #[.int .i64 3, .int .i64 xn, .string xs]) (t := 64) (fr := (0, 0)) (by rw [← SZ]; exact heap_alloc_new _ _)) (by simp [Value.oneCell']) (by decide) (by unfold maxLen; omega) (by omega) (Nat.zero_le _) (w1.heap.size + 1) (by simp [World.drew]) ?_
  intro g cap w3 o3 g3 h3 h3l
  have KV3 := Lib.hid ((KV.out.alloc (.cells #[.int .i64 3, .int .i64 xn, .string xs] 64)).grown (w := w1.alloc (.cells #[.int .i64 3, .int .i64 xn, .string xs] 64)) ⟨g3.os, g3.tape, g3.output, g3.size, g3.block⟩ (fun e => by have := OL.out _ e.symm; omega))
  have KI3 := Lib.hid ((KI.out.alloc (.cells #[.int .i64 3, .int .i64 xn, .string xs] 64)).grown (w := w1.alloc (.cells #[.int .i64 3, .int .i64 xn, .string xs] 64)) ⟨g3.os, g3.tape, g3.output, g3.size, g3.block⟩ (fun e => by have := OL.out _ e.symm; omega))
  have S3 := Lib.hid (show (fun v' : World => v'.cell? ⟨w.heap.size, 0, none⟩ = some (.int .i64 v.k) ∧ v'.cell? ⟨w.heap.size, 1, none⟩ = some (.int .i64 v.n) ∧ v'.cell? ⟨w.heap.size, 2, none⟩ = some (.string v.s) ∧ v'.cell? ⟨w.heap.size + 1, 0, none⟩ = some (.int .i64 3) ∧ v'.cell? ⟨w.heap.size + 1, 1, none⟩ = some (.int .i64 xn) ∧ v'.cell? ⟨w.heap.size + 1, 2, none⟩ = some (.string xs)) w3 from ⟨KV3.out.cell 0 _ rfl, KV3.out.cell 1 _ rfl, KV3.out.cell 2 _ rfl, KI3.out.cell 0 _ rfl, KI3.out.cell 1 _ rfl, KI3.out.cell 2 _ rfl⟩)
  have FR := Lib.hid (show Frm (fun g => O.ownBlock = some g) w w3 from ⟨g3.os.trans HB.out.os, g3.tape.trans HB.out.tape, g3.output.trans HB.out.output, Nat.le_trans HB.out.size (Nat.le_trans (by simp [World.drew]) g3.size), fun k hk hn => (g3.block k (by simp [World.drew]; omega) (fun e => hn e.symm)).trans ((Below.heap_alloc _ _ _ (by omega)).trans (HB.out.block k hk))⟩)
  have O3 := Lib.hid (show w3.ownsRow 0 64 3 (.slice (some ⟨g, 0, none⟩) (n + 1) cap) (n + 1) (flatV (o ++ [⟨3, xn, xs⟩])) by rw [show flatV (o ++ [⟨3, xn, xs⟩]) = flatV o ++ [.int .i64 3, .int .i64 xn, .string xs] by simp [flatV]]; exact o3)
  clear o3 g3 h3 h3l S2 BA O1
  refine ⟨.inr S3.out, ?_⟩
  refine anyEx_one 6 rfl (by kernel_rfl) (by kernel_rfl) ?_
  go_simp
  refine (OP.out w3 _ FR.out O3.out).mono ?_
  rintro e w4 ⟨rfl, hb⟩
  have KV4 := Lib.hid (KV3.out.below hb KV3.out.lt)
  have KI4 := Lib.hid (KI3.out.below hb KI3.out.lt)
  have S4 := Lib.hid (show (fun v' : World => v'.cell? ⟨w.heap.size, 0, none⟩ = some (.int .i64 v.k) ∧ v'.cell? ⟨w.heap.size, 1, none⟩ = some (.int .i64 v.n) ∧ v'.cell? ⟨w.heap.size, 2, none⟩ = some (.string v.s) ∧ v'.cell? ⟨w.heap.size + 1, 0, none⟩ = some (.int .i64 3) ∧ v'.cell? ⟨w.heap.size + 1, 1, none⟩ = some (.int .i64 xn) ∧ v'.cell? ⟨w.heap.size + 1, 2, none⟩ = some (.string xs)) w4 from ⟨KV4.out.cell 0 _ rfl, KV4.out.cell 1 _ rfl, KV4.out.cell 2 _ rfl, KI4.out.cell 0 _ rfl, KI4.out.cell 1 _ rfl, KI4.out.cell 2 _ rfl⟩)
  have FR4 := Lib.hid (show Frm (fun g => O.ownBlock = some g) w w4 from FR.out.trans (Frm.of_below (F := fun g => O.ownBlock = some g) hb) (fun _ _ h => h))
  clear hb KV3 KI3 S3 FR O3 S1 KV KI
  refine ⟨by first | exact S4.out | exact .inr S4.out, ?_⟩
  refine anyEx_take (i := 7) (u := ?_) rfl (by kernel_rfl) (by kernel_rfl) (by kernel_rfl) (by kernel_rfl) (by kernel_rfl) (fun _ _ _ h => h) (.inl ⟨by kernel_rfl, fun v' hS => ?_⟩) S4.out ?_
  rotate_left
  · obtain ⟨h0, h1, h2, h3, h4, h5⟩ := hS
    go_simp
    with_reducible rfl
  refine anyEx_take (i := 8) (u := ?_) rfl (by kernel_rfl) (by kernel_rfl) (by kernel_rfl) (by kernel_rfl) (by kernel_rfl) (fun _ _ _ h => h) (.inl ⟨by kernel_rfl, fun v' hS => ?_⟩) S4.out ?_
  rotate_left
  · obtain ⟨h0, h1, h2, h3, h4, h5⟩ := hS
    go_simp
    with_reducible rfl
  refine anyEx_take (i := 9) (u := ?_) rfl (by kernel_rfl) (by kernel_rfl) (by kernel_rfl) (by kernel_rfl) (by kernel_rfl) (fun _ _ _ h => h) (.inl ⟨by kernel_rfl, fun v' hS => ?_⟩) S4.out ?_
  rotate_left
  · obtain ⟨h0, h1, h2, h3, h4, h5⟩ := hS
    go_simp
    with_reducible rfl
  refine anyEx_take (i := 10) (u := ?_) rfl (by kernel_rfl) (by kernel_rfl) (by kernel_rfl) (by kernel_rfl) (by kernel_rfl) (fun _ _ _ h => h) (.inl ⟨by kernel_rfl, fun v' hS => ?_⟩) S4.out ?_
  rotate_left
  · obtain ⟨h0, h1, h2, h3, h4, h5⟩ := hS
    go_simp
    with_reducible rfl
  refine anyEx_take (i := 11) (u := ?_) rfl (by kernel_rfl) (by kernel_rfl) (by kernel_rfl) (by kernel_rfl) (by kernel_rfl) (fun _ _ _ h => h) (.inl ⟨by kernel_rfl, fun v' hS => ?_⟩) S4.out ?_
  rotate_left
  · obtain ⟨h0, h1, h2, h3, h4, h5⟩ := hS
    go_simp
    with_reducible rfl
  refine ⟨by kernel_rfl, ?_⟩
  have yI := KC.out _ FR4.out
  have x0 := S4.out.2.2.2.1
  have x1 := S4.out.2.2.2.2.1
  have x2 := S4.out.2.2.2.2.2
  clear S4 KV4 KI4 KC
  go_wp2_with fail
  go_region
  go_wp2_with fail
  go_ret2
  exact ⟨rfl, Lib.hid FR4.out.drew⟩
set_option maxRecDepth 100000 in
set_option maxHeartbeats 2000000 in
theorem elem_item (F : Nat → Prop) (p : Nat) (mb : Option Nat) (f : Int → Hd) (l : List Ent) (next : Int) (v i : Val) (O : Value) (o : List Val) (n : Nat) (w : World) (H : HeapA w F p mb f l next) (hF : ∀ g, F g → g < w.heap.size) (hid : I64 v.n) (hn : o.length = n) (hO : w.ownsRow 0 64 3 O n (flatV o)) (hOF : ∀ g, O.ownBlock = some g → ¬ F g) (hl : n ≤ 1000) (c0 : Cel) (hv : v.k = 5) (hm : (v.n, c0) ∈ l) (hk0 : c0.kind = 2) (hu : anyU v (o ++ [i]) = false) (hi : i.k = 3) (k : Nat) (hin : i.n = (k : Int)) (hb : (k : Int) < c0.items.length) (ib jc : Nat) (hI : (f v.n).I = .slice (some ⟨ib, 0, none⟩) c0.items.length jc) :
    Calls Tryz.prog 82 #[.pointer (some ⟨p, 0, none⟩), valV v, valV i, O] w fun e w' => e = .returned (.tuple #[.pointer (some ⟨ib, k * 3, none⟩), .string ⟨#[]⟩]) ∧ Hid (Frm (fun g => O.ownBlock = some g) w w') := by
  have OP := Lib.hid (fun (w' : World) (O' : Value) (hf : Frm (fun g => O.ownBlock = some g) w w') (h : w'.ownsRow 0 64 3 O' (n + 1) (flatV (o ++ [i]))) => oper_cell_row F p mb f l next 2 v O' (o ++ [i]) (n + 1) w' (H.beside hF hOF hf) (fun g hg => Nat.lt_of_lt_of_le (hF g hg) hf.size) (by simp [hn]) h (by omega) hid hu c0 hv hm hk0)
  have CA := (H.of hm).2
  obtain ⟨A, nc, B, ic, e1, e2, -, -⟩ := CA.rows
  have bk := CA.blk
  unfold rowC at bk
  rw [e2] at bk
  have kF := H.inF hm (.inl rfl)
  have KC := Lib.hid (fun (w' : World) (hf : Frm (fun g => O.ownBlock = some g) w w') => (show w'.cell? ⟨(f v.n).b, 5, none⟩ = some (.slice B c0.items.length ic) from (World.cell?_of_block (hf.block _ bk.lt fun h => hOF _ h kF)).trans (bk.cell 5 _ rfl)))
  rw [hI] at e2
  injection e2 with e2 _ e3
  subst e2 e3
  clear CA bk kF hI
  clear e1
  obtain ⟨ik, xn, xs⟩ := i
  simp only at hi hin hb hu OP ⊢
  subst hi
  subst hin
  generalize c0.items.length = m at *
  have hd0 : decide ((k : Int) < 0) = false := decide_eq_false (by omega)
  have hd1 : decide ((m : Int) ≤ (k : Int)) = false := decide_eq_false (by omega)
  have hmx : Tryz.prog.follows .mixedOrders = true := by kernel_rfl
  obtain ⟨j0, hj0, hy0, hy1, hy2⟩ := info_parts infoV
  have OO := Lib.hid hO
  have OL := Lib.hid (fun g (h : O.ownBlock = some g) => (World.ownsRow.lt hO g h).2)
  have NB := Lib.hid hn
  clear hO hOF H hF hu hm hv hk0
  unfold valV
  go_enter Tryz.func82, Tryz.ntmps82
  go_wp2_with fail
  have KV := Lib.hid ((Bk.new w #[.int .i64 v.k, .int .i64 v.n, .string v.s] 64).alloc (.cells #[.int .i64 3, .int .i64 (k : Int), .string xs] 64))
  have KI := Lib.hid (Bk.new2 w (.cells #[.int .i64 v.k, .int .i64 v.n, .string v.s] 64) #[.int .i64 3, .int .i64 (k : Int), .string xs] 64)
  have HB := Lib.hid (((Below.refl _ w).alloc (Nat.le_refl _) (.cells #[.int .i64 v.k, .int .i64 v.n, .string v.s] 64)).alloc (by simp) (.cells #[.int .i64 3, .int .i64 (k : Int), .string xs] 64))
  have SZ : ((w.alloc (.cells #[.int .i64 v.k, .int .i64 v.n, .string v.s] 64)).alloc (.cells #[.int .i64 3, .int .i64 (k : Int), .string xs] 64)).heap.size = w.heap.size + 1 + 1 := by simp
  have O1 := Lib.hid ((OO.out.alloc (.cells #[.int .i64 v.k, .int .i64 v.n, .string v.s] 64)).alloc (.cells #[.int .i64 3, .int .i64 (k : Int), .string xs] 64))
  generalize (w.alloc (.cells #[.int .i64 v.k, .int .i64 v.n, .string v.s] 64)).alloc (.cells #[.int .i64 3, .int .i64 (k : Int), .string xs] 64) = w1 at *
  have S1 := Lib.hid (show (fun v' : World => v'.cell? ⟨w.heap.size, 0, none⟩ = some (.int .i64 v.k) ∧ v'.cell? ⟨w.heap.size, 1, none⟩ = some (.int .i64 v.n) ∧ v'.cell? ⟨w.heap.size, 2, none⟩ = some (.string v.s) ∧ v'.cell? ⟨w.heap.size + 1, 0, none⟩ = some (.int .i64 3) ∧ v'.cell? ⟨w.heap.size + 1, 1, none⟩ = some (.int .i64 (k : Int)) ∧ v'.cell? ⟨w.heap.size + 1, 2, none⟩ = some (.string xs)) w1 from ⟨KV.out.cell 0 _ rfl, KV.out.cell 1 _ rfl, KV.out.cell 2 _ rfl, KI.out.cell 0 _ rfl, KI.out.cell 1 _ rfl, KI.out.cell 2 _ rfl⟩)
  refine region_plainX (fun v' => v'.cell? ⟨w.heap.size, 0, none⟩ = some (.int .i64 v.k) ∧ v'.cell? ⟨w.heap.size, 1, none⟩ = some (.int .i64 v.n) ∧ v'.cell? ⟨w.heap.size, 2, none⟩ = some (.string v.s) ∧ v'.cell? ⟨w.heap.size + 1, 0, none⟩ = some (.int .i64 3) ∧ v'.cell? ⟨w.heap.size + 1, 1, none⟩ = some (.int .i64 (k : Int)) ∧ v'.cell? ⟨w.heap.size + 1, 2, none⟩ = some (.string xs)) [] hmx ?_
  refine anyEx_take (i := 0) (u := ?_) rfl (by kernel_rfl) (by kernel_rfl) (by kernel_rfl) (by kernel_rfl) (by kernel_rfl) (fun _ _ _ h => h) (.inl ⟨by kernel_rfl, fun v' hS => ?_⟩) S1.out ?_
  rotate_left
  · obtain ⟨h0, h1, h2, h3, h4, h5⟩ := hS
    go_simp
    with_reducible rfl
  refine anyEx_take (i := 1) (u := ?_) rfl (by kernel_rfl) (by kernel_rfl) (by kernel_rfl) (by kernel_rfl) (by kernel_rfl) (fun _ _ _ h => h) (.inl ⟨by kernel_rfl, fun v' hS => ?_⟩) S1.out ?_
  rotate_left
  · obtain ⟨h0, h1, h2, h3, h4, h5⟩ := hS
    go_simp
    with_reducible rfl
  refine anyEx_take (i := 2) (u := ?_) rfl (by kernel_rfl) (by kernel_rfl) (by kernel_rfl) (by kernel_rfl) (by kernel_rfl) (fun _ _ _ h => h) (.inl ⟨by kernel_rfl, fun v' hS => ?_⟩) S1.out ?_
  rotate_left
  · obtain ⟨h0, h1, h2, h3, h4, h5⟩ := hS
    go_simp
    with_reducible rfl
  refine anyEx_take (i := 3) (u := ?_) rfl (by kernel_rfl) (by kernel_rfl) (by kernel_rfl) (by kernel_rfl) (by kernel_rfl) (fun _ _ _ h => h) (.inl ⟨by kernel_rfl, fun v' hS => ?_⟩) S1.out ?_
  rotate_left
  · obtain ⟨h0, h1, h2, h3, h4, h5⟩ := hS
    go_simp
    with_reducible rfl
  have BA := Lib.hid ((Below.refl _ w1).alloc (Nat.le_refl _) (.cells #[.int .i64 3, .int .i64 (k : Int), .string xs] 64))
  have S2 := Lib.hid (show (fun v' : World => v'.cell? ⟨w.heap.size, 0, none⟩ = some (.int .i64 v.k) ∧ v'.cell? ⟨w.heap.size, 1, none⟩ = some (.int .i64 v.n) ∧ v'.cell? ⟨w.heap.size, 2, none⟩ = some (.string v.s) ∧ v'.cell? ⟨w.heap.size + 1, 0, none⟩ = some (.int .i64 3) ∧ v'.cell? ⟨w.heap.size + 1, 1, none⟩ = some (.int .i64 (k : Int)) ∧ v'.cell? ⟨w.heap.size + 1, 2, none⟩ = some (.string xs)) (w1.alloc (.cells #[.int .i64 3, .int .i64 (k : Int), .string xs] 64)) from ⟨(BA.out.cell (p := ⟨_, _, none⟩) KV.out.lt).trans S1.out.1, (BA.out.cell (p := ⟨_, _, none⟩) KV.out.lt).trans S1.out.2.1, (BA.out.cell (p := ⟨_, _, none⟩) KV.out.lt).trans S1.out.2.2.1, (BA.out.cell (p := ⟨_, _, none⟩) KI.out.lt).trans S1.out.2.2.2.1, (BA.out.cell (p := ⟨_, _, none⟩) KI.out.lt).trans S1.out.2.2.2.2.1, (BA.out.cell (p := ⟨_, _, none⟩) KI.out.lt).trans S1.out.2.2.2.2.2⟩)
  refine anyEx_one 4 rfl (by kernel_rfl) (by kernel_rfl) ?_
  go_simp
  refine ⟨by first | exact S2.out | exact .inr S2.out | exact S1.out, ?_⟩
  refine anyEx_one 5 rfl (by kernel_rfl) (by kernel_rfl) ?_
  refine wp_append_lies _ _ _ 44 rfl 0 64 j0 _ 3 32 Tryz.underlying44 hj0 hy0 hy1 hy2 rfl (by decide) O n _ rfl (O1.out.alloc _).drew ⟨w.heap.size + 1 + 1, 0, none⟩ 1 1 [.int .i64 3, .int .i64 (k : Int), .string xs] rfl rfl (World.news_of_block (w := (w1.alloc (.cells #[.int .i64 3, .int .i64 (k : Int), .string xs] 64)).drew) (cs := #[.int .i64 3, .int .i64 (k : Int), .string xs]) (t := 64) (fr := (0, 0)) (by rw [← SZ]; exact heap_alloc_new _ _)) (by simp [Value.oneCell']) (by decide) (by unfold maxLen; omega) (by omega) (Nat.zero_le _) (w1.heap.size + 1) (by simp [World.drew]) ?_
  intro g cap w3 o3 g3 h3 h3l
  have KV3 := Lib.hid ((KV.out.alloc (.cells #[.int .i64 3, .int .i64 (k : Int), .string xs] 64)).grown (w := w1.alloc (.cells #[.int .i64 3, .int .i64 (k : Int), .string xs] 64)) ⟨g3.os, g3.tape, g3.output, g3.size, g3.block⟩ (fun e => by have := OL.out _ e.symm; omega))
  have KI3 := Lib.hid ((KI.out.alloc (.cells #[.int .i64 3, .int .i64 (k : Int), .string xs] 64)).grown (w := w1.alloc (.cells #[.int .i64 3, .int .i64 (k : Int), .string xs] 64)) ⟨g3.os, g3.tape, g3.output, g3.size, g3.block⟩ (fun e => by have := OL.out _ e.symm; omega))
  have S3 := Lib.hid (show (fun v' : World => v'.cell? ⟨w.heap.size, 0, none⟩ = some (.int .i64 v.k) ∧ v'.cell? ⟨w.heap.size, 1, none⟩ = some (.int .i64 v.n) ∧ v'.cell? ⟨w.heap.size, 2, none⟩ = some (.string v.s) ∧ v'.cell? ⟨w.heap.size + 1, 0, none⟩ = some (.int .i64 3) ∧ v'.cell? ⟨w.heap.size + 1, 1, none⟩ = some (.int .i64 (k : Int)) ∧ v'.cell? ⟨w.heap.size + 1, 2, none⟩ = some (.string xs)) w3 from ⟨KV3.out.cell 0 _ rfl, KV3.out.cell 1 _ rfl, KV3.out.cell 2 _ rfl, KI3.out.cell 0 _ rfl, KI3.out.cell 1 _ rfl, KI3.out.cell 2 _ rfl⟩)
  have FR := Lib.hid (show Frm (fun g => O.ownBlock = some g) w w3 from ⟨g3.os.trans HB.out.os, g3.tape.trans HB.out.tape, g3.output.trans HB.out.output, Nat.le_trans HB.out.size (Nat.le_trans (by simp [World.drew]) g3.size), fun k hk hn => (g3.block k (by simp [World.drew]; omega) (fun e => hn e.symm)).trans ((Below.heap_alloc _ _ _ (by omega)).trans (HB.out.block k hk))⟩)
  have O3 := Lib.hid (show w3.ownsRow 0 64 3 (.slice (some ⟨g, 0, none⟩) (n + 1) cap) (n + 1) (flatV (o ++ [⟨3, (k : Int), xs⟩])) by rw [show flatV (o ++ [⟨3, (k : Int), xs⟩]) = flatV o ++ [.int .i64 3, .int .i64 (k : Int), .string xs] by simp [flatV]]; exact o3)
  clear o3 g3 h3 h3l S2 BA O1
  refine ⟨.inr S3.out, ?_⟩
  refine anyEx_one 6 rfl (by kernel_rfl) (by kernel_rfl) ?_
  go_simp
  refine (OP.out w3 _ FR.out O3.out).mono ?_
  rintro e w4 ⟨rfl, hb⟩
  have KV4 := Lib.hid (KV3.out.below hb KV3.out.lt)
  have KI4 := Lib.hid (KI3.out.below hb KI3.out.lt)
  have S4 := Lib.hid (show (fun v' : World => v'.cell? ⟨w.heap.size, 0, none⟩ = some (.int .i64 v.k) ∧ v'.cell? ⟨w.heap.size, 1, none⟩ = some (.int .i64 v.n) ∧ v'.cell? ⟨w.heap.size, 2, none⟩ = some (.string v.s) ∧ v'.cell? ⟨w.heap.size + 1, 0, none⟩ = some (.int .i64 3) ∧ v'.cell? ⟨w.heap.size + 1, 1, none⟩ = some (.int .i64 (k : Int)) ∧ v'.cell? ⟨w.heap.size + 1, 2, none⟩ = some (.string xs)) w4 from ⟨KV4.out.cell 0 _ rfl, KV4.out.cell 1 _ rfl, KV4.out.cell 2 _ rfl, KI4.out.cell 0 _ rfl, KI4.out.cell 1 _ rfl, KI4.out.cell 2 _ rfl⟩)
  have FR4 := Lib.hid (show Frm (fun g => O.ownBlock = some g) w w4 from FR.out.trans (Frm.of_below (F := fun g => O.ownBlock = some g) hb) (fun _ _ h => h))
  clear hb KV3 KI3 S3 FR O3 S1 KV KI
  refine ⟨by first | exact S4.out | exact .inr S4.out, ?_⟩
  refine anyEx_take (i := 7) (u := ?_) rfl (by kernel_rfl) (by kernel_rfl) (by kernel_rfl) (by kernel_rfl) (by kernel_rfl) (fun _ _ _ h => h) (.inl ⟨by kernel_rfl, fun v' hS => ?_⟩) S4.out ?_
  rotate_left
  · obtain ⟨h0, h1, h2, h3, h4, h5⟩ := hS
    go_simp
    with_reducible rfl
  refine anyEx_take (i := 8) (u := ?_) rfl (by kernel_rfl) (by kernel_rfl) (by kernel_rfl) (by kernel_rfl) (by kernel_rfl) (fun _ _ _ h => h) (.inl ⟨by kernel_rfl, fun v' hS => ?_⟩) S4.out ?_
  rotate_left
  · obtain ⟨h0, h1, h2, h3, h4, h5⟩ := hS
    go_simp
    with_reducible rfl
  refine anyEx_take (i := 9) (u := ?_) rfl (by kernel_rfl) (by kernel_rfl) (by kernel_rfl) (by kernel_rfl) (by kernel_rfl) (fun _ _ _ h => h) (.inl ⟨by kernel_rfl, fun v' hS => ?_⟩) S4.out ?_
  rotate_left
  · obtain ⟨h0, h1, h2, h3, h4, h5⟩ := hS
    go_simp
    with_reducible rfl
  refine anyEx_take (i := 10) (u := ?_) rfl (by kernel_rfl) (by kernel_rfl) (by kernel_rfl) (by kernel_rfl) (by kernel_rfl) (fun _ _ _ h => h) (.inl ⟨by kernel_rfl, fun v' hS => ?_⟩) S4.out ?_
  rotate_left
  · obtain ⟨h0, h1, h2, h3, h4, h5⟩ := hS
    go_simp
    with_reducible rfl
  refine anyEx_take (i := 11) (u := ?_) rfl (by kernel_rfl) (by kernel_rfl) (by kernel_rfl) (by kernel_rfl) (by kernel_rfl) (fun _ _ _ h => h) (.inl ⟨by kernel_rfl, fun v' hS => ?_⟩) S4.out ?_
  rotate_left
  · obtain ⟨h0, h1, h2, h3, h4, h5⟩ := hS
    go_simp
    with_reducible rfl
  refine ⟨by kernel_rfl, ?_⟩
  have yI := KC.out _ FR4.out
  have x0 := S4.out.2.2.2.1
  have x1 := S4.out.2.2.2.2.1
  have x2 := S4.out.2.2.2.2.2
  clear S4 KV4 KI4 KC
  go_wp2_with fail
  go_region
  go_wp2_with fail
  go_region
  go_wp2_with fail
  go_ret2
  exact ⟨rfl, Lib.hid FR4.out.drew.drew⟩
end Go.Proofs.YtkdpcnikgdbmaaaGreatDoor.Hp
