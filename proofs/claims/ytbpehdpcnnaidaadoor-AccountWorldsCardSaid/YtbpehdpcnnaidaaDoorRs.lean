/-
  The contract of Sums of package account.
-/
import Derived.IntWalk
import Derived.Test.YtbpehdpcnnaidaaDoorRc
import Derived.Test.YtbpehdpcnnaidaaDoorRd
namespace Go.Proofs.YtbpehdpcnnaidaaDoor.Ac
open Go Go.RowKit Go.Shelf

attribute [local go_sem] Oper.semAt_some

theorem cellsOf_in (F : Fence) (m : Nat) (hF : F.fn 26) (hro : F.round = none) (A : Option Addr) (l c : Nat) (n : Int) (w : World) :
    CallsIn F m Tryd.prog 26 #[.slice A l c, .int .i64 n] w fun e w' => e = .returned (.func (.func 30) #[] #[.pointer (some ⟨w.heap.size, 0, none⟩), .pointer (some ⟨w.heap.size + 1, 0, none⟩)]) ∧ w' = (w.alloc (.cells #[.slice A l c] 44)).alloc (.cells #[.int .i64 n] 3) := by
  refine callsIn_of_wp Tryd.func26 rfl hF ?_ hro
  simp only [Tryd.ntmps26, List.size_toArray, List.length_cons, List.length_nil, Nat.reduceAdd, Nat.reduceSub, Array.replicate_succ, Array.replicate_zero, List.push_toArray, List.append_toArray, List.nil_append, List.cons_append]
  gi_wp2
  go_ret
  exact ⟨rfl, rfl⟩
theorem cells_stops (F : Fence) (m : Nat) (hF : F.fn 30) (hro : F.round = none) (hm : 1 ≤ m) (A : Option Addr) (es : List En) (c g N Bl Bt : Nat) (n : Int) (w : World) (hN : N ≤ w.heap.size) (hl : Bk w Bl #[.slice A es.length c] 44) (ht : Bk w Bt #[.int .i64 n] 3) (ht1 : g < Bt) (ht2 : Bt < N) (hE : Se w g A es) (hf : Few es) :
    SeqStopsK F m Tryd.prog 30 #[.pointer (some ⟨Bl, 0, none⟩), .pointer (some ⟨Bt, 0, none⟩)] (fun x : EnO n => #[encC x.1]) (Kx g N) (fun ys => ys.map Subtype.val = es.filter (ownedB n)) (fun _ => True) es.length w := fun l J Jx W hW hJ _ hY h0 => by
  refine (cells1_in F m hF hro hm l A es c g N Bl Bt n J Jx hY W hJ (Nat.le_trans hN hW.size) (hl.below hW hl.lt) (ht.below hW ht.lt) ht1 ht2 (hE.below hW (Nat.le_of_lt (Nat.lt_of_lt_of_le (Nat.lt_trans ht1 ht2) hN))) hf h0).mono ?_
  rintro e W' ⟨he, ⟨ys, hys, hj⟩ | ⟨pre, hj⟩⟩
  · exact ⟨he, .inl ⟨ys, hys, hj⟩⟩
  · exact ⟨he, .inr ⟨pre, trivial, hj⟩⟩
def sumsP (N : Nat) (es : List En) : List Int := (List.range N).map fun t : Nat => sumOf t es
theorem sumsP_len (N : Nat) (es : List En) : (sumsP N es).length = N := by simp [sumsP]
theorem sumsP_get (N : Nat) (es : List En) (j : Nat) (h : j < N) : (sumsP N es)[j]? = some (sumOf j es) := by simp [sumsP, h]
theorem sumsP_next (N : Nat) (es : List En) (e : En) (j : Nat) (hj : e.ten = j) : sumsP N (es ++ [e]) = (sumsP N es).set j (sumOf j es + (16 + 8 * (e.m : Int))) := by
  apply List.ext_getElem?
  intro i
  rw [List.getElem?_set]
  unfold sumsP
  simp only [List.getElem?_map, List.length_map, List.length_range, sumOf_append, sumOf, hj]
  by_cases h : j = i
  · subst h
    by_cases ht : j < N
    · simp [ht]
    · simp [ht]
  · rw [if_neg h]
    by_cases hi : i < N
    · have : ¬ (j : Int) = i := by omega
      simp [hi, this]
    · simp [Nat.le_of_not_lt hi]
theorem sumsP_nil (N : Nat) : sumsP N [] = List.replicate N 0 := by
  apply List.ext_getElem
  · simp [sumsP]
  · intro i h1 h2; simp [sumsP, sumOf]
theorem sumOf_filter (t N : Nat) (ht : t < N) (es : List En) : sumOf t (es.filter (ownedB N)) = sumOf t es := by
  induction es with
  | nil => rfl
  | cons e es ih =>
    by_cases h : ownedB N e = true
    · rw [List.filter_cons_of_pos h]; simp only [sumOf, ih]
    · rw [List.filter_cons_of_neg h, ih]
      have : ¬ e.ten = t := by
        intro h'
        apply h
        unfold ownedB; rw [decide_eq_true_eq]; omega
      simp only [sumOf, if_neg this]; omega
theorem sumsP_all (N : Nat) (h1 : 1 ≤ N) (h4 : N ≤ 4) (es : List En) : sumsP N (es.filter (ownedB N)) = sumsL es N := by
  unfold sumsP sumsL
  rw [if_pos (by omega), Int.toNat_natCast]
  apply List.map_congr_left
  intro i hi
  exact sumOf_filter i N (List.mem_range.1 hi) es
theorem Bk.kept {w w' : World} {b : Nat} {c : Array Value} {T : TypeId} {row : Option Nat} (h : Bk w b c T) (hg : w.grownBy w' row) (hne : some b ≠ row) : Bk w' b c T := (hg.block b h.lt hne).trans h
theorem bk_own {β : Type} (b : Nat) (T : TypeId) (f : β → Array Value) : Own (fun s W => Bk W b (f s) T) := fun s X Y row hs hg hrow =>
  hs.kept hg (fun e' => by obtain ⟨o, ho, hc⟩ := hrow b e'.symm; rw [show X.heap[b]? = _ from hs] at ho; cases ho; cases hc)
theorem Bk.alloc {w : World} {b : Nat} {c : Array Value} {T : TypeId} (h : Bk w b c T) (o : Obj) : Bk (w.alloc o) b c T := h.kept (World.grownBy_alloc w o none) (by simp)
theorem Bk.ownI {w : World} {g N : Nat} {zs : List Int} (h : Bk w g (zs.map (Value.int .i64)).toArray 3) (hl : zs.length = N) (hN : N ≤ 4) : OwnI w g (.slice (some ⟨g, 0, none⟩) N N) zs := by
  subst hl
  refine ⟨by simp, .inr ⟨g, zs.length, _, rfl, Nat.le_refl _, h, Nat.le_refl _, by unfold maxLen; omega, by simp, by rw [Nat.mul_one]; exact List.take_of_length_le (by simp)⟩⟩
set_option maxRecDepth 100000 in
set_option maxHeartbeats 2000000 in
theorem sums_some (A : Option Addr) (es : List En) (c B : Nat) (N : Nat) (w : World) (h : Se w B A es) (hB : B ≤ w.heap.size) (hf : Few es) (h1 : 1 ≤ N) (h4 : N ≤ 4) :
    Calls Tryd.prog 12 #[.slice A es.length c, .int .i64 N] w (SumsTo es N w) := by
  have hmk := make_any N h1 h4
  have H := Lib.hid h
  have hb1 : decide ((N : Int) < 1) = false := decide_eq_false (by omega)
  have hb2 : decide ((4 : Int) < N) = false := decide_eq_false (by omega)
  clear h
  refine (callsIn_wide (n := 8)).1 ?_
  refine callsIn_of_wp_marks Tryd.func12 rfl trivial ?_ rfl
  simp only [Tryd.ntmps12, List.size_toArray, List.length_cons, List.length_nil, Nat.reduceAdd, Nat.reduceSub, Array.replicate_succ, Array.replicate_zero, List.push_toArray, List.append_toArray, List.nil_append, List.cons_append]
  gi_wp2_with (refine ⟨trivial, ?_⟩; gi_at_call 26; refine (cellsOf_in Fence.wide _ trivial rfl _ _ _ _ _).mono ?_; rintro e w' ⟨rfl, rfl⟩)
  have hB0 : Below w.heap.size w ((((w.alloc (.cells (Array.replicate N (.int .i64 0)) 3)).alloc (.cells #[.slice (some ⟨w.heap.size, 0, none⟩) N N] 22)).alloc (.cells #[.slice A es.length c] 44)).alloc (.cells #[.int .i64 N] 3)) :=
    ((((Below.refl _ w).alloc (Nat.le_refl _) _).alloc (by simp) _).alloc (by simp; omega) _).alloc (by simp; omega) _
  have b0 := (((Bk.new w (Array.replicate N (.int .i64 0)) 3).alloc (.cells #[.slice (some ⟨w.heap.size, 0, none⟩) N N] 22)).alloc (.cells #[.slice A es.length c] 44)).alloc (.cells #[.int .i64 N] 3)
  have b1 := ((Bk.new (w.alloc (.cells (Array.replicate N (.int .i64 0)) 3)) #[.slice (some ⟨w.heap.size, 0, none⟩) N N] 22).alloc (.cells #[.slice A es.length c] 44)).alloc (.cells #[.int .i64 N] 3)
  have b2 := (Bk.new ((w.alloc (.cells (Array.replicate N (.int .i64 0)) 3)).alloc (.cells #[.slice (some ⟨w.heap.size, 0, none⟩) N N] 22)) #[.slice A es.length c] 44).alloc (.cells #[.int .i64 N] 3)
  have b3 := Bk.new (((w.alloc (.cells (Array.replicate N (.int .i64 0)) 3)).alloc (.cells #[.slice (some ⟨w.heap.size, 0, none⟩) N N] 22)).alloc (.cells #[.slice A es.length c] 44)) #[.int .i64 N] 3
  simp only [World.size_alloc] at b1 b2 b3
  have hsz : ((((w.alloc (.cells (Array.replicate N (.int .i64 0)) 3)).alloc (.cells #[.slice (some ⟨w.heap.size, 0, none⟩) N N] 22)).alloc (.cells #[.slice A es.length c] 44)).alloc (.cells #[.int .i64 N] 3)).heap.size = w.heap.size + 4 := by simp
  obtain ⟨W0, hW0⟩ : ∃ W0, (((w.alloc (.cells (Array.replicate N (.int .i64 0)) 3)).alloc (.cells #[.slice (some ⟨w.heap.size, 0, none⟩) N N] 22)).alloc (.cells #[.slice A es.length c] 44)).alloc (.cells #[.int .i64 N] 3) = W0 := ⟨_, rfl⟩
  rw [hW0] at hB0 b0 b1 b2 b3 hsz ⊢
  clear hW0 hmk
  refine wpIn_rangeFunc_ownH rfl (by omega) (gf := 30) (lb := #[.pointer (some ⟨w.heap.size + 1 + 1, 0, none⟩), .pointer (some ⟨w.heap.size + 1 + 1 + 1, 0, none⟩)]) rfl trivial (enters_of Tryd.func30 (by kernel_rfl) rfl)
    (cells_stops Fence.wide _ trivial rfl (by omega) A es c w.heap.size (w.heap.size + 4) (w.heap.size + 1 + 1) (w.heap.size + 1 + 1 + 1) N W0 (by omega) b2 b3 (by omega) (by omega) ((H.out.below hB0 hB).up hB) hf)
    Kx.trans (Kx.b (by omega) (by omega)) (Below.refl _ _) (fun _ => rfl)
    (fun pre W => (Bk W w.heap.size ((sumsP N (pre.map Subtype.val)).map (Value.int .i64)).toArray 3 ∧ Bk W (w.heap.size + 1) #[.slice (some ⟨w.heap.size, 0, none⟩) N N] 22) ∧ Below w.heap.size W0 W)
    (fun _ _ _ => False)
    (OwnFrom.and (OwnFrom.and (Own.from (bk_own _ _ _) _) (Own.from (bk_own _ _ _) _)) (ownFrom_below (by omega) (by omega)))
    (fun _ _ _ _ _ hs _ _ => hs)
    ⟨⟨by rw [List.map_nil, sumsP_nil]; simpa using b0, b1⟩, Below.refl _ _⟩
    (fun x a' W => ∃ Bx, w.heap.size + 4 ≤ Bx ∧ Bk W Bx #[.int .i64 x.1.kind, .int .i64 x.1.cls, .int .i64 x.1.fn, .int .i64 x.1.ten, .slice x.1.nA x.1.nn x.1.nc, .slice x.1.iA x.1.m x.1.ic] 41 ∧ a' = { tmps := #[.slice A es.length c, .int .i64 N, undef, undef, .slice none 0 0, .pointer (some ⟨w.heap.size + 1, 0, none⟩), .pointer (some ⟨Bx, 0, none⟩), .int .i64 N, .bool false, .bool false, .int .i64 N, .bool false, .bool false, .int .i64 N, .slice (some ⟨w.heap.size, 0, none⟩) N N, .slice A es.length c, .int .i64 N, .func (.func 30) #[] #[.pointer (some ⟨w.heap.size + 1 + 1, 0, none⟩), .pointer (some ⟨w.heap.size + 1 + 1 + 1, 0, none⟩)], encC x.1, undef, undef, undef, undef, undef, undef, undef, undef, undef, undef, undef, undef, undef], defers := [] })
    (fun x a' _ X Y row hs hg hr => by obtain ⟨Bx, h1, h2, h3⟩ := hs; exact ⟨Bx, h1, bk_own Bx _ (fun (_ : Unit) => _) () X Y row h2 hg (fun r e => (hr r e).2), h3⟩)
    ?assign ?body ?done ?stop
  case assign =>
    rintro l pre x W K ⟨⟨i0, i1⟩, hB1⟩ hK
    have hs := hB1.size
    unfold encC
    gi_wp2
    exact hK _ _ ((KeepsOthers.alloc _ _).from _) ((Kx.refl _ _ _).alloc (by omega) (by omega) _) ⟨⟨i0.alloc _, i1.alloc _⟩, hB1.alloc (by omega) _⟩ ⟨W.heap.size, by omega, Bk.new _ _ _, rfl⟩
  case body =>
    rintro l pre x a' W hl ⟨r, hr⟩ ⟨⟨i0, i1⟩, hB1⟩ ⟨Bx, hBx, bX, rfl⟩ hlt
    obtain ⟨⟨id, kind, cls, fn, ten, nA, nn, nc, iA, mm, ic⟩, ho, hm⟩ := x
    have ho' := of_decide_eq_true ho
    simp only at ho' hm bX hlt ⊢
    obtain ⟨j, rfl⟩ := Int.eq_ofNat_of_zero_le ho'.1
    have hj : j < N := by omega
    have hf1 := hf.1
    have hbd := sumOf_bd j (pre.map Subtype.val) (fun e he => by obtain ⟨q, _, rfl⟩ := List.mem_map.1 he; exact q.2.2)
    rw [List.length_map] at hbd
    have hg := sumsP_get N (pre.map Subtype.val) j hj
    have hnx := Lib.hid (sumsP_next N (pre.map Subtype.val) ⟨id, kind, cls, fn, j, nA, nn, nc, iA, mm, ic⟩ j rfl)
    have c0 : W.cell? ⟨w.heap.size, j, none⟩ = some (.int .i64 (sumOf j (pre.map Subtype.val))) := i0.cell j _ (by rw [List.getElem?_toArray, List.getElem?_map, hg]; rfl)
    have f0 := i0.frozen j
    have c1 : W.cell? ⟨w.heap.size + 1, 0, none⟩ = some (.slice (some ⟨w.heap.size, 0, none⟩) N N) := i1.cell 0 _ rfl
    have x3 : W.cell? ⟨Bx, 3, none⟩ = some (.int .i64 j) := bX.cell 3 _ rfl
    have x5 : W.cell? ⟨Bx, 5, none⟩ = some (.slice iA mm ic) := bX.cell 5 _ rfl
    have HS := Lib.hid (i0.set j (.int .i64 (sumOf j (pre.map Subtype.val) + (16 + 8 * (mm : Int)))))
    generalize sumOf j (pre.map Subtype.val) = s at *
    have hmx : Tryd.prog.follows .mixedOrders = true := by kernel_rfl
    have hw1 : IntKind.i64.wrap (8 * (mm : Int)) = 8 * (mm : Int) := IntWalk.i64_in _ (by omega)
    have hw2 : IntKind.i64.wrap (16 + 8 * (mm : Int)) = 16 + 8 * (mm : Int) := IntWalk.i64_in _ (by omega)
    have hw3 : IntKind.i64.wrap (s + (16 + 8 * (mm : Int))) = s + (16 + 8 * (mm : Int)) := IntWalk.i64_in _ (by omega)
    have I1 := Lib.hid i1
    have HB1 := Lib.hid hB1
    have HH := Lib.hid hB0
    have HSZ := Lib.hid hsz
    clear i0 i1 hB0 hB1 bX ho' hr hg b0 b1 b2 b3 hb1 hb2 hsz
    gi_wp2
    have S := Lib.hid (And.intro c1 (And.intro x3 x5))
    have C0 := Lib.hid c0
    have F0 := Lib.hid f0
    clear c1 x3 x5 c0 f0
    refine region_round (fun v => v.cell? ⟨w.heap.size + 1, 0, none⟩ = some (.slice (some ⟨w.heap.size, 0, none⟩) N N) ∧ v.cell? ⟨Bx, 3, none⟩ = some (.int .i64 j) ∧ v.cell? ⟨Bx, 5, none⟩ = some (.slice iA mm ic)) hmx ?hd ?hQ ?_
    case hd =>
      intro i o hi c hc
      have := List.mem_of_getElem? (by simpa using hi)
      simp only [List.mem_cons, List.not_mem_nil, or_false] at this
      rcases this with rfl | rfl | rfl | rfl | rfl | rfl | rfl | rfl | rfl | rfl | rfl | rfl | rfl <;> cases hc
    case hQ => rintro ⟨_, _, h⟩; exact h
    refine wpAnyH_take (i := 0) (v := ?_) rfl (by kernel_rfl) (by kernel_rfl) (by kernel_rfl) (fun _ _ _ h => h) (.inl ⟨by kernel_rfl, fun v hS => ?_⟩) S.out ?_
    rotate_left
    · obtain ⟨c1, x3, x5⟩ := hS
      go_simp
      with_reducible rfl
    refine wpAnyH_take (i := 1) (v := ?_) rfl (by kernel_rfl) (by kernel_rfl) (by kernel_rfl) (fun _ _ _ h => h) (.inl ⟨by kernel_rfl, fun v hS => ?_⟩) S.out ?_
    rotate_left
    · obtain ⟨c1, x3, x5⟩ := hS
      go_simp
      with_reducible rfl
    refine wpAnyH_take (i := 2) (v := ?_) rfl (by kernel_rfl) (by kernel_rfl) (by kernel_rfl) (fun _ _ _ h => h) (.inl ⟨by kernel_rfl, fun v hS => ?_⟩) S.out ?_
    rotate_left
    · obtain ⟨c1, x3, x5⟩ := hS
      go_simp
      with_reducible rfl
    refine wpAnyH_take (i := 3) (v := ?_) rfl (by kernel_rfl) (by kernel_rfl) (by kernel_rfl) (fun _ _ _ h => h) (.inl ⟨by kernel_rfl, fun v hS => ?_⟩) S.out ?_
    rotate_left
    · obtain ⟨c1, x3, x5⟩ := hS
      go_simp
      with_reducible rfl
    refine wpAnyH_take (i := 5) (v := ?_) rfl (by kernel_rfl) (by kernel_rfl) (by kernel_rfl) (fun _ _ _ h => h) (.inl ⟨by kernel_rfl, fun v hS => ?_⟩) S.out ?_
    rotate_left
    · obtain ⟨c1, x3, x5⟩ := hS
      go_simp
      with_reducible rfl
    refine wpAnyH_take (i := 6) (v := ?_) rfl (by kernel_rfl) (by kernel_rfl) (by kernel_rfl) (fun _ _ _ h => h) (.inl ⟨by kernel_rfl, fun v hS => ?_⟩) S.out ?_
    rotate_left
    · obtain ⟨c1, x3, x5⟩ := hS
      go_simp
      with_reducible rfl
    refine wpAnyH_take (i := 7) (v := ?_) rfl (by kernel_rfl) (by kernel_rfl) (by kernel_rfl) (fun _ _ _ h => h) (.inl ⟨by kernel_rfl, fun v hS => ?_⟩) S.out ?_
    rotate_left
    · obtain ⟨c1, x3, x5⟩ := hS
      go_simp
      with_reducible rfl
    refine wpAnyH_take (i := 8) (v := ?_) rfl (by kernel_rfl) (by kernel_rfl) (by kernel_rfl) (fun _ _ _ h => h) (.inl ⟨by kernel_rfl, fun v hS => ?_⟩) S.out ?_
    rotate_left
    · obtain ⟨c1, x3, x5⟩ := hS
      go_simp
      with_reducible rfl
    refine wpAnyH_take (i := 9) (v := ?_) rfl (by kernel_rfl) (by kernel_rfl) (by kernel_rfl) (fun _ _ _ h => h) (.inl ⟨by kernel_rfl, fun v hS => ?_⟩) S.out ?_
    rotate_left
    · obtain ⟨c1, x3, x5⟩ := hS
      go_simp
      with_reducible rfl
    refine one_ready 4 rfl (by kernel_rfl) (by kernel_rfl) ?_
    have c0 := C0.out
    go_simp
    refine ⟨S.out, ?_⟩
    clear c0
    refine wpAnyH_take (i := 10) (v := ?_) rfl (by kernel_rfl) (by kernel_rfl) (by kernel_rfl) (fun _ _ _ h => h) (.inl ⟨by kernel_rfl, fun v hS => ?_⟩) S.out ?_
    rotate_left
    · obtain ⟨c1, x3, x5⟩ := hS
      go_simp
      with_reducible rfl
    refine wpAnyH_take (i := 11) (v := ?_) rfl (by kernel_rfl) (by kernel_rfl) (by kernel_rfl) (fun _ _ _ h => h) (.inl ⟨by kernel_rfl, fun v hS => ?_⟩) S.out ?_
    rotate_left
    · obtain ⟨c1, x3, x5⟩ := hS
      go_simp
      with_reducible rfl
    refine one_ready 12 rfl (by kernel_rfl) (by kernel_rfl) ?_
    have f0 := F0.out
    have c0 := C0.out
    go_simp
    clear c0 f0
    refine ⟨S.out, rfl, ?_⟩
    have hb := (HB1.out.setCell (p := ⟨w.heap.size, j, none⟩) (Nat.le_refl _) (.int .i64 (s + (16 + 8 * (mm : Int)))))
    have hk := ((KeepsOthers.setCell W ⟨w.heap.size, j, none⟩ (.int .i64 (s + (16 + 8 * (mm : Int))))).trans (KeepsOthers.drew _)).from W0.heap.size
    have hx : Kx w.heap.size (w.heap.size + 4) W (W.setCell ⟨w.heap.size, j, none⟩ (.int .i64 (s + (16 + 8 * (mm : Int))))) :=
      ⟨(Below.refl _ W).setCell (p := ⟨w.heap.size, j, none⟩) (Nat.le_refl _) _, fun i h1 _ => Below.heap_setCell _ _ _ _ (by simp; omega)⟩
    refine ⟨hk, ⟨⟨hx.1.os, hx.1.tape, hx.1.output, hx.1.size, hx.1.block⟩, hx.2⟩, ⟨?_, I1.out.far (p := ⟨w.heap.size, j, none⟩) (by simp) _⟩, ⟨hb.os, hb.tape, hb.output, hb.size, hb.block⟩⟩
    rw [List.map_append]
    have e := HS.out
    have e2 := hnx.out
    show Bk _ _ ((sumsP N (_ ++ [_])).map (Value.int .i64)).toArray _
    rw [e2, List.map_set]
    have e3 : (((sumsP N (List.map Subtype.val pre)).map (Value.int .i64)).set j (.int .i64 (s + (16 + 8 * (mm : Int))))).toArray = ((sumsP N (List.map Subtype.val pre)).map (Value.int .i64)).toArray.setIfInBounds j (.int .i64 (s + (16 + 8 * (mm : Int)))) := by simp
    rw [e3]
    exact e
  case done =>
    rintro D ys W hD hys ⟨⟨i0, i1⟩, hB1⟩ hK
    have c1 := i1.cell 0 _ rfl
    gi_wp2
    refine ⟨by simp, .inl ⟨_, _, rfl, run_takeDeferred hK, ?_⟩⟩
    refine ⟨_, results_tmp rfl _ _ _, _, rfl, ?_, (hB0.trans hB1).trans (belowK_b (w := W0) (by omega) W D _ _ hD hK rfl rfl)⟩
    have hk := i0.kept (grownBy_putObj' W D (.deferred none)) (by simp; omega)
    rw [hys] at hk
    rw [← sumsP_all N h1 h4 es]
    exact hk.ownI (sumsP_len _ _) h4
  case stop =>
    rintro D c pre W _ _ h _
    exact h.elim
theorem sums_any (A : Option Addr) (es : List En) (c B : Nat) (n : Int) (w : World) (h : Se w B A es) (hB : B ≤ w.heap.size) (hf : Few es) (hn : I64 n) :
    Calls Tryd.prog 12 #[.slice A es.length c, .int .i64 n] w (SumsTo es n w) := by
  obtain ⟨hn1, hn2⟩ := hn
  by_cases h1 : n < 1
  · have G := Lib.hid (show SumsTo es n w (.returned (.slice none 0 0)) w from ⟨_, rfl, by unfold sumsL; rw [if_neg (by omega)]; exact World.ownsRow_nil _ _ _ _, Below.refl _ _⟩)
    go_enter Tryd.func12, Tryd.ntmps12
    go_wp2
    go_ret
    exact G.out
  · by_cases h4 : 4 < n
    · have G := Lib.hid (show SumsTo es n w (.returned (.slice none 0 0)) w from ⟨_, rfl, by unfold sumsL; rw [if_neg (by omega)]; exact World.ownsRow_nil _ _ _ _, Below.refl _ _⟩)
      go_enter Tryd.func12, Tryd.ntmps12
      go_wp2
      go_ret
      exact G.out
    · obtain ⟨N, rfl⟩ := Int.eq_ofNat_of_zero_le (show 0 ≤ n by omega)
      exact sums_some A es c B N w h hB hf (by omega) (by omega)
end Go.Proofs.YtbpehdpcnnaidaaDoor.Ac
