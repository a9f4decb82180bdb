/-
  Contract of Right.
-/
import Derived.Test.YtkdpcnikgdbmaaaGreatDoorHd
import Derived.Test.YtkdpcnikgdbmaaaGreatDoorHf
namespace Go.Proofs.YtkdpcnikgdbmaaaGreatDoor.Hp
open Go Go.RowKit Go.Maps Va

theorem right_eq_1 (cls fn ten : Int) (names : List ByteArray) (items : List Val) : Cel.right ⟨1, cls, fn, ten, names, items⟩ = (decide (0 ≤ ten) && decide (ten < 4) && decide (0 ≤ cls) && decide (fn = 0) && storB items && eachB names items.length) := by
  unfold Cel.right
  simp [Bool.and_assoc]
set_option maxHeartbeats 4000000 in
theorem right_1 (P : Nat → Prop) (cls fn ten : Int) (names : List ByteArray) (items : List Val) (A B : Option Addr) (nc ic : Nat) (w : World) (hS : SlS w P A names) (hV : ValsAt w P B items) (hP : ∀ b, P b → b < w.heap.size) (hn : names.length ≤ 4398046511104) (hm : items.length ≤ 4398046511104)
    (hs : ∀ s ∈ names, s.size ≤ maxLen) (hf : ∀ v ∈ items, v.Fits) (hB : Bnds w) :
    Calls Tryz.prog 56 #[celV ⟨1, cls, fn, ten, names, items⟩ (.slice A names.length nc) (.slice B items.length ic)] w fun e w' => e = .returned (.bool (Cel.right ⟨1, cls, fn, ten, names, items⟩)) ∧ Below w.heap.size w w' := by
  unfold celV
  simp only
  have HS := Lib.hid hS
  have HV := Lib.hid hV
  have HP := Lib.hid hP
  have HSS := Lib.hid hs
  have HF := Lib.hid hf
  have BN := Lib.hid hB
  clear hS hV hP hs hf hB
  by_cases t0 : 0 ≤ ten
  rotate_left
  · have e0 : decide (0 ≤ ten) = false := by simpa using t0
    go_enter Tryz.func56, Tryz.ntmps56
    go_wp2_with fail
    refine (form_1 _).mono ?_
    rintro e w2 ⟨rfl, hb⟩
    have K1 := Lib.hid ((Bk.new w _ _).below hb (by simp))
    have HB := Lib.hid ((((Below.refl _ w).alloc (Nat.le_refl _) _).trans (hb.mono (by simp))))
    clear hb
    have k1 := K1.out.cell 1 (.int .i64 cls) rfl
    have k2 := K1.out.cell 2 (.int .i64 fn) rfl
    have k3 := K1.out.cell 3 (.int .i64 ten) rfl
    have k5 := K1.out.cell 5 (.slice B items.length ic) rfl
    have SZ := HB.out.size
    have SL := K1.out.lt
    have E := Lib.hid (show Cel.right ⟨1, cls, fn, ten, names, items⟩ = false by rw [right_eq_1, e0]; simp)
    go_wp2_with fail
    go_ret
    exact ⟨by rw [E.out]; rfl, HB.out.alloc SZ _⟩
  have e0 : decide (0 ≤ ten) = true := by simpa using t0
  by_cases t1 : ten < 4
  rotate_left
  · have e1 : decide (ten < 4) = false := by simpa using t1
    go_enter Tryz.func56, Tryz.ntmps56
    go_wp2_with fail
    refine (form_1 _).mono ?_
    rintro e w2 ⟨rfl, hb⟩
    have K1 := Lib.hid ((Bk.new w _ _).below hb (by simp))
    have HB := Lib.hid ((((Below.refl _ w).alloc (Nat.le_refl _) _).trans (hb.mono (by simp))))
    clear hb
    have k1 := K1.out.cell 1 (.int .i64 cls) rfl
    have k2 := K1.out.cell 2 (.int .i64 fn) rfl
    have k3 := K1.out.cell 3 (.int .i64 ten) rfl
    have k5 := K1.out.cell 5 (.slice B items.length ic) rfl
    have SZ := HB.out.size
    have SL := K1.out.lt
    have E := Lib.hid (show Cel.right ⟨1, cls, fn, ten, names, items⟩ = false by rw [right_eq_1, e1]; simp)
    go_wp2_with fail
    go_ret
    exact ⟨by rw [E.out]; rfl, HB.out.alloc SZ _⟩
  have e1 : decide (ten < 4) = true := by simpa using t1
  by_cases c0 : 0 ≤ cls
  rotate_left
  · have d0 : decide (0 ≤ cls) = false := by simpa using c0
    go_enter Tryz.func56, Tryz.ntmps56
    go_wp2_with fail
    refine (form_1 _).mono ?_
    rintro e w2 ⟨rfl, hb⟩
    have K1 := Lib.hid ((Bk.new w _ _).below hb (by simp))
    have HB := Lib.hid ((((Below.refl _ w).alloc (Nat.le_refl _) _).trans (hb.mono (by simp))))
    clear hb
    have k1 := K1.out.cell 1 (.int .i64 cls) rfl
    have k2 := K1.out.cell 2 (.int .i64 fn) rfl
    have k3 := K1.out.cell 3 (.int .i64 ten) rfl
    have k5 := K1.out.cell 5 (.slice B items.length ic) rfl
    have SZ := HB.out.size
    have SL := K1.out.lt
    go_wp2_with fail
    refine (natural_any cls _).mono ?_
    rintro e w3 ⟨he, rfl⟩
    obtain rfl : e = .returned (.bool false) := he.trans (by first | (rw [d0]) | simp)
    have E := Lib.hid (show Cel.right ⟨1, cls, fn, ten, names, items⟩ = false by rw [right_eq_1, d0]; simp)
    go_wp2_with fail
    go_ret
    exact ⟨by rw [E.out]; rfl, HB.out.alloc SZ _⟩
  have d0 : decide (0 ≤ cls) = true := by simp <;> omega
  by_cases f0 : fn = 0
  rotate_left
  · have d1 : decide (fn = 0) = false := by simpa using f0
    go_enter Tryz.func56, Tryz.ntmps56
    go_wp2_with fail
    refine (form_1 _).mono ?_
    rintro e w2 ⟨rfl, hb⟩
    have K1 := Lib.hid ((Bk.new w _ _).below hb (by simp))
    have HB := Lib.hid ((((Below.refl _ w).alloc (Nat.le_refl _) _).trans (hb.mono (by simp))))
    clear hb
    have k1 := K1.out.cell 1 (.int .i64 cls) rfl
    have k2 := K1.out.cell 2 (.int .i64 fn) rfl
    have k3 := K1.out.cell 3 (.int .i64 ten) rfl
    have k5 := K1.out.cell 5 (.slice B items.length ic) rfl
    have SZ := HB.out.size
    have SL := K1.out.lt
    go_wp2_with fail
    refine (natural_any cls _).mono ?_
    rintro e w3 ⟨he, rfl⟩
    obtain rfl : e = .returned (.bool true) := he.trans (by first | (rw [d0]) | simp)
    go_wp2_with fail
    refine (zero_any fn _).mono ?_
    rintro e w3 ⟨he, rfl⟩
    obtain rfl : e = .returned (.bool false) := he.trans (by first | (rw [d1]) | simp)
    have E := Lib.hid (show Cel.right ⟨1, cls, fn, ten, names, items⟩ = false by rw [right_eq_1, d1]; simp)
    go_wp2_with fail
    go_ret
    exact ⟨by rw [E.out]; rfl, HB.out.alloc SZ _⟩
  subst f0
  have d1 : decide ((0 : Int) = 0) = true := by simp <;> omega
  by_cases i0 : storB items = true
  rotate_left
  · have i0 : storB items = false := by simpa using i0
    go_enter Tryz.func56, Tryz.ntmps56
    go_wp2_with fail
    refine (form_1 _).mono ?_
    rintro e w2 ⟨rfl, hb⟩
    have K1 := Lib.hid ((Bk.new w _ _).below hb (by simp))
    have HB := Lib.hid ((((Below.refl _ w).alloc (Nat.le_refl _) _).trans (hb.mono (by simp))))
    clear hb
    have k1 := K1.out.cell 1 (.int .i64 cls) rfl
    have k2 := K1.out.cell 2 (.int .i64 0) rfl
    have k3 := K1.out.cell 3 (.int .i64 ten) rfl
    have k5 := K1.out.cell 5 (.slice B items.length ic) rfl
    have SZ := HB.out.size
    have SL := K1.out.lt
    go_wp2_with fail
    refine (natural_any cls _).mono ?_
    rintro e w3 ⟨he, rfl⟩
    obtain rfl : e = .returned (.bool true) := he.trans (by first | (rw [d0]) | simp)
    go_wp2_with fail
    refine (zero_any 0 _).mono ?_
    rintro e w3 ⟨he, rfl⟩
    obtain rfl : e = .returned (.bool true) := he.trans (by first | (rw [d1]) | simp)
    go_wp2_with fail
    refine (storable_any P B items ic _ (HV.out.low HP.out (HB.out.alloc SZ _)) (fun b hb => by have := HP.out b hb; simp; omega) hm HF.out (fun i hi => by rw [(HB.out.alloc SZ _).cell (by exact BN.out.size)]; exact BN.out i hi)).mono ?_
    rintro e w4 ⟨he, hb⟩
    rw [i0] at he
    subst he
    have K2 := Lib.hid ((Bk.new w2 _ _).below hb (by simp))
    have K1' := Lib.hid ((K1.out.alloc _).below hb (by have := K1.out.lt; simp; omega))
    have HB' := Lib.hid ((HB.out.alloc SZ _).trans (hb.mono (by simp; omega)))
    clear hb K1 k1 k2 k3 k5
    have SZ' := HB'.out.size
    have k4 := K1'.out.cell 4 (.slice A names.length nc) rfl
    have k5 := K1'.out.cell 5 (.slice B items.length ic) rfl
    have g0 := K2.out.cell 2 (.func (.func 104) #[] #[]) rfl
    have E := Lib.hid (show Cel.right ⟨1, cls, 0, ten, names, items⟩ = false by rw [right_eq_1, i0]; simp)
    go_wp2_with fail
    go_ret
    exact ⟨by rw [E.out]; rfl, HB'.out⟩
  go_enter Tryz.func56, Tryz.ntmps56
  go_wp2_with fail
  refine (form_1 _).mono ?_
  rintro e w2 ⟨rfl, hb⟩
  have K1 := Lib.hid ((Bk.new w _ _).below hb (by simp))
  have HB := Lib.hid ((((Below.refl _ w).alloc (Nat.le_refl _) _).trans (hb.mono (by simp))))
  clear hb
  have k1 := K1.out.cell 1 (.int .i64 cls) rfl
  have k2 := K1.out.cell 2 (.int .i64 0) rfl
  have k3 := K1.out.cell 3 (.int .i64 ten) rfl
  have k5 := K1.out.cell 5 (.slice B items.length ic) rfl
  have SZ := HB.out.size
  have SL := K1.out.lt
  go_wp2_with fail
  refine (natural_any cls _).mono ?_
  rintro e w3 ⟨he, rfl⟩
  obtain rfl : e = .returned (.bool true) := he.trans (by first | (rw [d0]) | simp)
  go_wp2_with fail
  refine (zero_any 0 _).mono ?_
  rintro e w3 ⟨he, rfl⟩
  obtain rfl : e = .returned (.bool true) := he.trans (by first | (rw [d1]) | simp)
  go_wp2_with fail
  refine (storable_any P B items ic _ (HV.out.low HP.out (HB.out.alloc SZ _)) (fun b hb => by have := HP.out b hb; simp; omega) hm HF.out (fun i hi => by rw [(HB.out.alloc SZ _).cell (by exact BN.out.size)]; exact BN.out i hi)).mono ?_
  rintro e w4 ⟨he, hb⟩
  rw [i0] at he
  subst he
  have K2 := Lib.hid ((Bk.new w2 _ _).below hb (by simp))
  have K1' := Lib.hid ((K1.out.alloc _).below hb (by have := K1.out.lt; simp; omega))
  have HB' := Lib.hid ((HB.out.alloc SZ _).trans (hb.mono (by simp; omega)))
  clear hb K1 k1 k2 k3 k5
  have SZ' := HB'.out.size
  have k4 := K1'.out.cell 4 (.slice A names.length nc) rfl
  have k5 := K1'.out.cell 5 (.slice B items.length ic) rfl
  have g0 := K2.out.cell 2 (.func (.func 104) #[] #[]) rfl
  go_wp2_with fail
  refine (each_any P A names nc items.length _ (HS.out.low HP.out HB'.out) (fun b hb => by have := HP.out b hb; omega) hn hm HSS.out).mono ?_
  rintro e w5 ⟨rfl, hb⟩
  have HB2 := Lib.hid (HB'.out.trans (hb.mono SZ'))
  have E := Lib.hid (show Cel.right ⟨1, cls, 0, ten, names, items⟩ = eachB names items.length by rw [right_eq_1, e0, e1, i0]; first | (rw [d0, d1]; simp) | (rw [d0]; simp) | (rw [d1]; simp) | simp)
  clear hb
  go_wp2_with fail
  go_ret
  exact ⟨by rw [E.out]; rfl, HB2.out⟩
theorem right_eq_2 (cls fn ten : Int) (names : List ByteArray) (items : List Val) : Cel.right ⟨2, cls, fn, ten, names, items⟩ = (decide (0 ≤ ten) && decide (ten < 4) && decide (cls = 0) && decide (fn = 0) && storB items && names.isEmpty) := by
  unfold Cel.right
  simp [Bool.and_assoc]
set_option maxHeartbeats 4000000 in
theorem right_2 (P : Nat → Prop) (cls fn ten : Int) (names : List ByteArray) (items : List Val) (A B : Option Addr) (nc ic : Nat) (w : World) (hS : SlS w P A names) (hV : ValsAt w P B items) (hP : ∀ b, P b → b < w.heap.size) (hn : names.length ≤ 4398046511104) (hm : items.length ≤ 4398046511104)
    (hs : ∀ s ∈ names, s.size ≤ maxLen) (hf : ∀ v ∈ items, v.Fits) (hB : Bnds w) :
    Calls Tryz.prog 56 #[celV ⟨2, cls, fn, ten, names, items⟩ (.slice A names.length nc) (.slice B items.length ic)] w fun e w' => e = .returned (.bool (Cel.right ⟨2, cls, fn, ten, names, items⟩)) ∧ Below w.heap.size w w' := by
  unfold celV
  simp only
  have HS := Lib.hid hS
  have HV := Lib.hid hV
  have HP := Lib.hid hP
  have HSS := Lib.hid hs
  have HF := Lib.hid hf
  have BN := Lib.hid hB
  clear hS hV hP hs hf hB
  by_cases t0 : 0 ≤ ten
  rotate_left
  · have e0 : decide (0 ≤ ten) = false := by simpa using t0
    go_enter Tryz.func56, Tryz.ntmps56
    go_wp2_with fail
    refine (form_2 _).mono ?_
    rintro e w2 ⟨rfl, hb⟩
    have K1 := Lib.hid ((Bk.new w _ _).below hb (by simp))
    have HB := Lib.hid ((((Below.refl _ w).alloc (Nat.le_refl _) _).trans (hb.mono (by simp))))
    clear hb
    have k1 := K1.out.cell 1 (.int .i64 cls) rfl
    have k2 := K1.out.cell 2 (.int .i64 fn) rfl
    have k3 := K1.out.cell 3 (.int .i64 ten) rfl
    have k5 := K1.out.cell 5 (.slice B items.length ic) rfl
    have SZ := HB.out.size
    have SL := K1.out.lt
    have E := Lib.hid (show Cel.right ⟨2, cls, fn, ten, names, items⟩ = false by rw [right_eq_2, e0]; simp)
    go_wp2_with fail
    go_ret
    exact ⟨by rw [E.out]; rfl, HB.out.alloc SZ _⟩
  have e0 : decide (0 ≤ ten) = true := by simpa using t0
  by_cases t1 : ten < 4
  rotate_left
  · have e1 : decide (ten < 4) = false := by simpa using t1
    go_enter Tryz.func56, Tryz.ntmps56
    go_wp2_with fail
    refine (form_2 _).mono ?_
    rintro e w2 ⟨rfl, hb⟩
    have K1 := Lib.hid ((Bk.new w _ _).below hb (by simp))
    have HB := Lib.hid ((((Below.refl _ w).alloc (Nat.le_refl _) _).trans (hb.mono (by simp))))
    clear hb
    have k1 := K1.out.cell 1 (.int .i64 cls) rfl
    have k2 := K1.out.cell 2 (.int .i64 fn) rfl
    have k3 := K1.out.cell 3 (.int .i64 ten) rfl
    have k5 := K1.out.cell 5 (.slice B items.length ic) rfl
    have SZ := HB.out.size
    have SL := K1.out.lt
    have E := Lib.hid (show Cel.right ⟨2, cls, fn, ten, names, items⟩ = false by rw [right_eq_2, e1]; simp)
    go_wp2_with fail
    go_ret
    exact ⟨by rw [E.out]; rfl, HB.out.alloc SZ _⟩
  have e1 : decide (ten < 4) = true := by simpa using t1
  by_cases c0 : cls = 0
  rotate_left
  · have d0 : decide (cls = 0) = false := by simpa using c0
    go_enter Tryz.func56, Tryz.ntmps56
    go_wp2_with fail
    refine (form_2 _).mono ?_
    rintro e w2 ⟨rfl, hb⟩
    have K1 := Lib.hid ((Bk.new w _ _).below hb (by simp))
    have HB := Lib.hid ((((Below.refl _ w).alloc (Nat.le_refl _) _).trans (hb.mono (by simp))))
    clear hb
    have k1 := K1.out.cell 1 (.int .i64 cls) rfl
    have k2 := K1.out.cell 2 (.int .i64 fn) rfl
    have k3 := K1.out.cell 3 (.int .i64 ten) rfl
    have k5 := K1.out.cell 5 (.slice B items.length ic) rfl
    have SZ := HB.out.size
    have SL := K1.out.lt
    go_wp2_with fail
    refine (zero_any cls _).mono ?_
    rintro e w3 ⟨he, rfl⟩
    obtain rfl : e = .returned (.bool false) := he.trans (by first | (rw [d0]) | simp)
    have E := Lib.hid (show Cel.right ⟨2, cls, fn, ten, names, items⟩ = false by rw [right_eq_2, d0]; simp)
    go_wp2_with fail
    go_ret
    exact ⟨by rw [E.out]; rfl, HB.out.alloc SZ _⟩
  subst c0
  have d0 : decide ((0 : Int) = 0) = true := by simp <;> omega
  by_cases f0 : fn = 0
  rotate_left
  · have d1 : decide (fn = 0) = false := by simpa using f0
    go_enter Tryz.func56, Tryz.ntmps56
    go_wp2_with fail
    refine (form_2 _).mono ?_
    rintro e w2 ⟨rfl, hb⟩
    have K1 := Lib.hid ((Bk.new w _ _).below hb (by simp))
    have HB := Lib.hid ((((Below.refl _ w).alloc (Nat.le_refl _) _).trans (hb.mono (by simp))))
    clear hb
    have k1 := K1.out.cell 1 (.int .i64 0) rfl
    have k2 := K1.out.cell 2 (.int .i64 fn) rfl
    have k3 := K1.out.cell 3 (.int .i64 ten) rfl
    have k5 := K1.out.cell 5 (.slice B items.length ic) rfl
    have SZ := HB.out.size
    have SL := K1.out.lt
    go_wp2_with fail
    refine (zero_any 0 _).mono ?_
    rintro e w3 ⟨he, rfl⟩
    obtain rfl : e = .returned (.bool true) := he.trans (by first | (rw [d0]) | simp)
    go_wp2_with fail
    refine (zero_any fn _).mono ?_
    rintro e w3 ⟨he, rfl⟩
    obtain rfl : e = .returned (.bool false) := he.trans (by first | (rw [d1]) | simp)
    have E := Lib.hid (show Cel.right ⟨2, 0, fn, ten, names, items⟩ = false by rw [right_eq_2, d1]; simp)
    go_wp2_with fail
    go_ret
    exact ⟨by rw [E.out]; rfl, HB.out.alloc SZ _⟩
  subst f0
  have d1 : decide ((0 : Int) = 0) = true := by simp <;> omega
  by_cases i0 : storB items = true
  rotate_left
  · have i0 : storB items = false := by simpa using i0
    go_enter Tryz.func56, Tryz.ntmps56
    go_wp2_with fail
    refine (form_2 _).mono ?_
    rintro e w2 ⟨rfl, hb⟩
    have K1 := Lib.hid ((Bk.new w _ _).below hb (by simp))
    have HB := Lib.hid ((((Below.refl _ w).alloc (Nat.le_refl _) _).trans (hb.mono (by simp))))
    clear hb
    have k1 := K1.out.cell 1 (.int .i64 0) rfl
    have k2 := K1.out.cell 2 (.int .i64 0) rfl
    have k3 := K1.out.cell 3 (.int .i64 ten) rfl
    have k5 := K1.out.cell 5 (.slice B items.length ic) rfl
    have SZ := HB.out.size
    have SL := K1.out.lt
    go_wp2_with fail
    refine (zero_any 0 _).mono ?_
    rintro e w3 ⟨he, rfl⟩
    obtain rfl : e = .returned (.bool true) := he.trans (by first | (rw [d0]) | simp)
    go_wp2_with fail
    refine (zero_any 0 _).mono ?_
    rintro e w3 ⟨he, rfl⟩
    obtain rfl : e = .returned (.bool true) := he.trans (by first | (rw [d1]) | simp)
    go_wp2_with fail
    refine (storable_any P B items ic _ (HV.out.low HP.out (HB.out.alloc SZ _)) (fun b hb => by have := HP.out b hb; simp; omega) hm HF.out (fun i hi => by rw [(HB.out.alloc SZ _).cell (by exact BN.out.size)]; exact BN.out i hi)).mono ?_
    rintro e w4 ⟨he, hb⟩
    rw [i0] at he
    subst he
    have K2 := Lib.hid ((Bk.new w2 _ _).below hb (by simp))
    have K1' := Lib.hid ((K1.out.alloc _).below hb (by have := K1.out.lt; simp; omega))
    have HB' := Lib.hid ((HB.out.alloc SZ _).trans (hb.mono (by simp; omega)))
    clear hb K1 k1 k2 k3 k5
    have SZ' := HB'.out.size
    have k4 := K1'.out.cell 4 (.slice A names.length nc) rfl
    have k5 := K1'.out.cell 5 (.slice B items.length ic) rfl
    have g0 := K2.out.cell 2 (.func (.func 106) #[] #[]) rfl
    have E := Lib.hid (show Cel.right ⟨2, 0, 0, ten, names, items⟩ = false by rw [right_eq_2, i0]; simp)
    go_wp2_with fail
    go_ret
    exact ⟨by rw [E.out]; rfl, HB'.out⟩
  go_enter Tryz.func56, Tryz.ntmps56
  go_wp2_with fail
  refine (form_2 _).mono ?_
  rintro e w2 ⟨rfl, hb⟩
  have K1 := Lib.hid ((Bk.new w _ _).below hb (by simp))
  have HB := Lib.hid ((((Below.refl _ w).alloc (Nat.le_refl _) _).trans (hb.mono (by simp))))
  clear hb
  have k1 := K1.out.cell 1 (.int .i64 0) rfl
  have k2 := K1.out.cell 2 (.int .i64 0) rfl
  have k3 := K1.out.cell 3 (.int .i64 ten) rfl
  have k5 := K1.out.cell 5 (.slice B items.length ic) rfl
  have SZ := HB.out.size
  have SL := K1.out.lt
  go_wp2_with fail
  refine (zero_any 0 _).mono ?_
  rintro e w3 ⟨he, rfl⟩
  obtain rfl : e = .returned (.bool true) := he.trans (by first | (rw [d0]) | simp)
  go_wp2_with fail
  refine (zero_any 0 _).mono ?_
  rintro e w3 ⟨he, rfl⟩
  obtain rfl : e = .returned (.bool true) := he.trans (by first | (rw [d1]) | simp)
  go_wp2_with fail
  refine (storable_any P B items ic _ (HV.out.low HP.out (HB.out.alloc SZ _)) (fun b hb => by have := HP.out b hb; simp; omega) hm HF.out (fun i hi => by rw [(HB.out.alloc SZ _).cell (by exact BN.out.size)]; exact BN.out i hi)).mono ?_
  rintro e w4 ⟨he, hb⟩
  rw [i0] at he
  subst he
  have K2 := Lib.hid ((Bk.new w2 _ _).below hb (by simp))
  have K1' := Lib.hid ((K1.out.alloc _).below hb (by have := K1.out.lt; simp; omega))
  have HB' := Lib.hid ((HB.out.alloc SZ _).trans (hb.mono (by simp; omega)))
  clear hb K1 k1 k2 k3 k5
  have SZ' := HB'.out.size
  have k4 := K1'.out.cell 4 (.slice A names.length nc) rfl
  have k5 := K1'.out.cell 5 (.slice B items.length ic) rfl
  have g0 := K2.out.cell 2 (.func (.func 106) #[] #[]) rfl
  go_wp2_with fail
  refine (none_any A names.length nc items.length _).mono ?_
  rintro e w5 ⟨he, rfl⟩
  obtain ⟨b, hbq⟩ : ∃ b, b = decide (names.length = 0) := ⟨_, rfl⟩
  rw [← hbq] at he
  subst he
  have HQ := Lib.hid hbq
  clear hbq
  have E := Lib.hid (show Cel.right ⟨2, 0, 0, ten, names, items⟩ = b by rw [HQ.out]; (rw [right_eq_2, e0, e1, i0]; first | (rw [d0, d1]; simp) | (rw [d0]; simp) | (rw [d1]; simp) | simp); cases names <;> rfl)
  go_wp2_with fail
  go_ret
  exact ⟨by rw [E.out]; rfl, HB'.out⟩
theorem right_eq_3 (cls fn ten : Int) (names : List ByteArray) (items : List Val) : Cel.right ⟨3, cls, fn, ten, names, items⟩ = (decide (0 ≤ ten) && decide (ten < 4) && decide (cls = 0) && decide (0 ≤ fn) && storB items && names.isEmpty) := by
  unfold Cel.right
  simp [Bool.and_assoc]
set_option maxHeartbeats 4000000 in
theorem right_3 (P : Nat → Prop) (cls fn ten : Int) (names : List ByteArray) (items : List Val) (A B : Option Addr) (nc ic : Nat) (w : World) (hS : SlS w P A names) (hV : ValsAt w P B items) (hP : ∀ b, P b → b < w.heap.size) (hn : names.length ≤ 4398046511104) (hm : items.length ≤ 4398046511104)
    (hs : ∀ s ∈ names, s.size ≤ maxLen) (hf : ∀ v ∈ items, v.Fits) (hB : Bnds w) :
    Calls Tryz.prog 56 #[celV ⟨3, cls, fn, ten, names, items⟩ (.slice A names.length nc) (.slice B items.length ic)] w fun e w' => e = .returned (.bool (Cel.right ⟨3, cls, fn, ten, names, items⟩)) ∧ Below w.heap.size w w' := by
  unfold celV
  simp only
  have HS := Lib.hid hS
  have HV := Lib.hid hV
  have HP := Lib.hid hP
  have HSS := Lib.hid hs
  have HF := Lib.hid hf
  have BN := Lib.hid hB
  clear hS hV hP hs hf hB
  by_cases t0 : 0 ≤ ten
  rotate_left
  · have e0 : decide (0 ≤ ten) = false := by simpa using t0
    go_enter Tryz.func56, Tryz.ntmps56
    go_wp2_with fail
    refine (form_3 _).mono ?_
    rintro e w2 ⟨rfl, hb⟩
    have K1 := Lib.hid ((Bk.new w _ _).below hb (by simp))
    have HB := Lib.hid ((((Below.refl _ w).alloc (Nat.le_refl _) _).trans (hb.mono (by simp))))
    clear hb
    have k1 := K1.out.cell 1 (.int .i64 cls) rfl
    have k2 := K1.out.cell 2 (.int .i64 fn) rfl
    have k3 := K1.out.cell 3 (.int .i64 ten) rfl
    have k5 := K1.out.cell 5 (.slice B items.length ic) rfl
    have SZ := HB.out.size
    have SL := K1.out.lt
    have E := Lib.hid (show Cel.right ⟨3, cls, fn, ten, names, items⟩ = false by rw [right_eq_3, e0]; simp)
    go_wp2_with fail
    go_ret
    exact ⟨by rw [E.out]; rfl, HB.out.alloc SZ _⟩
  have e0 : decide (0 ≤ ten) = true := by simpa using t0
  by_cases t1 : ten < 4
  rotate_left
  · have e1 : decide (ten < 4) = false := by simpa using t1
    go_enter Tryz.func56, Tryz.ntmps56
    go_wp2_with fail
    refine (form_3 _).mono ?_
    rintro e w2 ⟨rfl, hb⟩
    have K1 := Lib.hid ((Bk.new w _ _).below hb (by simp))
    have HB := Lib.hid ((((Below.refl _ w).alloc (Nat.le_refl _) _).trans (hb.mono (by simp))))
    clear hb
    have k1 := K1.out.cell 1 (.int .i64 cls) rfl
    have k2 := K1.out.cell 2 (.int .i64 fn) rfl
    have k3 := K1.out.cell 3 (.int .i64 ten) rfl
    have k5 := K1.out.cell 5 (.slice B items.length ic) rfl
    have SZ := HB.out.size
    have SL := K1.out.lt
    have E := Lib.hid (show Cel.right ⟨3, cls, fn, ten, names, items⟩ = false by rw [right_eq_3, e1]; simp)
    go_wp2_with fail
    go_ret
    exact ⟨by rw [E.out]; rfl, HB.out.alloc SZ _⟩
  have e1 : decide (ten < 4) = true := by simpa using t1
  by_cases c0 : cls = 0
  rotate_left
  · have d0 : decide (cls = 0) = false := by simpa using c0
    go_enter Tryz.func56, Tryz.ntmps56
    go_wp2_with fail
    refine (form_3 _).mono ?_
    rintro e w2 ⟨rfl, hb⟩
    have K1 := Lib.hid ((Bk.new w _ _).below hb (by simp))
    have HB := Lib.hid ((((Below.refl _ w).alloc (Nat.le_refl _) _).trans (hb.mono (by simp))))
    clear hb
    have k1 := K1.out.cell 1 (.int .i64 cls) rfl
    have k2 := K1.out.cell 2 (.int .i64 fn) rfl
    have k3 := K1.out.cell 3 (.int .i64 ten) rfl
    have k5 := K1.out.cell 5 (.slice B items.length ic) rfl
    have SZ := HB.out.size
    have SL := K1.out.lt
    go_wp2_with fail
    refine (zero_any cls _).mono ?_
    rintro e w3 ⟨he, rfl⟩
    obtain rfl : e = .returned (.bool false) := he.trans (by first | (rw [d0]) | simp)
    have E := Lib.hid (show Cel.right ⟨3, cls, fn, ten, names, items⟩ = false by rw [right_eq_3, d0]; simp)
    go_wp2_with fail
    go_ret
    exact ⟨by rw [E.out]; rfl, HB.out.alloc SZ _⟩
  subst c0
  have d0 : decide ((0 : Int) = 0) = true := by simp <;> omega
  by_cases f0 : 0 ≤ fn
  rotate_left
  · have d1 : decide (0 ≤ fn) = false := by simpa using f0
    go_enter Tryz.func56, Tryz.ntmps56
    go_wp2_with fail
    refine (form_3 _).mono ?_
    rintro e w2 ⟨rfl, hb⟩
    have K1 := Lib.hid ((Bk.new w _ _).below hb (by simp))
    have HB := Lib.hid ((((Below.refl _ w).alloc (Nat.le_refl _) _).trans (hb.mono (by simp))))
    clear hb
    have k1 := K1.out.cell 1 (.int .i64 0) rfl
    have k2 := K1.out.cell 2 (.int .i64 fn) rfl
    have k3 := K1.out.cell 3 (.int .i64 ten) rfl
    have k5 := K1.out.cell 5 (.slice B items.length ic) rfl
    have SZ := HB.out.size
    have SL := K1.out.lt
    go_wp2_with fail
    refine (zero_any 0 _).mono ?_
    rintro e w3 ⟨he, rfl⟩
    obtain rfl : e = .returned (.bool true) := he.trans (by first | (rw [d0]) | simp)
    go_wp2_with fail
    refine (natural_any fn _).mono ?_
    rintro e w3 ⟨he, rfl⟩
    obtain rfl : e = .returned (.bool false) := he.trans (by first | (rw [d1]) | simp)
    have E := Lib.hid (show Cel.right ⟨3, 0, fn, ten, names, items⟩ = false by rw [right_eq_3, d1]; simp)
    go_wp2_with fail
    go_ret
    exact ⟨by rw [E.out]; rfl, HB.out.alloc SZ _⟩
  have d1 : decide (0 ≤ fn) = true := by simp <;> omega
  by_cases i0 : storB items = true
  rotate_left
  · have i0 : storB items = false := by simpa using i0
    go_enter Tryz.func56, Tryz.ntmps56
    go_wp2_with fail
    refine (form_3 _).mono ?_
    rintro e w2 ⟨rfl, hb⟩
    have K1 := Lib.hid ((Bk.new w _ _).below hb (by simp))
    have HB := Lib.hid ((((Below.refl _ w).alloc (Nat.le_refl _) _).trans (hb.mono (by simp))))
    clear hb
    have k1 := K1.out.cell 1 (.int .i64 0) rfl
    have k2 := K1.out.cell 2 (.int .i64 fn) rfl
    have k3 := K1.out.cell 3 (.int .i64 ten) rfl
    have k5 := K1.out.cell 5 (.slice B items.length ic) rfl
    have SZ := HB.out.size
    have SL := K1.out.lt
    go_wp2_with fail
    refine (zero_any 0 _).mono ?_
    rintro e w3 ⟨he, rfl⟩
    obtain rfl : e = .returned (.bool true) := he.trans (by first | (rw [d0]) | simp)
    go_wp2_with fail
    refine (natural_any fn _).mono ?_
    rintro e w3 ⟨he, rfl⟩
    obtain rfl : e = .returned (.bool true) := he.trans (by first | (rw [d1]) | simp)
    go_wp2_with fail
    refine (storable_any P B items ic _ (HV.out.low HP.out (HB.out.alloc SZ _)) (fun b hb => by have := HP.out b hb; simp; omega) hm HF.out (fun i hi => by rw [(HB.out.alloc SZ _).cell (by exact BN.out.size)]; exact BN.out i hi)).mono ?_
    rintro e w4 ⟨he, hb⟩
    rw [i0] at he
    subst he
    have K2 := Lib.hid ((Bk.new w2 _ _).below hb (by simp))
    have K1' := Lib.hid ((K1.out.alloc _).below hb (by have := K1.out.lt; simp; omega))
    have HB' := Lib.hid ((HB.out.alloc SZ _).trans (hb.mono (by simp; omega)))
    clear hb K1 k1 k2 k3 k5
    have SZ' := HB'.out.size
    have k4 := K1'.out.cell 4 (.slice A names.length nc) rfl
    have k5 := K1'.out.cell 5 (.slice B items.length ic) rfl
    have g0 := K2.out.cell 2 (.func (.func 106) #[] #[]) rfl
    have E := Lib.hid (show Cel.right ⟨3, 0, fn, ten, names, items⟩ = false by rw [right_eq_3, i0]; simp)
    go_wp2_with fail
    go_ret
    exact ⟨by rw [E.out]; rfl, HB'.out⟩
  go_enter Tryz.func56, Tryz.ntmps56
  go_wp2_with fail
  refine (form_3 _).mono ?_
  rintro e w2 ⟨rfl, hb⟩
  have K1 := Lib.hid ((Bk.new w _ _).below hb (by simp))
  have HB := Lib.hid ((((Below.refl _ w).alloc (Nat.le_refl _) _).trans (hb.mono (by simp))))
  clear hb
  have k1 := K1.out.cell 1 (.int .i64 0) rfl
  have k2 := K1.out.cell 2 (.int .i64 fn) rfl
  have k3 := K1.out.cell 3 (.int .i64 ten) rfl
  have k5 := K1.out.cell 5 (.slice B items.length ic) rfl
  have SZ := HB.out.size
  have SL := K1.out.lt
  go_wp2_with fail
  refine (zero_any 0 _).mono ?_
  rintro e w3 ⟨he, rfl⟩
  obtain rfl : e = .returned (.bool true) := he.trans (by first | (rw [d0]) | simp)
  go_wp2_with fail
  refine (natural_any fn _).mono ?_
  rintro e w3 ⟨he, rfl⟩
  obtain rfl : e = .returned (.bool true) := he.trans (by first | (rw [d1]) | simp)
  go_wp2_with fail
  refine (storable_any P B items ic _ (HV.out.low HP.out (HB.out.alloc SZ _)) (fun b hb => by have := HP.out b hb; simp; omega) hm HF.out (fun i hi => by rw [(HB.out.alloc SZ _).cell (by exact BN.out.size)]; exact BN.out i hi)).mono ?_
  rintro e w4 ⟨he, hb⟩
  rw [i0] at he
  subst he
  have K2 := Lib.hid ((Bk.new w2 _ _).below hb (by simp))
  have K1' := Lib.hid ((K1.out.alloc _).below hb (by have := K1.out.lt; simp; omega))
  have HB' := Lib.hid ((HB.out.alloc SZ _).trans (hb.mono (by simp; omega)))
  clear hb K1 k1 k2 k3 k5
  have SZ' := HB'.out.size
  have k4 := K1'.out.cell 4 (.slice A names.length nc) rfl
  have k5 := K1'.out.cell 5 (.slice B items.length ic) rfl
  have g0 := K2.out.cell 2 (.func (.func 106) #[] #[]) rfl
  go_wp2_with fail
  refine (none_any A names.length nc items.length _).mono ?_
  rintro e w5 ⟨he, rfl⟩
  obtain ⟨b, hbq⟩ : ∃ b, b = decide (names.length = 0) := ⟨_, rfl⟩
  rw [← hbq] at he
  subst he
  have HQ := Lib.hid hbq
  clear hbq
  have E := Lib.hid (show Cel.right ⟨3, 0, fn, ten, names, items⟩ = b by rw [HQ.out]; (rw [right_eq_3, e0, e1, i0]; first | (rw [d0, d1]; simp) | (rw [d0]; simp) | (rw [d1]; simp) | simp); cases names <;> rfl)
  go_wp2_with fail
  go_ret
  exact ⟨by rw [E.out]; rfl, HB'.out⟩
theorem right_eq_4 (cls fn ten : Int) (names : List ByteArray) (items : List Val) : Cel.right ⟨4, cls, fn, ten, names, items⟩ = (decide (0 ≤ ten) && decide (ten < 4) && decide (cls = 0) && decide (fn = 0) && targB items && names.isEmpty) := by
  unfold Cel.right
  simp [Bool.and_assoc]
set_option maxHeartbeats 4000000 in
theorem right_4 (P : Nat → Prop) (cls fn ten : Int) (names : List ByteArray) (items : List Val) (A B : Option Addr) (nc ic : Nat) (w : World) (hS : SlS w P A names) (hV : ValsAt w P B items) (hP : ∀ b, P b → b < w.heap.size) (hn : names.length ≤ 4398046511104) (hm : items.length ≤ 4398046511104)
    (hs : ∀ s ∈ names, s.size ≤ maxLen) (hf : ∀ v ∈ items, v.Fits) (hB : Bnds w) :
    Calls Tryz.prog 56 #[celV ⟨4, cls, fn, ten, names, items⟩ (.slice A names.length nc) (.slice B items.length ic)] w fun e w' => e = .returned (.bool (Cel.right ⟨4, cls, fn, ten, names, items⟩)) ∧ Below w.heap.size w w' := by
  unfold celV
  simp only
  have HS := Lib.hid hS
  have HV := Lib.hid hV
  have HP := Lib.hid hP
  have HSS := Lib.hid hs
  have HF := Lib.hid hf
  have BN := Lib.hid hB
  clear hS hV hP hs hf hB
  by_cases t0 : 0 ≤ ten
  rotate_left
  · have e0 : decide (0 ≤ ten) = false := by simpa using t0
    go_enter Tryz.func56, Tryz.ntmps56
    go_wp2_with fail
    refine (form_4 _).mono ?_
    rintro e w2 ⟨rfl, hb⟩
    have K1 := Lib.hid ((Bk.new w _ _).below hb (by simp))
    have HB := Lib.hid ((((Below.refl _ w).alloc (Nat.le_refl _) _).trans (hb.mono (by simp))))
    clear hb
    have k1 := K1.out.cell 1 (.int .i64 cls) rfl
    have k2 := K1.out.cell 2 (.int .i64 fn) rfl
    have k3 := K1.out.cell 3 (.int .i64 ten) rfl
    have k5 := K1.out.cell 5 (.slice B items.length ic) rfl
    have SZ := HB.out.size
    have SL := K1.out.lt
    have E := Lib.hid (show Cel.right ⟨4, cls, fn, ten, names, items⟩ = false by rw [right_eq_4, e0]; simp)
    go_wp2_with fail
    go_ret
    exact ⟨by rw [E.out]; rfl, HB.out.alloc SZ _⟩
  have e0 : decide (0 ≤ ten) = true := by simpa using t0
  by_cases t1 : ten < 4
  rotate_left
  · have e1 : decide (ten < 4) = false := by simpa using t1
    go_enter Tryz.func56, Tryz.ntmps56
    go_wp2_with fail
    refine (form_4 _).mono ?_
    rintro e w2 ⟨rfl, hb⟩
    have K1 := Lib.hid ((Bk.new w _ _).below hb (by simp))
    have HB := Lib.hid ((((Below.refl _ w).alloc (Nat.le_refl _) _).trans (hb.mono (by simp))))
    clear hb
    have k1 := K1.out.cell 1 (.int .i64 cls) rfl
    have k2 := K1.out.cell 2 (.int .i64 fn) rfl
    have k3 := K1.out.cell 3 (.int .i64 ten) rfl
    have k5 := K1.out.cell 5 (.slice B items.length ic) rfl
    have SZ := HB.out.size
    have SL := K1.out.lt
    have E := Lib.hid (show Cel.right ⟨4, cls, fn, ten, names, items⟩ = false by rw [right_eq_4, e1]; simp)
    go_wp2_with fail
    go_ret
    exact ⟨by rw [E.out]; rfl, HB.out.alloc SZ _⟩
  have e1 : decide (ten < 4) = true := by simpa using t1
  by_cases c0 : cls = 0
  rotate_left
  · have d0 : decide (cls = 0) = false := by simpa using c0
    go_enter Tryz.func56, Tryz.ntmps56
    go_wp2_with fail
    refine (form_4 _).mono ?_
    rintro e w2 ⟨rfl, hb⟩
    have K1 := Lib.hid ((Bk.new w _ _).below hb (by simp))
    have HB := Lib.hid ((((Below.refl _ w).alloc (Nat.le_refl _) _).trans (hb.mono (by simp))))
    clear hb
    have k1 := K1.out.cell 1 (.int .i64 cls) rfl
    have k2 := K1.out.cell 2 (.int .i64 fn) rfl
    have k3 := K1.out.cell 3 (.int .i64 ten) rfl
    have k5 := K1.out.cell 5 (.slice B items.length ic) rfl
    have SZ := HB.out.size
    have SL := K1.out.lt
    go_wp2_with fail
    refine (zero_any cls _).mono ?_
    rintro e w3 ⟨he, rfl⟩
    obtain rfl : e = .returned (.bool false) := he.trans (by first | (rw [d0]) | simp)
    have E := Lib.hid (show Cel.right ⟨4, cls, fn, ten, names, items⟩ = false by rw [right_eq_4, d0]; simp)
    go_wp2_with fail
    go_ret
    exact ⟨by rw [E.out]; rfl, HB.out.alloc SZ _⟩
  subst c0
  have d0 : decide ((0 : Int) = 0) = true := by simp <;> omega
  by_cases f0 : fn = 0
  rotate_left
  · have d1 : decide (fn = 0) = false := by simpa using f0
    go_enter Tryz.func56, Tryz.ntmps56
    go_wp2_with fail
    refine (form_4 _).mono ?_
    rintro e w2 ⟨rfl, hb⟩
    have K1 := Lib.hid ((Bk.new w _ _).below hb (by simp))
    have HB := Lib.hid ((((Below.refl _ w).alloc (Nat.le_refl _) _).trans (hb.mono (by simp))))
    clear hb
    have k1 := K1.out.cell 1 (.int .i64 0) rfl
    have k2 := K1.out.cell 2 (.int .i64 fn) rfl
    have k3 := K1.out.cell 3 (.int .i64 ten) rfl
    have k5 := K1.out.cell 5 (.slice B items.length ic) rfl
    have SZ := HB.out.size
    have SL := K1.out.lt
    go_wp2_with fail
    refine (zero_any 0 _).mono ?_
    rintro e w3 ⟨he, rfl⟩
    obtain rfl : e = .returned (.bool true) := he.trans (by first | (rw [d0]) | simp)
    go_wp2_with fail
    refine (zero_any fn _).mono ?_
    rintro e w3 ⟨he, rfl⟩
    obtain rfl : e = .returned (.bool false) := he.trans (by first | (rw [d1]) | simp)
    have E := Lib.hid (show Cel.right ⟨4, 0, fn, ten, names, items⟩ = false by rw [right_eq_4, d1]; simp)
    go_wp2_with fail
    go_ret
    exact ⟨by rw [E.out]; rfl, HB.out.alloc SZ _⟩
  subst f0
  have d1 : decide ((0 : Int) = 0) = true := by simp <;> omega
  by_cases i0 : targB items = true
  rotate_left
  · have i0 : targB items = false := by simpa using i0
    go_enter Tryz.func56, Tryz.ntmps56
    go_wp2_with fail
    refine (form_4 _).mono ?_
    rintro e w2 ⟨rfl, hb⟩
    have K1 := Lib.hid ((Bk.new w _ _).below hb (by simp))
    have HB := Lib.hid ((((Below.refl _ w).alloc (Nat.le_refl _) _).trans (hb.mono (by simp))))
    clear hb
    have k1 := K1.out.cell 1 (.int .i64 0) rfl
    have k2 := K1.out.cell 2 (.int .i64 0) rfl
    have k3 := K1.out.cell 3 (.int .i64 ten) rfl
    have k5 := K1.out.cell 5 (.slice B items.length ic) rfl
    have SZ := HB.out.size
    have SL := K1.out.lt
    go_wp2_with fail
    refine (zero_any 0 _).mono ?_
    rintro e w3 ⟨he, rfl⟩
    obtain rfl : e = .returned (.bool true) := he.trans (by first | (rw [d0]) | simp)
    go_wp2_with fail
    refine (zero_any 0 _).mono ?_
    rintro e w3 ⟨he, rfl⟩
    obtain rfl : e = .returned (.bool true) := he.trans (by first | (rw [d1]) | simp)
    go_wp2_with fail
    refine (target_any P B items ic _ (HV.out.low HP.out (HB.out.alloc SZ _)) (fun b hb => by have := HP.out b hb; simp; omega) hm HF.out (fun i hi => by rw [(HB.out.alloc SZ _).cell (by exact BN.out.size)]; exact BN.out i hi)).mono ?_
    rintro e w4 ⟨he, hb⟩
    rw [i0] at he
    subst he
    have K2 := Lib.hid ((Bk.new w2 _ _).below hb (by simp))
    have K1' := Lib.hid ((K1.out.alloc _).below hb (by have := K1.out.lt; simp; omega))
    have HB' := Lib.hid ((HB.out.alloc SZ _).trans (hb.mono (by simp; omega)))
    clear hb K1 k1 k2 k3 k5
    have SZ' := HB'.out.size
    have k4 := K1'.out.cell 4 (.slice A names.length nc) rfl
    have k5 := K1'.out.cell 5 (.slice B items.length ic) rfl
    have g0 := K2.out.cell 2 (.func (.func 106) #[] #[]) rfl
    have E := Lib.hid (show Cel.right ⟨4, 0, 0, ten, names, items⟩ = false by rw [right_eq_4, i0]; simp)
    go_wp2_with fail
    go_ret
    exact ⟨by rw [E.out]; rfl, HB'.out⟩
  go_enter Tryz.func56, Tryz.ntmps56
  go_wp2_with fail
  refine (form_4 _).mono ?_
  rintro e w2 ⟨rfl, hb⟩
  have K1 := Lib.hid ((Bk.new w _ _).below hb (by simp))
  have HB := Lib.hid ((((Below.refl _ w).alloc (Nat.le_refl _) _).trans (hb.mono (by simp))))
  clear hb
  have k1 := K1.out.cell 1 (.int .i64 0) rfl
  have k2 := K1.out.cell 2 (.int .i64 0) rfl
  have k3 := K1.out.cell 3 (.int .i64 ten) rfl
  have k5 := K1.out.cell 5 (.slice B items.length ic) rfl
  have SZ := HB.out.size
  have SL := K1.out.lt
  go_wp2_with fail
  refine (zero_any 0 _).mono ?_
  rintro e w3 ⟨he, rfl⟩
  obtain rfl : e = .returned (.bool true) := he.trans (by first | (rw [d0]) | simp)
  go_wp2_with fail
  refine (zero_any 0 _).mono ?_
  rintro e w3 ⟨he, rfl⟩
  obtain rfl : e = .returned (.bool true) := he.trans (by first | (rw [d1]) | simp)
  go_wp2_with fail
  refine (target_any P B items ic _ (HV.out.low HP.out (HB.out.alloc SZ _)) (fun b hb => by have := HP.out b hb; simp; omega) hm HF.out (fun i hi => by rw [(HB.out.alloc SZ _).cell (by exact BN.out.size)]; exact BN.out i hi)).mono ?_
  rintro e w4 ⟨he, hb⟩
  rw [i0] at he
  subst he
  have K2 := Lib.hid ((Bk.new w2 _ _).below hb (by simp))
  have K1' := Lib.hid ((K1.out.alloc _).below hb (by have := K1.out.lt; simp; omega))
  have HB' := Lib.hid ((HB.out.alloc SZ _).trans (hb.mono (by simp; omega)))
  clear hb K1 k1 k2 k3 k5
  have SZ' := HB'.out.size
  have k4 := K1'.out.cell 4 (.slice A names.length nc) rfl
  have k5 := K1'.out.cell 5 (.slice B items.length ic) rfl
  have g0 := K2.out.cell 2 (.func (.func 106) #[] #[]) rfl
  go_wp2_with fail
  refine (none_any A names.length nc items.length _).mono ?_
  rintro e w5 ⟨he, rfl⟩
  obtain ⟨b, hbq⟩ : ∃ b, b = decide (names.length = 0) := ⟨_, rfl⟩
  rw [← hbq] at he
  subst he
  have HQ := Lib.hid hbq
  clear hbq
  have E := Lib.hid (show Cel.right ⟨4, 0, 0, ten, names, items⟩ = b by rw [HQ.out]; (rw [right_eq_4, e0, e1, i0]; first | (rw [d0, d1]; simp) | (rw [d0]; simp) | (rw [d1]; simp) | simp); cases names <;> rfl)
  go_wp2_with fail
  go_ret
  exact ⟨by rw [E.out]; rfl, HB'.out⟩
set_option maxHeartbeats 4000000 in
theorem right_no (k cls fn ten : Int) (names : List ByteArray) (items : List Val) (hk : ¬ (1 ≤ k ∧ k ≤ 4)) (N I : Value) (w : World) :
    Calls Tryz.prog 56 #[celV ⟨k, cls, fn, ten, names, items⟩ N I] w fun e w' => e = .returned (.bool (Cel.right ⟨k, cls, fn, ten, names, items⟩)) ∧ Below w.heap.size w w' := by
  unfold celV
  simp only
  have FO := Lib.hid (form_no k hk)
  have E := Lib.hid (show Cel.right ⟨k, cls, fn, ten, names, items⟩ = false by
    unfold Cel.right
    rw [if_neg (by simp only; omega), if_neg (by simp only; omega), if_neg (by simp only; omega), if_neg (by simp only; omega)]
    simp)
  clear hk
  go_enter Tryz.func56, Tryz.ntmps56
  go_wp2_with fail
  refine (FO.out _).mono ?_
  rintro e w2 ⟨rfl, hb⟩
  have HB := Lib.hid ((((Below.refl _ w).alloc (Nat.le_refl _) _).trans (hb.mono (by simp))))
  have SZ := HB.out.size
  clear hb
  go_wp2_with fail
  go_ret
  exact ⟨by rw [E.out]; rfl, HB.out.alloc SZ _⟩
theorem right_cell (P : Nat → Prop) (c : Cel) (n m : Nat) (A B : Option Addr) (nc ic : Nat) (w : World) (en : c.names.length = n) (em : c.items.length = m) (hS : SlS w P A c.names) (hV : ValsAt w P B c.items) (hP : ∀ b, P b → b < w.heap.size) (hn : n ≤ 4398046511104) (hm : m ≤ 4398046511104)
    (hs : ∀ s ∈ c.names, s.size ≤ maxLen) (hf : ∀ v ∈ c.items, v.Fits) (hB : Bnds w) :
    Calls Tryz.prog 56 #[celV c (.slice A n nc) (.slice B m ic)] w fun e w' => e = .returned (.bool c.right) ∧ Below w.heap.size w w' := by
  subst en em
  obtain ⟨k, cls, fn, ten, names, items⟩ := c
  by_cases h1 : k = 1
  · subst h1; exact right_1 P cls fn ten names items A B nc ic w hS hV hP hn hm hs hf hB
  by_cases h2 : k = 2
  · subst h2; exact right_2 P cls fn ten names items A B nc ic w hS hV hP hn hm hs hf hB
  by_cases h3 : k = 3
  · subst h3; exact right_3 P cls fn ten names items A B nc ic w hS hV hP hn hm hs hf hB
  by_cases h4 : k = 4
  · subst h4; exact right_4 P cls fn ten names items A B nc ic w hS hV hP hn hm hs hf hB
  exact right_no k cls fn ten names items (by omega) _ _ w
end Go.Proofs.YtkdpcnikgdbmaaaGreatDoor.Hp
