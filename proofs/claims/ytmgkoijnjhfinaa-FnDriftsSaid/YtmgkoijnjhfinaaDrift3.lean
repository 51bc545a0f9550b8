/- Rates of pictures and of drifts: in the program, in the model, and the statements' own walks. -/
import Derived.Test.YtmgkoijnjhfinaaProg
import Derived.Test.YtmgkoijnjhfinaaDrift
import Derived.Test.YtmgkoijnjhfinaaTwo
import Derived.Deep.RegionWith
import Derived.Deep.DrawnRows
import Derived.Laws.StructEq
import Derived.Tactics
import Derived.Tactics2
import Derived.WalkKit
import Derived.LoopTactic
import Derived.BigQuiet
import Derived.RegionTactic
import Derived.BigRegion
import Derived.ChangeAlike
import Derived.Deep.QuietTactic
import Derived.Deep.RegionHeld3
import Derived.Deep.DeepCutAuto
import Derived.Outline
import Derived.Lib.Hide
import Derived.Below
import Derived.KernelRfl
namespace Go.Proofs.Ytmgkoijnjhfinaa
set_option linter.unusedSimpArgs false
set_option linter.unusedVariables false
open Go.RowKit


theorem implPictureRate_bad (n d s : Int) (w : World) (hn : I64 n) (h : okB n d = false) :
    Calls Try.prog 29 #[fr n d, .int .i64 s] w fun e w' => e = .returned (.tuple #[fr 0 0, .int .i64 1]) ∧ Below w.heap.size w w' := by
  obtain ⟨w1, w2⟩ := hn
  go_enter Try.func29, Try.ntmps29
  go_wp2_with fail
  refine (validFraction_any _ _ _).mono ?_
  rintro e u1 ⟨rfl, hb1⟩
  have B1 : Bk u1 w.heap.size n d := bkOf hb1 (by refine ⟨?_, ?_, ?_, ?_, ?_⟩ <;> go_simp)
  have B2 : Bk u1 (w.heap.size + 1) 0 0 := bkOf hb1 (by refine ⟨?_, ?_, ?_, ?_, ?_⟩ <;> go_simp)
  have B2' := B2
  obtain ⟨c0, c1, f0, f1, z1⟩ := B1
  obtain ⟨c2, c3, f2, f3, z2⟩ := B2
  go_wp2_with fail
  refine bodyPost_ret (v := _) (by simp [results, Try.results29, go_sem, c2, c3, z2, Nat.ne_of_lt z2]) rfl ⟨rfl, ?_⟩
  repeat (first | exact Below.refl _ _ | refine bSet ?_ (by first | (simp; done) | (simp; omega)) _ | refine bAlloc ?_ _ | refine Below.drew ?_ | refine bDrewN ?_ _ | refine bTrans ?_ hb1)

theorem implPictureRate_range (n d s : Int) (w : World) (h : okB n d = true) (hr : inB s 1 48 = false) :
    Calls Try.prog 29 #[fr n d, .int .i64 s] w fun e w' => e = .returned (.tuple #[fr 0 0, .int .i64 2]) ∧ Below w.heap.size w w' := by
  have k1 := okB_bd h
  go_enter Try.func29, Try.ntmps29
  go_wp2_with fail
  refine (validFraction_any _ _ _).mono ?_
  rintro e u1 ⟨rfl, hb1⟩
  have B1 : Bk u1 w.heap.size n d := bkOf hb1 (by refine ⟨?_, ?_, ?_, ?_, ?_⟩ <;> go_simp)
  have B2 : Bk u1 (w.heap.size + 1) 0 0 := bkOf hb1 (by refine ⟨?_, ?_, ?_, ?_, ?_⟩ <;> go_simp)
  have B2' := B2
  obtain ⟨c0, c1, f0, f1, z1⟩ := B1
  obtain ⟨c2, c3, f2, f3, z2⟩ := B2
  go_wp2_with fail
  refine (isOnDisc_any _ _).mono ?_
  rintro e u ⟨rfl, rfl⟩
  go_wp2_with fail
  refine bodyPost_ret (v := _) (by simp [results, Try.results29, go_sem, c2, c3, z2, Nat.ne_of_lt z2]) rfl ⟨rfl, ?_⟩
  repeat (first | exact Below.refl _ _ | refine bSet ?_ (by first | (simp; done) | (simp; omega)) _ | refine bAlloc ?_ _ | refine Below.drew ?_ | refine bDrewN ?_ _ | refine bTrans ?_ hb1)

theorem specPictureRate_bad (n d s : Int) (w : World) (hn : I64 n) (h : okB n d = false) :
    Calls Try.prog 45 #[fr n d, .int .i64 s] w fun e w' => e = .returned (.tuple #[fr 0 0, .int .i64 1]) ∧ Below w.heap.size w w' := by
  obtain ⟨w1, w2⟩ := hn
  go_enter Try.func45, Try.ntmps45
  go_wp2_with fail
  refine (l02Ok_any _ _ _ (by omega) (by omega)).mono ?_
  rintro e u1 ⟨rfl, hb1⟩
  have B1 : Bk u1 w.heap.size n d := bkOf hb1 (by refine ⟨?_, ?_, ?_, ?_, ?_⟩ <;> go_simp)
  have B2 : Bk u1 (w.heap.size + 1) 0 0 := bkOf hb1 (by refine ⟨?_, ?_, ?_, ?_, ?_⟩ <;> go_simp)
  have B2' := B2
  obtain ⟨c0, c1, f0, f1, z1⟩ := B1
  obtain ⟨c2, c3, f2, f3, z2⟩ := B2
  go_wp2_with fail
  refine bodyPost_ret (v := _) (by simp [results, Try.results45, go_sem, c2, c3, z2, Nat.ne_of_lt z2]) rfl ⟨rfl, ?_⟩
  repeat (first | exact Below.refl _ _ | refine bSet ?_ (by first | (simp; done) | (simp; omega)) _ | refine bAlloc ?_ _ | refine Below.drew ?_ | refine bDrewN ?_ _ | refine bTrans ?_ hb1)

theorem specPictureRate_range (n d s : Int) (w : World) (h : okB n d = true) (hr : inB s 1 48 = false) :
    Calls Try.prog 45 #[fr n d, .int .i64 s] w fun e w' => e = .returned (.tuple #[fr 0 0, .int .i64 2]) ∧ Below w.heap.size w w' := by
  have k1 := okB_bd h
  go_enter Try.func45, Try.ntmps45
  go_wp2_with fail
  refine (l02Ok_any _ _ _ (by omega) (by omega)).mono ?_
  rintro e u1 ⟨rfl, hb1⟩
  have B1 : Bk u1 w.heap.size n d := bkOf hb1 (by refine ⟨?_, ?_, ?_, ?_, ?_⟩ <;> go_simp)
  have B2 : Bk u1 (w.heap.size + 1) 0 0 := bkOf hb1 (by refine ⟨?_, ?_, ?_, ?_, ?_⟩ <;> go_simp)
  have B2' := B2
  obtain ⟨c0, c1, f0, f1, z1⟩ := B1
  obtain ⟨c2, c3, f2, f3, z2⟩ := B2
  go_wp2_with fail
  refine (l03Many_any _ _).mono ?_
  rintro e u ⟨rfl, rfl⟩
  go_wp2_with fail
  refine bodyPost_ret (v := _) (by simp [results, Try.results45, go_sem, c2, c3, z2, Nat.ne_of_lt z2]) rfl ⟨rfl, ?_⟩
  repeat (first | exact Below.refl _ _ | refine bSet ?_ (by first | (simp; done) | (simp; omega)) _ | refine bAlloc ?_ _ | refine Below.drew ?_ | refine bDrewN ?_ _ | refine bTrans ?_ hb1)

theorem implDriftRate_bad (n d p s : Int) (w : World) (hn : I64 n) (h : okB n d = false) :
    Calls Try.prog 30 #[fr n d, .int .i64 p, .int .i64 s] w fun e w' => e = .returned (.tuple #[fr 0 0, .int .i64 1]) ∧ Below w.heap.size w w' := by
  obtain ⟨w1, w2⟩ := hn
  go_enter Try.func30, Try.ntmps30
  go_wp2_with fail
  refine (validFraction_any _ _ _).mono ?_
  rintro e u1 ⟨rfl, hb1⟩
  have B1 : Bk u1 w.heap.size n d := bkOf hb1 (by refine ⟨?_, ?_, ?_, ?_, ?_⟩ <;> go_simp)
  have B2 : Bk u1 (w.heap.size + 1) 0 0 := bkOf hb1 (by refine ⟨?_, ?_, ?_, ?_, ?_⟩ <;> go_simp)
  have B2' := B2
  obtain ⟨c0, c1, f0, f1, z1⟩ := B1
  obtain ⟨c2, c3, f2, f3, z2⟩ := B2
  go_wp2_with fail
  refine bodyPost_ret (v := _) (by simp [results, Try.results30, go_sem, c2, c3, z2, Nat.ne_of_lt z2]) rfl ⟨rfl, ?_⟩
  repeat (first | exact Below.refl _ _ | refine bSet ?_ (by first | (simp; done) | (simp; omega)) _ | refine bAlloc ?_ _ | refine Below.drew ?_ | refine bDrewN ?_ _ | refine bTrans ?_ hb1)

theorem implDriftRate_range (n d p s : Int) (w : World) (h : okB n d = true) (hr : discB p s = false) :
    Calls Try.prog 30 #[fr n d, .int .i64 p, .int .i64 s] w fun e w' => e = .returned (.tuple #[fr 0 0, .int .i64 2]) ∧ Below w.heap.size w w' := by
  have k1 := okB_bd h
  go_enter Try.func30, Try.ntmps30
  go_wp2_with fail
  refine (validFraction_any _ _ _).mono ?_
  rintro e u1 ⟨rfl, hb1⟩
  have B1 : Bk u1 w.heap.size n d := bkOf hb1 (by refine ⟨?_, ?_, ?_, ?_, ?_⟩ <;> go_simp)
  have B2 : Bk u1 (w.heap.size + 1) 0 0 := bkOf hb1 (by refine ⟨?_, ?_, ?_, ?_, ?_⟩ <;> go_simp)
  have B2' := B2
  obtain ⟨c0, c1, f0, f1, z1⟩ := B1
  obtain ⟨c2, c3, f2, f3, z2⟩ := B2
  go_wp2_with fail
  refine (isDisc_any _ _ _).mono ?_
  rintro e u ⟨rfl, rfl⟩
  go_wp2_with fail
  refine bodyPost_ret (v := _) (by simp [results, Try.results30, go_sem, c2, c3, z2, Nat.ne_of_lt z2]) rfl ⟨rfl, ?_⟩
  repeat (first | exact Below.refl _ _ | refine bSet ?_ (by first | (simp; done) | (simp; omega)) _ | refine bAlloc ?_ _ | refine Below.drew ?_ | refine bDrewN ?_ _ | refine bTrans ?_ hb1)

theorem specDriftRate_bad (n d p s : Int) (w : World) (hn : I64 n) (h : okB n d = false) :
    Calls Try.prog 47 #[fr n d, .int .i64 p, .int .i64 s] w fun e w' => e = .returned (.tuple #[fr 0 0, .int .i64 1]) ∧ Below w.heap.size w w' := by
  obtain ⟨w1, w2⟩ := hn
  go_enter Try.func47, Try.ntmps47
  go_wp2_with fail
  refine (l02Ok_any _ _ _ (by omega) (by omega)).mono ?_
  rintro e u1 ⟨rfl, hb1⟩
  have B1 : Bk u1 w.heap.size n d := bkOf hb1 (by refine ⟨?_, ?_, ?_, ?_, ?_⟩ <;> go_simp)
  have B2 : Bk u1 (w.heap.size + 1) 0 0 := bkOf hb1 (by refine ⟨?_, ?_, ?_, ?_, ?_⟩ <;> go_simp)
  have B2' := B2
  obtain ⟨c0, c1, f0, f1, z1⟩ := B1
  obtain ⟨c2, c3, f2, f3, z2⟩ := B2
  go_wp2_with fail
  refine bodyPost_ret (v := _) (by simp [results, Try.results47, go_sem, c2, c3, z2, Nat.ne_of_lt z2]) rfl ⟨rfl, ?_⟩
  repeat (first | exact Below.refl _ _ | refine bSet ?_ (by first | (simp; done) | (simp; omega)) _ | refine bAlloc ?_ _ | refine Below.drew ?_ | refine bDrewN ?_ _ | refine bTrans ?_ hb1)

theorem specDriftRate_range (n d p s : Int) (w : World) (h : okB n d = true) (hr : discB p s = false) :
    Calls Try.prog 47 #[fr n d, .int .i64 p, .int .i64 s] w fun e w' => e = .returned (.tuple #[fr 0 0, .int .i64 2]) ∧ Below w.heap.size w w' := by
  have k1 := okB_bd h
  go_enter Try.func47, Try.ntmps47
  go_wp2_with fail
  refine (l02Ok_any _ _ _ (by omega) (by omega)).mono ?_
  rintro e u1 ⟨rfl, hb1⟩
  have B1 : Bk u1 w.heap.size n d := bkOf hb1 (by refine ⟨?_, ?_, ?_, ?_, ?_⟩ <;> go_simp)
  have B2 : Bk u1 (w.heap.size + 1) 0 0 := bkOf hb1 (by refine ⟨?_, ?_, ?_, ?_, ?_⟩ <;> go_simp)
  have B2' := B2
  obtain ⟨c0, c1, f0, f1, z1⟩ := B1
  obtain ⟨c2, c3, f2, f3, z2⟩ := B2
  go_wp2_with fail
  refine (l03Code_no _ _ _ hr).mono ?_
  rintro e u ⟨rfl, rfl⟩
  go_wp2_with fail
  refine bodyPost_ret (v := _) (by simp [results, Try.results47, go_sem, c2, c3, z2, Nat.ne_of_lt z2]) rfl ⟨rfl, ?_⟩
  repeat (first | exact Below.refl _ _ | refine bSet ?_ (by first | (simp; done) | (simp; omega)) _ | refine bAlloc ?_ _ | refine Below.drew ?_ | refine bDrewN ?_ _ | refine bTrans ?_ hb1)

theorem implPictureRate_yes (n d s : Int) (w : World) (h : okB n d = true) (hr : inB s 1 48 = true) :
    Calls Try.prog 29 #[fr n d, .int .i64 s] w fun e w' => e = .returned (fullV (n * s) d) ∧ Below w.heap.size w w' := by
  have k1 := okB_bd h
  obtain ⟨s0, s1⟩ := inB_iff.1 hr
  have m1 := mul_bd (x := n) (y := s) (m := 1000000) (k := 48) (by omega) (by omega) (by omega) (by omega)
  have e1 : d * 1 = d := Int.mul_one d
  obtain ⟨x, y, z, hV⟩ := fullV_form (n * s) d
  have C := Lib.hid (fun w => fitted_any (n * s) d w (by omega) (by omega) (by omega) (by omega) (by omega))
  have T := Lib.hid (fun w => times_any n d s 1 w (by omega) (by omega) (by omega) (by omega) (by omega) (by omega) (by omega) (by omega))
  rw [e1] at T
  rw [hV] at C ⊢
  clear hV
  go_enter Try.func29, Try.ntmps29
  go_wp2_with fail
  refine (validFraction_any _ _ _).mono ?_
  rintro e u1 ⟨rfl, hb1⟩
  have B1 : Bk u1 w.heap.size n d := bkOf hb1 (by refine ⟨?_, ?_, ?_, ?_, ?_⟩ <;> go_simp)
  have B2 : Bk u1 (w.heap.size + 1) 0 0 := bkOf hb1 (by refine ⟨?_, ?_, ?_, ?_, ?_⟩ <;> go_simp)
  have B2' := B2
  obtain ⟨c0, c1, f0, f1, z1⟩ := B1
  obtain ⟨c2, c3, f2, f3, z2⟩ := B2
  go_wp2_with fail
  refine (isOnDisc_any _ _).mono ?_
  rintro e u ⟨rfl, rfl⟩
  go_wp2_with fail
  refine (T.out _).mono ?_
  rintro e u2 ⟨rfl, hb2⟩
  have B2' := bkOf hb2 B2'
  clear c0 c1 f0 f1 z1 c2 c3 f2 f3 z2
  go_wp2_with fail
  refine (C.out _).mono ?_
  rintro e u3 ⟨rfl, hb3⟩
  have B2 := bkOf hb3 B2'
  obtain ⟨c2, c3, f2, f3, z2⟩ := B2
  go_wp2_with fail
  refine bodyPost_ret (v := _) (by simp [results, Try.results29, go_sem, c2, c3, z2, Nat.ne_of_lt z2]) rfl ⟨rfl, ?_⟩
  repeat (first | exact Below.refl _ _ | refine bSet ?_ (by first | (simp; done) | (simp; omega)) _ | refine bAlloc ?_ _ | refine Below.drew ?_ | refine bDrewN ?_ _ | refine bTrans ?_ hb3 | refine bTrans ?_ hb2 | refine bTrans ?_ hb1)

theorem specPictureRate_yes (n d s : Int) (w : World) (h : okB n d = true) (hr : inB s 1 48 = true) :
    Calls Try.prog 45 #[fr n d, .int .i64 s] w fun e w' => e = .returned (fullV (n * s) d) ∧ Below w.heap.size w w' := by
  have k1 := okB_bd h
  obtain ⟨s0, s1⟩ := inB_iff.1 hr
  have m1 := mul_bd (x := n) (y := s) (m := 1000000) (k := 48) (by omega) (by omega) (by omega) (by omega)
  obtain ⟨x, y, z, hV⟩ := fullV_form (n * s) d
  have C := Lib.hid (fun w => l02Full_any (n * s) d w (by omega) (by omega) (by omega) (by omega))
  rw [hV] at C ⊢
  clear hV
  go_enter Try.func45, Try.ntmps45
  go_wp2_with fail
  refine (l02Ok_any _ _ _ (by omega) (by omega)).mono ?_
  rintro e u1 ⟨rfl, hb1⟩
  have B1 : Bk u1 w.heap.size n d := bkOf hb1 (by refine ⟨?_, ?_, ?_, ?_, ?_⟩ <;> go_simp)
  have B2 : Bk u1 (w.heap.size + 1) 0 0 := bkOf hb1 (by refine ⟨?_, ?_, ?_, ?_, ?_⟩ <;> go_simp)
  have B2' := B2
  obtain ⟨c0, c1, f0, f1, z1⟩ := B1
  obtain ⟨c2, c3, f2, f3, z2⟩ := B2
  go_wp2_with fail
  refine (l03Many_any _ _).mono ?_
  rintro e u ⟨rfl, rfl⟩
  go_wp2_with fail
  refine (C.out _).mono ?_
  rintro e u3 ⟨rfl, hb3⟩
  have B2 := bkOf hb3 B2'
  clear c0 c1 f0 f1 z1 c2 c3 f2 f3 z2
  obtain ⟨c2, c3, f2, f3, z2⟩ := B2
  go_wp2_with fail
  refine bodyPost_ret (v := _) (by simp [results, Try.results45, go_sem, c2, c3, z2, Nat.ne_of_lt z2]) rfl ⟨rfl, ?_⟩
  repeat (first | exact Below.refl _ _ | refine bSet ?_ (by first | (simp; done) | (simp; omega)) _ | refine bAlloc ?_ _ | refine Below.drew ?_ | refine bDrewN ?_ _ | refine bTrans ?_ hb3 | refine bTrans ?_ hb1)

theorem implDriftRate_yes (n d p s : Int) (w : World) (h : okB n d = true) (hr : discB p s = true) :
    Calls Try.prog 30 #[fr n d, .int .i64 p, .int .i64 s] w fun e w' => e = .returned (fullV (n * (drN p s * s)) (d * (drD p s * p))) ∧ Below w.heap.size w w' := by
  have k1 := okB_bd h
  obtain ⟨p1, p2, s1, s2⟩ := discB_bd hr
  obtain ⟨b1, b2, b3, b4⟩ := dr_bd hr
  have D := Lib.hid (fun w => driftOf_dr p s w hr)
  generalize drN p s = x0 at *
  generalize drD p s = y0 at *
  have m1 := mul_bd (x := x0) (y := s) (m := 48) (k := 48) (by omega) (by omega) (by omega) (by omega)
  have m2 := mul_bd (x := y0) (y := p) (m := 48) (k := 48) (by omega) (by omega) (by omega) (by omega)
  have m3 : 0 < y0 * p := Int.mul_pos (by omega) (by omega)
  have m4 := mul_bd (x := n) (y := x0 * s) (m := 1000000) (k := 48 * 48) (by omega) (by omega) (by omega) (by omega)
  have m5 := mul_bd (x := d) (y := y0 * p) (m := 1000000) (k := 48 * 48) (by omega) (by omega) (by omega) (by omega)
  have m6 : 0 < d * (y0 * p) := Int.mul_pos (by omega) m3
  have T1 := Lib.hid (fun w => times_any x0 y0 s p w (by omega) (by omega) (by omega) (by omega) (by omega) (by omega) (by omega) (by omega))
  have T2 := Lib.hid (fun w => times_any n d (x0 * s) (y0 * p) w (by omega) (by omega) (by omega) (by omega) (by omega) (by omega) (by omega) (by omega))
  have C := Lib.hid (fun w => fitted_any (n * (x0 * s)) (d * (y0 * p)) w (by omega) (by omega) (by omega) (by omega) (by omega))
  obtain ⟨x, y, z, hV⟩ := fullV_form (n * (x0 * s)) (d * (y0 * p))
  rw [hV] at C ⊢
  clear hV
  generalize x0 * s = X at *
  generalize y0 * p = Y at *
  go_enter Try.func30, Try.ntmps30
  go_wp2_with fail
  refine (validFraction_any _ _ _).mono ?_
  rintro e u1 ⟨rfl, hb1⟩
  have B1 : Bk u1 w.heap.size n d := bkOf hb1 (by refine ⟨?_, ?_, ?_, ?_, ?_⟩ <;> go_simp)
  have B2 : Bk u1 (w.heap.size + 1) 0 0 := bkOf hb1 (by refine ⟨?_, ?_, ?_, ?_, ?_⟩ <;> go_simp)
  have B2' := B2
  have B1' := B1
  obtain ⟨c0, c1, f0, f1, z1⟩ := B1
  obtain ⟨c2, c3, f2, f3, z2⟩ := B2
  go_wp2_with fail
  refine (isDisc_any _ _ _).mono ?_
  rintro e u ⟨rfl, rfl⟩
  go_wp2_with fail
  refine (D.out _).mono ?_
  rintro e u2 ⟨rfl, hb2⟩
  have B1' := bkOf hb2 B1'
  have B2' := bkOf hb2 B2'
  clear c0 c1 f0 f1 z1 c2 c3 f2 f3 z2
  go_wp2_with fail
  refine (T1.out _).mono ?_
  rintro e u3 ⟨rfl, hb3⟩
  have B1' := bkOf hb3 B1'
  have B2' := bkOf hb3 B2'
  obtain ⟨c0, c1, f0, f1, z1⟩ := B1'
  go_wp2_with fail
  refine (T2.out _).mono ?_
  rintro e u4 ⟨rfl, hb4⟩
  have B2' := bkOf hb4 (bkOf (bAlloc (Below.refl _ _) _) B2')
  clear c0 c1 f0 f1 z1
  go_wp2_with fail
  refine (C.out _).mono ?_
  rintro e u5 ⟨rfl, hb5⟩
  have B2 := bkOf hb5 B2'
  obtain ⟨c2, c3, f2, f3, z2⟩ := B2
  go_wp2_with fail
  refine bodyPost_ret (v := _) (by simp [results, Try.results30, go_sem, c2, c3, z2, Nat.ne_of_lt z2]) rfl ⟨rfl, ?_⟩
  repeat (first | exact Below.refl _ _ | refine bSet ?_ (by first | (simp; done) | (simp; omega)) _ | refine bAlloc ?_ _ | refine Below.drew ?_ | refine bDrewN ?_ _ | refine bTrans ?_ hb5 | refine bTrans ?_ hb4 | refine bTrans ?_ hb3 | refine bTrans ?_ hb2 | refine bTrans ?_ hb1)

theorem specDriftRate_yes (n d p s : Int) (w : World) (h : okB n d = true) (hr : discB p s = true) :
    Calls Try.prog 47 #[fr n d, .int .i64 p, .int .i64 s] w fun e w' => e = .returned (fullV (n * (drN p s * s)) (d * (drD p s * p))) ∧ Below w.heap.size w w' := by
  have k1 := okB_bd h
  obtain ⟨p1, p2, s1, s2⟩ := discB_bd hr
  obtain ⟨b1, b2, b3, b4⟩ := dr_bd hr
  have D := Lib.hid (fun w => l03Drift_any p s w hr)
  generalize drN p s = x0 at *
  generalize drD p s = y0 at *
  rw [show n * (x0 * s) = n * s * x0 by rw [Int.mul_comm x0, Int.mul_assoc], ← Int.mul_assoc d]
  have m1 := mul_bd (x := n) (y := s) (m := 1000000) (k := 48) (by omega) (by omega) (by omega) (by omega)
  have m2 := mul_bd (x := d) (y := y0) (m := 1000000) (k := 48) (by omega) (by omega) (by omega) (by omega)
  have m3 : 0 < d * y0 := Int.mul_pos (by omega) (by omega)
  have m4 := mul_bd (x := n * s) (y := x0) (m := 1000000 * 48) (k := 48) (by omega) (by omega) (by omega) (by omega)
  have m5 := mul_bd (x := d * y0) (y := p) (m := 1000000 * 48) (k := 48) (by omega) (by omega) (by omega) (by omega)
  have m6 : 0 < d * y0 * p := Int.mul_pos m3 (by omega)
  have C := Lib.hid (fun w => l02Full_any (n * s * x0) (d * y0 * p) w (by omega) (by omega) (by omega) (by omega))
  obtain ⟨x, y, z, hV⟩ := fullV_form (n * s * x0) (d * y0 * p)
  rw [hV] at C ⊢
  clear hV
  go_enter Try.func47, Try.ntmps47
  go_wp2_with fail
  refine (l02Ok_any _ _ _ (by omega) (by omega)).mono ?_
  rintro e u1 ⟨rfl, hb1⟩
  have B1 : Bk u1 w.heap.size n d := bkOf hb1 (by refine ⟨?_, ?_, ?_, ?_, ?_⟩ <;> go_simp)
  have B2 : Bk u1 (w.heap.size + 1) 0 0 := bkOf hb1 (by refine ⟨?_, ?_, ?_, ?_, ?_⟩ <;> go_simp)
  have B2' := B2
  have B1' := B1
  obtain ⟨c0, c1, f0, f1, z1⟩ := B1
  obtain ⟨c2, c3, f2, f3, z2⟩ := B2
  go_wp2_with fail
  refine (l03Code_yes _ _ _ hr).mono ?_
  rintro e u ⟨rfl, rfl⟩
  go_wp2_with fail
  refine (D.out _).mono ?_
  rintro e u2 ⟨rfl, hb2⟩
  have B1' := bkOf hb2 B1'
  have B2' := bkOf hb2 B2'
  clear c0 c1 f0 f1 z1 c2 c3 f2 f3 z2
  obtain ⟨c0, c1, f0, f1, z1⟩ := B1'
  go_wp2_with fail
  refine (C.out _).mono ?_
  rintro e u3 ⟨rfl, hb3⟩
  have B2 : Bk u3 (w.heap.size + 1) 0 0 := bkOf hb3 (by first | exact B2' | exact bkOf (bAlloc (Below.refl _ _) _) B2')
  clear c0 c1 f0 f1 z1
  obtain ⟨c2, c3, f2, f3, z2⟩ := B2
  go_wp2_with fail
  refine bodyPost_ret (v := _) (by simp [results, Try.results47, go_sem, c2, c3, z2, Nat.ne_of_lt z2]) rfl ⟨rfl, ?_⟩
  repeat (first | exact Below.refl _ _ | refine bSet ?_ (by first | (simp; done) | (simp; omega)) _ | refine bAlloc ?_ _ | refine Below.drew ?_ | refine bDrewN ?_ _ | refine bTrans ?_ hb3 | refine bTrans ?_ hb2 | refine bTrans ?_ hb1)

theorem lawPictureRate_of (n d s x y z : Int) (w : World)
    (hs : ∀ w : World, Calls Try.prog 45 #[fr n d, .int .i64 s] w fun e w' => e = .returned (.tuple #[fr x y, .int .i64 z]) ∧ Below w.heap.size w w')
    (hi : ∀ w : World, Calls Try.prog 29 #[fr n d, .int .i64 s] w fun e w' => e = .returned (.tuple #[fr x y, .int .i64 z]) ∧ Below w.heap.size w w') :
    Calls Try.prog 12 #[fr n d, .int .i64 s] w fun e w' => e = .returned (.bool true) ∧ Below w.heap.size w w' := by
  have S := Lib.hid hs
  have I := Lib.hid hi
  clear hs hi
  go_enter Try.func12, Try.ntmps12
  go_wp2_with fail
  refine (toFraction_any _ _ _).mono ?_
  rintro e u1 ⟨rfl, hb1⟩
  have B1 : Bk u1 w.heap.size n d := bkOf hb1 (by refine ⟨?_, ?_, ?_, ?_, ?_⟩ <;> go_simp)
  go_wp2_with fail
  refine (S.out _).mono ?_
  rintro e u2 ⟨rfl, hb2⟩
  have B1 := bkOf hb2 B1
  obtain ⟨c0, c1, f0, f1, z1⟩ := B1
  have n1 := Nat.ne_of_lt z1
  go_wp2_with fail
  refine (toFraction_any _ _ _).mono ?_
  rintro e u3 ⟨rfl, hb3⟩
  have B3 : Bk u3 u2.heap.size x y := bkOf hb3 (by refine ⟨?_, ?_, ?_, ?_, ?_⟩ <;> go_simp)
  go_wp2_with fail
  refine (I.out _).mono ?_
  rintro e u4 ⟨rfl, hb4⟩
  have B3 := bkOf hb4 B3
  obtain ⟨c2, c3, f2, f3, z3⟩ := B3
  have n3 := Nat.ne_of_lt z3
  go_wp2_with fail
  refine (eqFraction_same _ _ _).mono ?_
  rintro e u5 ⟨rfl, hb5⟩
  go_wp2_with fail
  go_ret
  refine ⟨rfl, ?_⟩
  repeat (first | exact Below.refl _ _ | refine bSet ?_ (by first | (simp; done) | (simp; omega)) _ | refine bAlloc ?_ _ | refine Below.drew ?_ | refine bDrewN ?_ _ | refine bTrans ?_ hb5 | refine bTrans ?_ hb4 | refine bTrans ?_ hb3 | refine bTrans ?_ hb2 | refine bTrans ?_ hb1)

/-- laws.FnExactPictureRate. -/
theorem law_PictureRate (n d s : Int) (w : World) (hn : I64 n) (_hd : I64 d) (_hs : I64 s) :
    Calls Try.prog 12 #[fr n d, .int .i64 s] w fun e w' => e = .returned (.bool true) ∧ Below w.heap.size w w' := by
  cases h : okB n d
  · exact lawPictureRate_of n d s 0 0 1 w (fun w => specPictureRate_bad n d s w hn h) (fun w => implPictureRate_bad n d s w hn h)
  · cases hr : inB s 1 48
    · exact lawPictureRate_of n d s 0 0 2 w (fun w => specPictureRate_range n d s w h hr) (fun w => implPictureRate_range n d s w h hr)
    · obtain ⟨x, y, z, hV⟩ := fullV_form (n * s) d
      exact lawPictureRate_of n d s x y z w (fun w => by rw [← hV]; exact specPictureRate_yes n d s w h hr) (fun w => by rw [← hV]; exact implPictureRate_yes n d s w h hr)

theorem lawDriftRate_of (n d p s x y z : Int) (w : World)
    (hs : ∀ w : World, Calls Try.prog 47 #[fr n d, .int .i64 p, .int .i64 s] w fun e w' => e = .returned (.tuple #[fr x y, .int .i64 z]) ∧ Below w.heap.size w w')
    (hi : ∀ w : World, Calls Try.prog 30 #[fr n d, .int .i64 p, .int .i64 s] w fun e w' => e = .returned (.tuple #[fr x y, .int .i64 z]) ∧ Below w.heap.size w w') :
    Calls Try.prog 13 #[fr n d, .int .i64 p, .int .i64 s] w fun e w' => e = .returned (.bool true) ∧ Below w.heap.size w w' := by
  have S := Lib.hid hs
  have I := Lib.hid hi
  clear hs hi
  go_enter Try.func13, Try.ntmps13
  go_wp2_with fail
  refine (toFraction_any _ _ _).mono ?_
  rintro e u1 ⟨rfl, hb1⟩
  have B1 : Bk u1 w.heap.size n d := bkOf hb1 (by refine ⟨?_, ?_, ?_, ?_, ?_⟩ <;> go_simp)
  go_wp2_with fail
  refine (S.out _).mono ?_
  rintro e u2 ⟨rfl, hb2⟩
  have B1 := bkOf hb2 B1
  obtain ⟨c0, c1, f0, f1, z1⟩ := B1
  have n1 := Nat.ne_of_lt z1
  go_wp2_with fail
  refine (toFraction_any _ _ _).mono ?_
  rintro e u3 ⟨rfl, hb3⟩
  have B3 : Bk u3 u2.heap.size x y := bkOf hb3 (by refine ⟨?_, ?_, ?_, ?_, ?_⟩ <;> go_simp)
  go_wp2_with fail
  refine (I.out _).mono ?_
  rintro e u4 ⟨rfl, hb4⟩
  have B3 := bkOf hb4 B3
  obtain ⟨c2, c3, f2, f3, z3⟩ := B3
  have n3 := Nat.ne_of_lt z3
  go_wp2_with fail
  refine (eqFraction_same _ _ _).mono ?_
  rintro e u5 ⟨rfl, hb5⟩
  go_wp2_with fail
  go_ret
  refine ⟨rfl, ?_⟩
  repeat (first | exact Below.refl _ _ | refine bSet ?_ (by first | (simp; done) | (simp; omega)) _ | refine bAlloc ?_ _ | refine Below.drew ?_ | refine bDrewN ?_ _ | refine bTrans ?_ hb5 | refine bTrans ?_ hb4 | refine bTrans ?_ hb3 | refine bTrans ?_ hb2 | refine bTrans ?_ hb1)

/-- laws.FnExactDriftRate. -/
theorem law_DriftRate (n d p s : Int) (w : World) (hn : I64 n) (_hd : I64 d) (_hp : I64 p) (_hs : I64 s) :
    Calls Try.prog 13 #[fr n d, .int .i64 p, .int .i64 s] w fun e w' => e = .returned (.bool true) ∧ Below w.heap.size w w' := by
  cases h : okB n d
  · exact lawDriftRate_of n d p s 0 0 1 w (fun w => specDriftRate_bad n d p s w hn h) (fun w => implDriftRate_bad n d p s w hn h)
  · cases hr : discB p s
    · exact lawDriftRate_of n d p s 0 0 2 w (fun w => specDriftRate_range n d p s w h hr) (fun w => implDriftRate_range n d p s w h hr)
    · obtain ⟨x, y, z, hV⟩ := fullV_form (n * (drN p s * s)) (d * (drD p s * p))
      exact lawDriftRate_of n d p s x y z w (fun w => by rw [← hV]; exact specDriftRate_yes n d p s w h hr) (fun w => by rw [← hV]; exact implDriftRate_yes n d p s w h hr)

end Go.Proofs.Ytmgkoijnjhfinaa
