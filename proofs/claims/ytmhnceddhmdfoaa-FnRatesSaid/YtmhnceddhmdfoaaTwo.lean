/- Sums, products and beats, in the program and in the model. -/
import Derived.Test.YtmhnceddhmdfoaaProg
import Derived.Test.YtmhnceddhmdfoaaOps
import Derived.Deep.RegionWith
import Derived.Deep.DrawnRows
import Derived.Laws.StructEq
import Derived.Tactics
import Derived.Tactics2
import Derived.WalkKit
import Derived.LoopTactic
import Derived.BigQuiet
import Derived.RegionTactic
import Derived.BigRegion
import Derived.ChangeAlike
import Derived.Deep.QuietTactic
import Derived.Deep.RegionHeld3
import Derived.Deep.DeepCutAuto
import Derived.Outline
import Derived.Lib.Hide
import Derived.Below
import Derived.KernelRfl
namespace Go.Proofs.Ytmhnceddhmdfoaa
set_option linter.unusedSimpArgs false
set_option linter.unusedVariables false
open Go.RowKit

theorem fullV_form (n m : Int) : ∃ x y z : Int, fullV n m = .tuple #[fr x y, .int .i64 z] := by
  cases h : fullB n m
  · exact ⟨_, _, _, fullV_no h⟩
  · exact ⟨_, _, _, fullV_yes h⟩

/-- impl.AddFractions. -/
theorem implAddFractions_no (a b c d : Int) (w : World) (h : (okB a b && okB c d) = false) :
    Calls Try.prog 39 #[fr a b, fr c d] w fun e w' => e = .returned (.tuple #[fr 0 0, .int .i64 1]) ∧ Below w.heap.size w w' := by
  go_enter Try.func39, Try.ntmps39
  go_wp2_with fail
  refine (combined_no _ _ _ _ _ _ h).mono ?_
  rintro e u1 ⟨rfl, hb1⟩
  have B2 : Bk u1 (w.heap.size + 1 + 1) 0 0 := bkOf hb1 (by refine ⟨?_, ?_, ?_, ?_, ?_⟩ <;> go_simp)
  obtain ⟨c2, c3, f2, f3, z2⟩ := B2
  go_wp2_with fail
  refine bodyPost_ret (v := _) (by simp [results, Try.results39, go_sem, c2, c3]) rfl ⟨rfl, ?_⟩
  repeat (first | exact Below.refl _ _ | refine bSet ?_ (by simp; omega) _ | refine bAlloc ?_ _ | refine Below.drew ?_ | refine bDrewN ?_ _ | refine bTrans ?_ hb1)

theorem implAddFractions_yes (a b c d : Int) (w : World) (h1 : okB a b = true) (h2 : okB c d = true) :
    Calls Try.prog 39 #[fr a b, fr c d] w fun e w' => e = .returned (fullV (a * d + c * b) (b * d)) ∧ Below w.heap.size w w' := by
  have k1 := okB_bd h1
  have k2 := okB_bd h2
  have m1 := mul_bd (x := a) (y := d) (m := 1000000) (k := 1000000) (by omega) (by omega) (by omega) (by omega)
  have m2 := mul_bd (x := c) (y := b) (m := 1000000) (k := 1000000) (by omega) (by omega) (by omega) (by omega)
  have m3 := mul_bd (x := b) (y := d) (m := 1000000) (k := 1000000) (by omega) (by omega) (by omega) (by omega)
  have m4 := mul_bd (x := a) (y := c) (m := 1000000) (k := 1000000) (by omega) (by omega) (by omega) (by omega)
  have m5 : 0 < b * d := Int.mul_pos (by omega) (by omega)
  obtain ⟨x, y, z, hV⟩ := fullV_form (a * d + c * b) (b * d)
  have C := Lib.hid (fun w => combined_plus a b c d (a * d + c * b) (b * d) w h1 h2 (fun w => plus_any a b c d w h1 h2) (by omega) (by omega) (by omega) (by omega) (by omega))
  rw [hV] at C ⊢
  clear hV
  go_enter Try.func39, Try.ntmps39
  go_wp2_with fail
  refine (C.out _).mono ?_
  rintro e u1 ⟨rfl, hb1⟩
  have B2 : Bk u1 (w.heap.size + 1 + 1) 0 0 := bkOf hb1 (by refine ⟨?_, ?_, ?_, ?_, ?_⟩ <;> go_simp)
  obtain ⟨c2, c3, f2, f3, z2⟩ := B2
  go_wp2_with fail
  refine bodyPost_ret (v := _) (by simp [results, Try.results39, go_sem, c2, c3]) rfl ⟨rfl, ?_⟩
  repeat (first | exact Below.refl _ _ | refine bSet ?_ (by simp; omega) _ | refine bAlloc ?_ _ | refine Below.drew ?_ | refine bDrewN ?_ _ | refine bTrans ?_ hb1)

/-- spec.AddFractions. -/
theorem specAddFractions_no (a b c d : Int) (w : World) (ha : I64 a) (hc : I64 c) (h : (okB a b && okB c d) = false) :
    Calls Try.prog 38 #[fr a b, fr c d] w fun e w' => e = .returned (.tuple #[fr 0 0, .int .i64 1]) ∧ Below w.heap.size w w' := by
  go_enter Try.func38, Try.ntmps38
  go_wp2_with fail
  refine (l02Two_no _ _ _ _ _ ha hc h).mono ?_
  rintro e u1 ⟨rfl, hb1⟩
  have B2 : Bk u1 (w.heap.size + 1 + 1) 0 0 := bkOf hb1 (by refine ⟨?_, ?_, ?_, ?_, ?_⟩ <;> go_simp)
  obtain ⟨c2, c3, f2, f3, z2⟩ := B2
  go_wp2_with fail
  refine bodyPost_ret (v := _) (by simp [results, Try.results38, go_sem, c2, c3]) rfl ⟨rfl, ?_⟩
  repeat (first | exact Below.refl _ _ | refine bSet ?_ (by simp; omega) _ | refine bAlloc ?_ _ | refine Below.drew ?_ | refine bDrewN ?_ _ | refine bTrans ?_ hb1)

theorem specAddFractions_yes (a b c d : Int) (w : World) (h1 : okB a b = true) (h2 : okB c d = true) :
    Calls Try.prog 38 #[fr a b, fr c d] w fun e w' => e = .returned (fullV (a * d + c * b) (b * d)) ∧ Below w.heap.size w w' := by
  have k1 := okB_bd h1
  have k2 := okB_bd h2
  have m1 := mul_bd (x := a) (y := d) (m := 1000000) (k := 1000000) (by omega) (by omega) (by omega) (by omega)
  have m2 := mul_bd (x := c) (y := b) (m := 1000000) (k := 1000000) (by omega) (by omega) (by omega) (by omega)
  have m3 := mul_bd (x := b) (y := d) (m := 1000000) (k := 1000000) (by omega) (by omega) (by omega) (by omega)
  have m4 := mul_bd (x := a) (y := c) (m := 1000000) (k := 1000000) (by omega) (by omega) (by omega) (by omega)
  have m5 : 0 < b * d := Int.mul_pos (by omega) (by omega)
  obtain ⟨x, y, z, hV⟩ := fullV_form (a * d + c * b) (b * d)
  have C := Lib.hid (fun w => l02Full_any (a * d + c * b) (b * d) w (by omega) (by omega) (by omega) (by omega))
  rw [hV] at C ⊢
  clear hV
  go_enter Try.func38, Try.ntmps38
  go_wp2_with fail
  refine (l02Two_yes _ _ _ _ _ h1 h2).mono ?_
  rintro e u1 ⟨rfl, hb1⟩
  have B1 : Bk u1 w.heap.size a b := bkOf hb1 (by refine ⟨?_, ?_, ?_, ?_, ?_⟩ <;> go_simp)
  have B3 : Bk u1 (w.heap.size + 1) c d := bkOf hb1 (by refine ⟨?_, ?_, ?_, ?_, ?_⟩ <;> go_simp)
  have B2 : Bk u1 (w.heap.size + 1 + 1) 0 0 := bkOf hb1 (by refine ⟨?_, ?_, ?_, ?_, ?_⟩ <;> go_simp)
  have B2' := B2
  obtain ⟨c0, c1, f0, f1, z1⟩ := B1
  obtain ⟨c2, c3, f2, f3, z2⟩ := B2
  obtain ⟨c4, c5, f4, f5, z4⟩ := B3
  go_wp2_with fail
  refine (C.out _).mono ?_
  rintro e u2 ⟨rfl, hb2⟩
  have B2 : Bk u2 (w.heap.size + 1 + 1) 0 0 := bkOf hb2 B2'
  clear c0 c1 f0 f1 z1 c2 c3 f2 f3 z2 c4 c5 f4 f5 z4
  obtain ⟨c2, c3, f2, f3, z2⟩ := B2
  go_wp2_with fail
  refine bodyPost_ret (v := _) (by simp [results, Try.results38, go_sem, c2, c3]) rfl ⟨rfl, ?_⟩
  repeat (first | exact Below.refl _ _ | refine bSet ?_ (by simp; omega) _ | refine bAlloc ?_ _ | refine Below.drew ?_ | refine bDrewN ?_ _ | refine bTrans ?_ hb2 | refine bTrans ?_ hb1)

/-- impl.MultiplyFractions. -/
theorem implMultiplyFractions_no (a b c d : Int) (w : World) (h : (okB a b && okB c d) = false) :
    Calls Try.prog 41 #[fr a b, fr c d] w fun e w' => e = .returned (.tuple #[fr 0 0, .int .i64 1]) ∧ Below w.heap.size w w' := by
  go_enter Try.func41, Try.ntmps41
  go_wp2_with fail
  refine (combined_no _ _ _ _ _ _ h).mono ?_
  rintro e u1 ⟨rfl, hb1⟩
  have B2 : Bk u1 (w.heap.size + 1 + 1) 0 0 := bkOf hb1 (by refine ⟨?_, ?_, ?_, ?_, ?_⟩ <;> go_simp)
  obtain ⟨c2, c3, f2, f3, z2⟩ := B2
  go_wp2_with fail
  refine bodyPost_ret (v := _) (by simp [results, Try.results41, go_sem, c2, c3]) rfl ⟨rfl, ?_⟩
  repeat (first | exact Below.refl _ _ | refine bSet ?_ (by simp; omega) _ | refine bAlloc ?_ _ | refine Below.drew ?_ | refine bDrewN ?_ _ | refine bTrans ?_ hb1)

theorem implMultiplyFractions_yes (a b c d : Int) (w : World) (h1 : okB a b = true) (h2 : okB c d = true) :
    Calls Try.prog 41 #[fr a b, fr c d] w fun e w' => e = .returned (fullV (a * c) (b * d)) ∧ Below w.heap.size w w' := by
  have k1 := okB_bd h1
  have k2 := okB_bd h2
  have m1 := mul_bd (x := a) (y := d) (m := 1000000) (k := 1000000) (by omega) (by omega) (by omega) (by omega)
  have m2 := mul_bd (x := c) (y := b) (m := 1000000) (k := 1000000) (by omega) (by omega) (by omega) (by omega)
  have m3 := mul_bd (x := b) (y := d) (m := 1000000) (k := 1000000) (by omega) (by omega) (by omega) (by omega)
  have m4 := mul_bd (x := a) (y := c) (m := 1000000) (k := 1000000) (by omega) (by omega) (by omega) (by omega)
  have m5 : 0 < b * d := Int.mul_pos (by omega) (by omega)
  obtain ⟨x, y, z, hV⟩ := fullV_form (a * c) (b * d)
  have C := Lib.hid (fun w => combined_times a b c d (a * c) (b * d) w h1 h2 (fun w => times_any a b c d w (by omega) (by omega) (by omega) (by omega) (by omega) (by omega) (by omega) (by omega)) (by omega) (by omega) (by omega) (by omega) (by omega))
  rw [hV] at C ⊢
  clear hV
  go_enter Try.func41, Try.ntmps41
  go_wp2_with fail
  refine (C.out _).mono ?_
  rintro e u1 ⟨rfl, hb1⟩
  have B2 : Bk u1 (w.heap.size + 1 + 1) 0 0 := bkOf hb1 (by refine ⟨?_, ?_, ?_, ?_, ?_⟩ <;> go_simp)
  obtain ⟨c2, c3, f2, f3, z2⟩ := B2
  go_wp2_with fail
  refine bodyPost_ret (v := _) (by simp [results, Try.results41, go_sem, c2, c3]) rfl ⟨rfl, ?_⟩
  repeat (first | exact Below.refl _ _ | refine bSet ?_ (by simp; omega) _ | refine bAlloc ?_ _ | refine Below.drew ?_ | refine bDrewN ?_ _ | refine bTrans ?_ hb1)

/-- spec.MultiplyFractions. -/
theorem specMultiplyFractions_no (a b c d : Int) (w : World) (ha : I64 a) (hc : I64 c) (h : (okB a b && okB c d) = false) :
    Calls Try.prog 40 #[fr a b, fr c d] w fun e w' => e = .returned (.tuple #[fr 0 0, .int .i64 1]) ∧ Below w.heap.size w w' := by
  go_enter Try.func40, Try.ntmps40
  go_wp2_with fail
  refine (l02Two_no _ _ _ _ _ ha hc h).mono ?_
  rintro e u1 ⟨rfl, hb1⟩
  have B2 : Bk u1 (w.heap.size + 1 + 1) 0 0 := bkOf hb1 (by refine ⟨?_, ?_, ?_, ?_, ?_⟩ <;> go_simp)
  obtain ⟨c2, c3, f2, f3, z2⟩ := B2
  go_wp2_with fail
  refine bodyPost_ret (v := _) (by simp [results, Try.results40, go_sem, c2, c3]) rfl ⟨rfl, ?_⟩
  repeat (first | exact Below.refl _ _ | refine bSet ?_ (by simp; omega) _ | refine bAlloc ?_ _ | refine Below.drew ?_ | refine bDrewN ?_ _ | refine bTrans ?_ hb1)

theorem specMultiplyFractions_yes (a b c d : Int) (w : World) (h1 : okB a b = true) (h2 : okB c d = true) :
    Calls Try.prog 40 #[fr a b, fr c d] w fun e w' => e = .returned (fullV (a * c) (b * d)) ∧ Below w.heap.size w w' := by
  have k1 := okB_bd h1
  have k2 := okB_bd h2
  have m1 := mul_bd (x := a) (y := d) (m := 1000000) (k := 1000000) (by omega) (by omega) (by omega) (by omega)
  have m2 := mul_bd (x := c) (y := b) (m := 1000000) (k := 1000000) (by omega) (by omega) (by omega) (by omega)
  have m3 := mul_bd (x := b) (y := d) (m := 1000000) (k := 1000000) (by omega) (by omega) (by omega) (by omega)
  have m4 := mul_bd (x := a) (y := c) (m := 1000000) (k := 1000000) (by omega) (by omega) (by omega) (by omega)
  have m5 : 0 < b * d := Int.mul_pos (by omega) (by omega)
  obtain ⟨x, y, z, hV⟩ := fullV_form (a * c) (b * d)
  have C := Lib.hid (fun w => l02Full_any (a * c) (b * d) w (by omega) (by omega) (by omega) (by omega))
  rw [hV] at C ⊢
  clear hV
  go_enter Try.func40, Try.ntmps40
  go_wp2_with fail
  refine (l02Two_yes _ _ _ _ _ h1 h2).mono ?_
  rintro e u1 ⟨rfl, hb1⟩
  have B1 : Bk u1 w.heap.size a b := bkOf hb1 (by refine ⟨?_, ?_, ?_, ?_, ?_⟩ <;> go_simp)
  have B3 : Bk u1 (w.heap.size + 1) c d := bkOf hb1 (by refine ⟨?_, ?_, ?_, ?_, ?_⟩ <;> go_simp)
  have B2 : Bk u1 (w.heap.size + 1 + 1) 0 0 := bkOf hb1 (by refine ⟨?_, ?_, ?_, ?_, ?_⟩ <;> go_simp)
  have B2' := B2
  obtain ⟨c0, c1, f0, f1, z1⟩ := B1
  obtain ⟨c2, c3, f2, f3, z2⟩ := B2
  obtain ⟨c4, c5, f4, f5, z4⟩ := B3
  go_wp2_with fail
  refine (C.out _).mono ?_
  rintro e u2 ⟨rfl, hb2⟩
  have B2 : Bk u2 (w.heap.size + 1 + 1) 0 0 := bkOf hb2 B2'
  clear c0 c1 f0 f1 z1 c2 c3 f2 f3 z2 c4 c5 f4 f5 z4
  obtain ⟨c2, c3, f2, f3, z2⟩ := B2
  go_wp2_with fail
  refine bodyPost_ret (v := _) (by simp [results, Try.results40, go_sem, c2, c3]) rfl ⟨rfl, ?_⟩
  repeat (first | exact Below.refl _ _ | refine bSet ?_ (by simp; omega) _ | refine bAlloc ?_ _ | refine Below.drew ?_ | refine bDrewN ?_ _ | refine bTrans ?_ hb2 | refine bTrans ?_ hb1)

/-- impl.BeatRate. -/
theorem implBeatRate_no (a b c d : Int) (w : World) (h : (okB a b && okB c d) = false) :
    Calls Try.prog 47 #[fr a b, fr c d] w fun e w' => e = .returned (.tuple #[fr 0 0, .int .i64 1]) ∧ Below w.heap.size w w' := by
  go_enter Try.func47, Try.ntmps47
  go_wp2_with fail
  refine (combined_no _ _ _ _ _ _ h).mono ?_
  rintro e u1 ⟨rfl, hb1⟩
  have B2 : Bk u1 (w.heap.size + 1 + 1) 0 0 := bkOf hb1 (by refine ⟨?_, ?_, ?_, ?_, ?_⟩ <;> go_simp)
  obtain ⟨c2, c3, f2, f3, z2⟩ := B2
  go_wp2_with fail
  refine bodyPost_ret (v := _) (by simp [results, Try.results47, go_sem, c2, c3]) rfl ⟨rfl, ?_⟩
  repeat (first | exact Below.refl _ _ | refine bSet ?_ (by simp; omega) _ | refine bAlloc ?_ _ | refine Below.drew ?_ | refine bDrewN ?_ _ | refine bTrans ?_ hb1)

theorem implBeatRate_yes (a b c d : Int) (w : World) (h1 : okB a b = true) (h2 : okB c d = true) :
    Calls Try.prog 47 #[fr a b, fr c d] w fun e w' => e = .returned (fullV (((a * d - c * b).natAbs : Nat) : Int) (b * d)) ∧ Below w.heap.size w w' := by
  have k1 := okB_bd h1
  have k2 := okB_bd h2
  have m1 := mul_bd (x := a) (y := d) (m := 1000000) (k := 1000000) (by omega) (by omega) (by omega) (by omega)
  have m2 := mul_bd (x := c) (y := b) (m := 1000000) (k := 1000000) (by omega) (by omega) (by omega) (by omega)
  have m3 := mul_bd (x := b) (y := d) (m := 1000000) (k := 1000000) (by omega) (by omega) (by omega) (by omega)
  have m4 := mul_bd (x := a) (y := c) (m := 1000000) (k := 1000000) (by omega) (by omega) (by omega) (by omega)
  have m5 : 0 < b * d := Int.mul_pos (by omega) (by omega)
  obtain ⟨x, y, z, hV⟩ := fullV_form (((a * d - c * b).natAbs : Nat) : Int) (b * d)
  have C := Lib.hid (fun w => combined_apart a b c d (((a * d - c * b).natAbs : Nat) : Int) (b * d) w h1 h2 (fun w => apart_any a b c d w h1 h2) (by omega) (by omega) (by omega) (by omega) (by omega))
  rw [hV] at C ⊢
  clear hV
  go_enter Try.func47, Try.ntmps47
  go_wp2_with fail
  refine (C.out _).mono ?_
  rintro e u1 ⟨rfl, hb1⟩
  have B2 : Bk u1 (w.heap.size + 1 + 1) 0 0 := bkOf hb1 (by refine ⟨?_, ?_, ?_, ?_, ?_⟩ <;> go_simp)
  obtain ⟨c2, c3, f2, f3, z2⟩ := B2
  go_wp2_with fail
  refine bodyPost_ret (v := _) (by simp [results, Try.results47, go_sem, c2, c3]) rfl ⟨rfl, ?_⟩
  repeat (first | exact Below.refl _ _ | refine bSet ?_ (by simp; omega) _ | refine bAlloc ?_ _ | refine Below.drew ?_ | refine bDrewN ?_ _ | refine bTrans ?_ hb1)

/-- spec.BeatRate. -/
theorem specBeatRate_no (a b c d : Int) (w : World) (ha : I64 a) (hc : I64 c) (h : (okB a b && okB c d) = false) :
    Calls Try.prog 46 #[fr a b, fr c d] w fun e w' => e = .returned (.tuple #[fr 0 0, .int .i64 1]) ∧ Below w.heap.size w w' := by
  go_enter Try.func46, Try.ntmps46
  go_wp2_with fail
  refine (l02Two_no _ _ _ _ _ ha hc h).mono ?_
  rintro e u1 ⟨rfl, hb1⟩
  have B2 : Bk u1 (w.heap.size + 1 + 1) 0 0 := bkOf hb1 (by refine ⟨?_, ?_, ?_, ?_, ?_⟩ <;> go_simp)
  obtain ⟨c2, c3, f2, f3, z2⟩ := B2
  go_wp2_with fail
  refine bodyPost_ret (v := _) (by simp [results, Try.results46, go_sem, c2, c3]) rfl ⟨rfl, ?_⟩
  repeat (first | exact Below.refl _ _ | refine bSet ?_ (by simp; omega) _ | refine bAlloc ?_ _ | refine Below.drew ?_ | refine bDrewN ?_ _ | refine bTrans ?_ hb1)

theorem specBeatRate_yes (a b c d : Int) (w : World) (h1 : okB a b = true) (h2 : okB c d = true) :
    Calls Try.prog 46 #[fr a b, fr c d] w fun e w' => e = .returned (fullV (((a * d - c * b).natAbs : Nat) : Int) (b * d)) ∧ Below w.heap.size w w' := by
  have k1 := okB_bd h1
  have k2 := okB_bd h2
  have m1 := mul_bd (x := a) (y := d) (m := 1000000) (k := 1000000) (by omega) (by omega) (by omega) (by omega)
  have m2 := mul_bd (x := c) (y := b) (m := 1000000) (k := 1000000) (by omega) (by omega) (by omega) (by omega)
  have m3 := mul_bd (x := b) (y := d) (m := 1000000) (k := 1000000) (by omega) (by omega) (by omega) (by omega)
  have m4 := mul_bd (x := a) (y := c) (m := 1000000) (k := 1000000) (by omega) (by omega) (by omega) (by omega)
  have m5 : 0 < b * d := Int.mul_pos (by omega) (by omega)
  obtain ⟨x, y, z, hV⟩ := fullV_form (((a * d - c * b).natAbs : Nat) : Int) (b * d)
  have C := Lib.hid (fun w => l02Full_any (((a * d - c * b).natAbs : Nat) : Int) (b * d) w (by omega) (by omega) (by omega) (by omega))
  rw [hV] at C ⊢
  clear hV
  go_enter Try.func46, Try.ntmps46
  go_wp2_with fail
  refine (l02Two_yes _ _ _ _ _ h1 h2).mono ?_
  rintro e u1 ⟨rfl, hb1⟩
  have B1 : Bk u1 w.heap.size a b := bkOf hb1 (by refine ⟨?_, ?_, ?_, ?_, ?_⟩ <;> go_simp)
  have B3 : Bk u1 (w.heap.size + 1) c d := bkOf hb1 (by refine ⟨?_, ?_, ?_, ?_, ?_⟩ <;> go_simp)
  have B2 : Bk u1 (w.heap.size + 1 + 1) 0 0 := bkOf hb1 (by refine ⟨?_, ?_, ?_, ?_, ?_⟩ <;> go_simp)
  have B2' := B2
  obtain ⟨c0, c1, f0, f1, z1⟩ := B1
  obtain ⟨c2, c3, f2, f3, z2⟩ := B2
  obtain ⟨c4, c5, f4, f5, z4⟩ := B3
  go_wp2_with fail
  have e1 : IntKind.i64.wrap (a * d) = a * d := IntWalk.i64_in _ (by omega)
  have e2 : IntKind.i64.wrap (c * b) = c * b := IntWalk.i64_in _ (by omega)
  have e3 : IntKind.i64.wrap (b * d) = b * d := IntWalk.i64_in _ (by omega)
  have e4 : IntKind.i64.wrap (a * d - c * b) = a * d - c * b := IntWalk.i64_in _ (by omega)
  have ne1 : ¬ w.heap.size = w.heap.size + 1 + 1 := by omega
  have ne2 : ¬ w.heap.size + 1 + 1 = w.heap.size := by omega
  go_region_held3 (fun w' => w'.cell? ⟨w.heap.size, 0, none⟩ = some (.int .i64 a) ∧ w'.cell? ⟨w.heap.size, 1, none⟩ = some (.int .i64 b) ∧ w'.cell? ⟨w.heap.size + 1, 0, none⟩ = some (.int .i64 c) ∧ w'.cell? ⟨w.heap.size + 1, 1, none⟩ = some (.int .i64 d)) (go_keep)
    (first | (go_at_call 76; refine (l00Size_any _ _ (by omega) (by omega)).mono ?_; rintro e u ⟨rfl, rfl⟩) | (go_at_call 73; refine (C.out _).mono ?_; rintro e u2 ⟨rfl, hb2⟩; have B1 : Bk u2 w.heap.size a b := bkOf hb2 (by refine ⟨?_, ?_, ?_, ?_, ?_⟩ <;> go_simp); have B2 : Bk u2 (w.heap.size + 1) c d := bkOf hb2 (by refine ⟨?_, ?_, ?_, ?_, ?_⟩ <;> go_simp); have B3 : Bk u2 (w.heap.size + 1 + 1) 0 0 := bkOf hb2 (by refine ⟨?_, ?_, ?_, ?_, ?_⟩ <;> go_simp); obtain ⟨i0, i1, j0, j1, l1⟩ := B1; obtain ⟨i2, i3, j2, j3, l2⟩ := B2; obtain ⟨i4, i5, j4, j5, l3⟩ := B3))
  all_goals go_wp2
  refine bodyPost_ret (v := _) (by simp [results, Try.results46, go_sem, i4, i5]) rfl ⟨rfl, ?_⟩
  repeat (first | exact Below.refl _ _ | refine bSet ?_ (by simp; omega) _ | refine bAlloc ?_ _ | refine Below.drew ?_ | refine bDrewN ?_ _ | refine bTrans ?_ hb2 | refine bTrans ?_ hb1)

end Go.Proofs.Ytmhnceddhmdfoaa
