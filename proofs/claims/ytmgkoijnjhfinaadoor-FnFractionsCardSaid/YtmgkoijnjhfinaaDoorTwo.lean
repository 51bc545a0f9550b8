/- Sums, products and beats, in the program and in the model. -/
import Derived.Test.YtmgkoijnjhfinaaDoorProg
import Derived.Test.YtmgkoijnjhfinaaDoorOps
import Derived.Deep.RegionWith
import Derived.Deep.DrawnRows
import Derived.Laws.StructEq
import Derived.Tactics
import Derived.Tactics2
import Derived.WalkKit
import Derived.LoopTactic
import Derived.BigQuiet
import Derived.RegionTactic
import Derived.BigRegion
import Derived.ChangeAlike
import Derived.Deep.QuietTactic
import Derived.Deep.RegionHeld3
import Derived.Deep.DeepCutAuto
import Derived.Outline
import Derived.Lib.Hide
import Derived.Below
import Derived.KernelRfl
namespace Go.Proofs.YtmgkoijnjhfinaaDoor
set_option linter.unusedSimpArgs false
set_option linter.unusedVariables false
open Go.RowKit

theorem fullV_form (n m : Int) : ∃ x y z : Int, fullV n m = .tuple #[fr x y, .int .i64 z] := by
  cases h : fullB n m
  · exact ⟨_, _, _, fullV_no h⟩
  · exact ⟨_, _, _, fullV_yes h⟩

/-- impl.AddFractions. -/
theorem implAddFractions_no (a b c d : Int) (w : World) (h : (okB a b && okB c d) = false) :
    Calls Tryd.prog 8 #[fr a b, fr c d] w fun e w' => e = .returned (.tuple #[fr 0 0, .int .i64 1]) ∧ Below w.heap.size w w' := by
  go_enter Tryd.func8, Tryd.ntmps8
  go_wp2_with fail
  refine (combined_no _ _ _ _ _ _ h).mono ?_
  rintro e u1 ⟨rfl, hb1⟩
  have B2 : Bk u1 (w.heap.size + 1 + 1) 0 0 := bkOf hb1 (by refine ⟨?_, ?_, ?_, ?_, ?_⟩ <;> go_simp)
  obtain ⟨c2, c3, f2, f3, z2⟩ := B2
  go_wp2_with fail
  refine bodyPost_ret (v := _) (by simp [results, Tryd.results8, go_sem, c2, c3]) rfl ⟨rfl, ?_⟩
  repeat (first | exact Below.refl _ _ | refine bSet ?_ (by simp; omega) _ | refine bAlloc ?_ _ | refine Below.drew ?_ | refine bDrewN ?_ _ | refine bTrans ?_ hb1)

theorem implAddFractions_yes (a b c d : Int) (w : World) (h1 : okB a b = true) (h2 : okB c d = true) :
    Calls Tryd.prog 8 #[fr a b, fr c d] w fun e w' => e = .returned (fullV (a * d + c * b) (b * d)) ∧ Below w.heap.size w w' := by
  have k1 := okB_bd h1
  have k2 := okB_bd h2
  have m1 := mul_bd (x := a) (y := d) (m := 1000000) (k := 1000000) (by omega) (by omega) (by omega) (by omega)
  have m2 := mul_bd (x := c) (y := b) (m := 1000000) (k := 1000000) (by omega) (by omega) (by omega) (by omega)
  have m3 := mul_bd (x := b) (y := d) (m := 1000000) (k := 1000000) (by omega) (by omega) (by omega) (by omega)
  have m4 := mul_bd (x := a) (y := c) (m := 1000000) (k := 1000000) (by omega) (by omega) (by omega) (by omega)
  have m5 : 0 < b * d := Int.mul_pos (by omega) (by omega)
  obtain ⟨x, y, z, hV⟩ := fullV_form (a * d + c * b) (b * d)
  have C := Lib.hid (fun w => combined_plus a b c d (a * d + c * b) (b * d) w h1 h2 (fun w => plus_any a b c d w h1 h2) (by omega) (by omega) (by omega) (by omega) (by omega))
  rw [hV] at C ⊢
  clear hV
  go_enter Tryd.func8, Tryd.ntmps8
  go_wp2_with fail
  refine (C.out _).mono ?_
  rintro e u1 ⟨rfl, hb1⟩
  have B2 : Bk u1 (w.heap.size + 1 + 1) 0 0 := bkOf hb1 (by refine ⟨?_, ?_, ?_, ?_, ?_⟩ <;> go_simp)
  obtain ⟨c2, c3, f2, f3, z2⟩ := B2
  go_wp2_with fail
  refine bodyPost_ret (v := _) (by simp [results, Tryd.results8, go_sem, c2, c3]) rfl ⟨rfl, ?_⟩
  repeat (first | exact Below.refl _ _ | refine bSet ?_ (by simp; omega) _ | refine bAlloc ?_ _ | refine Below.drew ?_ | refine bDrewN ?_ _ | refine bTrans ?_ hb1)

/-- impl.MultiplyFractions. -/
theorem implMultiplyFractions_no (a b c d : Int) (w : World) (h : (okB a b && okB c d) = false) :
    Calls Tryd.prog 9 #[fr a b, fr c d] w fun e w' => e = .returned (.tuple #[fr 0 0, .int .i64 1]) ∧ Below w.heap.size w w' := by
  go_enter Tryd.func9, Tryd.ntmps9
  go_wp2_with fail
  refine (combined_no _ _ _ _ _ _ h).mono ?_
  rintro e u1 ⟨rfl, hb1⟩
  have B2 : Bk u1 (w.heap.size + 1 + 1) 0 0 := bkOf hb1 (by refine ⟨?_, ?_, ?_, ?_, ?_⟩ <;> go_simp)
  obtain ⟨c2, c3, f2, f3, z2⟩ := B2
  go_wp2_with fail
  refine bodyPost_ret (v := _) (by simp [results, Tryd.results9, go_sem, c2, c3]) rfl ⟨rfl, ?_⟩
  repeat (first | exact Below.refl _ _ | refine bSet ?_ (by simp; omega) _ | refine bAlloc ?_ _ | refine Below.drew ?_ | refine bDrewN ?_ _ | refine bTrans ?_ hb1)

theorem implMultiplyFractions_yes (a b c d : Int) (w : World) (h1 : okB a b = true) (h2 : okB c d = true) :
    Calls Tryd.prog 9 #[fr a b, fr c d] w fun e w' => e = .returned (fullV (a * c) (b * d)) ∧ Below w.heap.size w w' := by
  have k1 := okB_bd h1
  have k2 := okB_bd h2
  have m1 := mul_bd (x := a) (y := d) (m := 1000000) (k := 1000000) (by omega) (by omega) (by omega) (by omega)
  have m2 := mul_bd (x := c) (y := b) (m := 1000000) (k := 1000000) (by omega) (by omega) (by omega) (by omega)
  have m3 := mul_bd (x := b) (y := d) (m := 1000000) (k := 1000000) (by omega) (by omega) (by omega) (by omega)
  have m4 := mul_bd (x := a) (y := c) (m := 1000000) (k := 1000000) (by omega) (by omega) (by omega) (by omega)
  have m5 : 0 < b * d := Int.mul_pos (by omega) (by omega)
  obtain ⟨x, y, z, hV⟩ := fullV_form (a * c) (b * d)
  have C := Lib.hid (fun w => combined_times a b c d (a * c) (b * d) w h1 h2 (fun w => times_any a b c d w (by omega) (by omega) (by omega) (by omega) (by omega) (by omega) (by omega) (by omega)) (by omega) (by omega) (by omega) (by omega) (by omega))
  rw [hV] at C ⊢
  clear hV
  go_enter Tryd.func9, Tryd.ntmps9
  go_wp2_with fail
  refine (C.out _).mono ?_
  rintro e u1 ⟨rfl, hb1⟩
  have B2 : Bk u1 (w.heap.size + 1 + 1) 0 0 := bkOf hb1 (by refine ⟨?_, ?_, ?_, ?_, ?_⟩ <;> go_simp)
  obtain ⟨c2, c3, f2, f3, z2⟩ := B2
  go_wp2_with fail
  refine bodyPost_ret (v := _) (by simp [results, Tryd.results9, go_sem, c2, c3]) rfl ⟨rfl, ?_⟩
  repeat (first | exact Below.refl _ _ | refine bSet ?_ (by simp; omega) _ | refine bAlloc ?_ _ | refine Below.drew ?_ | refine bDrewN ?_ _ | refine bTrans ?_ hb1)

/-- impl.BeatRate. -/
theorem implBeatRate_no (a b c d : Int) (w : World) (h : (okB a b && okB c d) = false) :
    Calls Tryd.prog 12 #[fr a b, fr c d] w fun e w' => e = .returned (.tuple #[fr 0 0, .int .i64 1]) ∧ Below w.heap.size w w' := by
  go_enter Tryd.func12, Tryd.ntmps12
  go_wp2_with fail
  refine (combined_no _ _ _ _ _ _ h).mono ?_
  rintro e u1 ⟨rfl, hb1⟩
  have B2 : Bk u1 (w.heap.size + 1 + 1) 0 0 := bkOf hb1 (by refine ⟨?_, ?_, ?_, ?_, ?_⟩ <;> go_simp)
  obtain ⟨c2, c3, f2, f3, z2⟩ := B2
  go_wp2_with fail
  refine bodyPost_ret (v := _) (by simp [results, Tryd.results12, go_sem, c2, c3]) rfl ⟨rfl, ?_⟩
  repeat (first | exact Below.refl _ _ | refine bSet ?_ (by simp; omega) _ | refine bAlloc ?_ _ | refine Below.drew ?_ | refine bDrewN ?_ _ | refine bTrans ?_ hb1)

theorem implBeatRate_yes (a b c d : Int) (w : World) (h1 : okB a b = true) (h2 : okB c d = true) :
    Calls Tryd.prog 12 #[fr a b, fr c d] w fun e w' => e = .returned (fullV (((a * d - c * b).natAbs : Nat) : Int) (b * d)) ∧ Below w.heap.size w w' := by
  have k1 := okB_bd h1
  have k2 := okB_bd h2
  have m1 := mul_bd (x := a) (y := d) (m := 1000000) (k := 1000000) (by omega) (by omega) (by omega) (by omega)
  have m2 := mul_bd (x := c) (y := b) (m := 1000000) (k := 1000000) (by omega) (by omega) (by omega) (by omega)
  have m3 := mul_bd (x := b) (y := d) (m := 1000000) (k := 1000000) (by omega) (by omega) (by omega) (by omega)
  have m4 := mul_bd (x := a) (y := c) (m := 1000000) (k := 1000000) (by omega) (by omega) (by omega) (by omega)
  have m5 : 0 < b * d := Int.mul_pos (by omega) (by omega)
  obtain ⟨x, y, z, hV⟩ := fullV_form (((a * d - c * b).natAbs : Nat) : Int) (b * d)
  have C := Lib.hid (fun w => combined_apart a b c d (((a * d - c * b).natAbs : Nat) : Int) (b * d) w h1 h2 (fun w => apart_any a b c d w h1 h2) (by omega) (by omega) (by omega) (by omega) (by omega))
  rw [hV] at C ⊢
  clear hV
  go_enter Tryd.func12, Tryd.ntmps12
  go_wp2_with fail
  refine (C.out _).mono ?_
  rintro e u1 ⟨rfl, hb1⟩
  have B2 : Bk u1 (w.heap.size + 1 + 1) 0 0 := bkOf hb1 (by refine ⟨?_, ?_, ?_, ?_, ?_⟩ <;> go_simp)
  obtain ⟨c2, c3, f2, f3, z2⟩ := B2
  go_wp2_with fail
  refine bodyPost_ret (v := _) (by simp [results, Tryd.results12, go_sem, c2, c3]) rfl ⟨rfl, ?_⟩
  repeat (first | exact Below.refl _ _ | refine bSet ?_ (by simp; omega) _ | refine bAlloc ?_ _ | refine Below.drew ?_ | refine bDrewN ?_ _ | refine bTrans ?_ hb1)

end Go.Proofs.YtmgkoijnjhfinaaDoor
