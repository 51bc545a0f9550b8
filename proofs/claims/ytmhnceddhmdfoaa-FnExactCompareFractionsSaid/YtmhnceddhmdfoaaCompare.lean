/- The order of two fractions: in the program and in the model; and its statement's walk. -/
import Derived.Test.YtmhnceddhmdfoaaProg
import Derived.Test.YtmhnceddhmdfoaaLaws2
import Derived.Deep.RegionWith
import Derived.Deep.DrawnRows
import Derived.Laws.StructEq
import Derived.Deep.DeepCutAuto
import Derived.Tactics
import Derived.Tactics2
import Derived.WalkKit
import Derived.LoopTactic
import Derived.BigQuiet
import Derived.RegionTactic
import Derived.BigRegion
import Derived.ChangeAlike
import Derived.Deep.QuietTactic
import Derived.Deep.RegionHeld3
import Derived.Deep.DeepCutAuto
import Derived.Outline
import Derived.Lib.Hide
import Derived.Below
import Derived.KernelRfl
namespace Go.Proofs.Ytmhnceddhmdfoaa
set_option linter.unusedSimpArgs false
set_option linter.unusedVariables false
open Go.RowKit
attribute [local go_sem ↓] Go.wp_at_zero Go.wp_at_succ

theorem specCompare_no (a b c d : Int) (w : World) (ha : I64 a) (hc : I64 c) (h : (okB a b && okB c d) = false) :
    Calls Try.prog 42 #[fr a b, fr c d] w fun e w' => e = .returned (.tuple #[.int .i64 0, .int .i64 1]) ∧ Below w.heap.size w w' := by
  go_enter Try.func42, Try.ntmps42
  go_wp2_with fail
  refine (l02Two_no _ _ _ _ _ ha hc h).mono ?_
  rintro e u1 ⟨rfl, hb1⟩
  go_wp2_with fail
  go_ret2
  refine ⟨rfl, ?_⟩
  repeat (first | exact Below.refl _ _ | refine bSet ?_ (by first | (simp; done) | (simp; omega)) _ | refine bAlloc ?_ _ | refine Below.drew ?_ | refine bDrewN ?_ _ | assumption | refine bTrans ?_ hb1)

theorem implCompare_no (a b c d : Int) (w : World) (h : (okB a b && okB c d) = false) :
    Calls Try.prog 43 #[fr a b, fr c d] w fun e w' => e = .returned (.tuple #[.int .i64 0, .int .i64 1]) ∧ Below w.heap.size w w' := by
  cases h1 : okB a b
  · clear h
    go_enter Try.func43, Try.ntmps43
    go_wp2_with fail
    refine (validFraction_any _ _ _).mono ?_
    rintro e u1 ⟨rfl, hb1⟩
    go_wp2_with fail
    go_ret2
    refine ⟨rfl, ?_⟩
    repeat (first | exact Below.refl _ _ | refine bSet ?_ (by first | (simp; done) | (simp; omega)) _ | refine bAlloc ?_ _ | refine Below.drew ?_ | refine bDrewN ?_ _ | assumption | refine bTrans ?_ hb1)
  · rw [h1, Bool.true_and] at h
    go_enter Try.func43, Try.ntmps43
    go_wp2_with fail
    refine (validFraction_any _ _ _).mono ?_
    rintro e u1 ⟨rfl, hb1⟩
    have B1 : Bk u1 (w.heap.size + 1) c d := bkOf hb1 (by refine ⟨?_, ?_, ?_, ?_, ?_⟩ <;> go_simp)
    obtain ⟨c0, c1, f0, f1, z1⟩ := B1
    go_wp2_with fail
    refine (validFraction_any _ _ _).mono ?_
    rintro e u2 ⟨rfl, hb2⟩
    go_wp2_with fail
    go_ret2
    refine ⟨rfl, ?_⟩
    repeat (first | exact Below.refl _ _ | refine bSet ?_ (by first | (simp; done) | (simp; omega)) _ | refine bAlloc ?_ _ | refine Below.drew ?_ | refine bDrewN ?_ _ | assumption | refine bTrans ?_ hb2 | refine bTrans ?_ hb1)

theorem specCompare_yes (a b c d r : Int) (w : World) (h1 : okB a b = true) (h2 : okB c d = true) (hr : (a * d < c * b ∧ r = -1) ∨ (c * b < a * d ∧ r = 1) ∨ (a * d = c * b ∧ r = 0)) :
    Calls Try.prog 42 #[fr a b, fr c d] w fun e w' => e = .returned (.tuple #[.int .i64 r, .int .i64 0]) ∧ Below w.heap.size w w' := by
  have k1 := okB_bd h1
  have k2 := okB_bd h2
  have m1 := mul_bd (x := a) (y := d) (m := 1000000) (k := 1000000) (by omega) (by omega) (by omega) (by omega)
  have m2 := mul_bd (x := c) (y := b) (m := 1000000) (k := 1000000) (by omega) (by omega) (by omega) (by omega)
  have hr' : (a * d < c * b ∧ r = -1) ∨ (¬ a * d < c * b ∧ c * b < a * d ∧ r = 1) ∨ (¬ a * d < c * b ∧ ¬ c * b < a * d ∧ r = 0) := by omega
  clear hr
  rcases hr' with ⟨r1, rfl⟩ | ⟨r1, r2, rfl⟩ | ⟨r1, r2, rfl⟩
  all_goals
    go_enter Try.func42, Try.ntmps42
    go_wp2_with fail
    refine (l02Two_yes _ _ _ _ _ h1 h2).mono ?_
    rintro e u2 ⟨rfl, hb2⟩
    have B1 : Bk u2 w.heap.size a b := bkOf hb2 (by refine ⟨?_, ?_, ?_, ?_, ?_⟩ <;> go_simp)
    have B2 : Bk u2 (w.heap.size + 1) c d := bkOf hb2 (by refine ⟨?_, ?_, ?_, ?_, ?_⟩ <;> go_simp)
    obtain ⟨c0, c1, f0, f1, z1⟩ := B1
    obtain ⟨c2, c3, f2, f3, z2⟩ := B2
    go_wp2_with fail
    go_ret2
    refine ⟨rfl, ?_⟩
    repeat (first | exact Below.refl _ _ | refine bSet ?_ (by first | (simp; done) | (simp; omega)) _ | refine bAlloc ?_ _ | refine Below.drew ?_ | refine bDrewN ?_ _ | assumption | refine bTrans ?_ hb2)

theorem implCompare_yes (a b c d r : Int) (w : World) (h1 : okB a b = true) (h2 : okB c d = true) (hr : (a * d < c * b ∧ r = -1) ∨ (c * b < a * d ∧ r = 1) ∨ (a * d = c * b ∧ r = 0)) :
    Calls Try.prog 43 #[fr a b, fr c d] w fun e w' => e = .returned (.tuple #[.int .i64 r, .int .i64 0]) ∧ Below w.heap.size w w' := by
  have k1 := okB_bd h1
  have k2 := okB_bd h2
  have m1 := mul_bd (x := a) (y := d) (m := 1000000) (k := 1000000) (by omega) (by omega) (by omega) (by omega)
  have m2 := mul_bd (x := c) (y := b) (m := 1000000) (k := 1000000) (by omega) (by omega) (by omega) (by omega)
  have hr' : (a * d < c * b ∧ r = -1) ∨ (¬ a * d < c * b ∧ c * b < a * d ∧ r = 1) ∨ (¬ a * d < c * b ∧ ¬ c * b < a * d ∧ r = 0) := by omega
  clear hr
  rcases hr' with ⟨r1, rfl⟩ | ⟨r1, r2, rfl⟩ | ⟨r1, r2, rfl⟩
  all_goals
    go_enter Try.func43, Try.ntmps43
    go_wp2_with fail
    refine (validFraction_any _ _ _).mono ?_
    rintro e u1 ⟨rfl, hb1⟩
    have B1 : Bk u1 w.heap.size a b := bkOf hb1 (by refine ⟨?_, ?_, ?_, ?_, ?_⟩ <;> go_simp)
    have B2 : Bk u1 (w.heap.size + 1) c d := bkOf hb1 (by refine ⟨?_, ?_, ?_, ?_, ?_⟩ <;> go_simp)
    have B1' := B1
    have B2' := B2
    obtain ⟨c0, c1, f0, f1, z1⟩ := B1
    obtain ⟨c2, c3, f2, f3, z2⟩ := B2
    go_wp2_with fail
    refine (validFraction_any _ _ _).mono ?_
    rintro e u2 ⟨rfl, hb2⟩
    have B1' := bkOf hb2 B1'
    have B2' := bkOf hb2 B2'
    clear c0 c1 f0 f1 z1 c2 c3 f2 f3 z2
    obtain ⟨c0, c1, f0, f1, z1⟩ := B1'
    obtain ⟨c2, c3, f2, f3, z2⟩ := B2'
    go_wp2_with fail
    go_quiet (fail)
    go_wp2_with fail
    go_ret2
    refine ⟨rfl, ?_⟩
    repeat (first | exact Below.refl _ _ | refine bSet ?_ (by first | (simp; done) | (simp; omega)) _ | refine bAlloc ?_ _ | refine Below.drew ?_ | refine bDrewN ?_ _ | assumption | refine bTrans ?_ hb2 | refine bTrans ?_ hb1)

theorem lawCompare_of (a b c d x y : Int) (w : World)
    (hs : ∀ w : World, Calls Try.prog 42 #[fr a b, fr c d] w fun e w' => e = .returned (.tuple #[.int .i64 x, .int .i64 y]) ∧ Below w.heap.size w w')
    (hi : ∀ w : World, Calls Try.prog 43 #[fr a b, fr c d] w fun e w' => e = .returned (.tuple #[.int .i64 x, .int .i64 y]) ∧ Below w.heap.size w w') :
    Calls Try.prog 11 #[fr a b, fr c d] w fun e w' => e = .returned (.bool true) ∧ Below w.heap.size w w' := by
  have S := Lib.hid hs
  have I := Lib.hid hi
  clear hs hi
  go_enter Try.func11, Try.ntmps11
  go_upto_region 1 with fail
  go_cut [5, 6] (fun s5 s6 wx => s5 = .int .i64 x ∧ s6 = .int .i64 y ∧ Bk wx w.heap.size a b ∧ Bk wx (w.heap.size + 1) c d ∧ Below w.heap.size w wx)
  case first =>
    go_region_held3 (fun w' => w'.cell? ⟨w.heap.size, 0, none⟩ = some (.int .i64 a) ∧ w'.cell? ⟨w.heap.size, 1, none⟩ = some (.int .i64 b) ∧ w'.cell? ⟨w.heap.size + 1, 0, none⟩ = some (.int .i64 c) ∧ w'.cell? ⟨w.heap.size + 1, 1, none⟩ = some (.int .i64 d)) (go_keep)
      (first | (go_at_call_of 33 (Value.agg #[.int .i64 a, .int .i64 b]); refine (toFraction_any _ _ _).mono ?_; rintro e uA ⟨rfl, hbA⟩; have B1 : Bk uA w.heap.size a b := bkOf hbA (by refine ⟨?_, ?_, ?_, ?_, ?_⟩ <;> go_simp); have B2 : Bk uA (w.heap.size + 1) c d := bkOf hbA (by refine ⟨?_, ?_, ?_, ?_, ?_⟩ <;> go_simp); obtain ⟨iuA0, iuA1, juA0, juA1, luA1⟩ := B1; obtain ⟨iuA2, iuA3, juA2, juA3, luA2⟩ := B2; obtain ⟨puA0, puA1, puA2, puA3⟩ := neOf luA2) | (go_at_call_of 33 (Value.agg #[.int .i64 c, .int .i64 d]); refine (toFraction_any _ _ _).mono ?_; rintro e uB ⟨rfl, hbB⟩; have B1 : Bk uB w.heap.size a b := bkOf hbB (by refine ⟨?_, ?_, ?_, ?_, ?_⟩ <;> go_simp); have B2 : Bk uB (w.heap.size + 1) c d := bkOf hbB (by refine ⟨?_, ?_, ?_, ?_, ?_⟩ <;> go_simp); obtain ⟨iuB0, iuB1, juB0, juB1, luB1⟩ := B1; obtain ⟨iuB2, iuB3, juB2, juB3, luB2⟩ := B2; obtain ⟨puB0, puB1, puB2, puB3⟩ := neOf luB2) | (go_at_call 42; refine (S.out _).mono ?_; rintro e uC ⟨rfl, hbC⟩; have B1 : Bk uC w.heap.size a b := bkOf hbC (by refine ⟨?_, ?_, ?_, ?_, ?_⟩ <;> go_simp); have B2 : Bk uC (w.heap.size + 1) c d := bkOf hbC (by refine ⟨?_, ?_, ?_, ?_, ?_⟩ <;> go_simp); obtain ⟨iuC0, iuC1, juC0, juC1, luC1⟩ := B1; obtain ⟨iuC2, iuC3, juC2, juC3, luC2⟩ := B2; obtain ⟨puC0, puC1, puC2, puC3⟩ := neOf luC2))
    all_goals go_wp2_with fail
    all_goals go_meet
    all_goals refine ⟨rfl, rfl, (by refine ⟨?_, ?_, ?_, ?_, ?_⟩ <;> go_simp), (by refine ⟨?_, ?_, ?_, ?_, ?_⟩ <;> go_simp), ?_⟩
    all_goals repeat (first | exact Below.refl _ _ | refine bSet ?_ (by first | (simp; done) | (simp; omega)) _ | refine bAlloc ?_ _ | refine Below.drew ?_ | refine bDrewN ?_ _ | assumption | refine bTrans ?_ hbC | refine bTrans ?_ hbB | refine bTrans ?_ hbA)
  case rest =>
    obtain ⟨rfl, rfl, B1, B2, hb⟩ := hcut
    obtain ⟨i0, i1, j0, j1, l1⟩ := B1
    obtain ⟨i2, i3, j2, j3, l2⟩ := B2
    go_upto_region 2 with fail
    go_cut [7, 8] (fun s7 s8 wx => s7 = .int .i64 x ∧ s8 = .int .i64 y ∧ Below w.heap.size w wx)
    case first =>
      go_region_held3 (fun w' => w'.cell? ⟨w.heap.size, 0, none⟩ = some (.int .i64 a) ∧ w'.cell? ⟨w.heap.size, 1, none⟩ = some (.int .i64 b) ∧ w'.cell? ⟨w.heap.size + 1, 0, none⟩ = some (.int .i64 c) ∧ w'.cell? ⟨w.heap.size + 1, 1, none⟩ = some (.int .i64 d)) (go_keep)
        (first | (go_at_call_of 33 (Value.agg #[.int .i64 a, .int .i64 b]); refine (toFraction_any _ _ _).mono ?_; rintro e uA ⟨rfl, hbA⟩; have B1 : Bk uA w.heap.size a b := bkOf hbA (by refine ⟨?_, ?_, ?_, ?_, ?_⟩ <;> go_simp); have B2 : Bk uA (w.heap.size + 1) c d := bkOf hbA (by refine ⟨?_, ?_, ?_, ?_, ?_⟩ <;> go_simp); obtain ⟨iuA0, iuA1, juA0, juA1, luA1⟩ := B1; obtain ⟨iuA2, iuA3, juA2, juA3, luA2⟩ := B2; obtain ⟨puA0, puA1, puA2, puA3⟩ := neOf luA2) | (go_at_call_of 33 (Value.agg #[.int .i64 c, .int .i64 d]); refine (toFraction_any _ _ _).mono ?_; rintro e uB ⟨rfl, hbB⟩; have B1 : Bk uB w.heap.size a b := bkOf hbB (by refine ⟨?_, ?_, ?_, ?_, ?_⟩ <;> go_simp); have B2 : Bk uB (w.heap.size + 1) c d := bkOf hbB (by refine ⟨?_, ?_, ?_, ?_, ?_⟩ <;> go_simp); obtain ⟨iuB0, iuB1, juB0, juB1, luB1⟩ := B1; obtain ⟨iuB2, iuB3, juB2, juB3, luB2⟩ := B2; obtain ⟨puB0, puB1, puB2, puB3⟩ := neOf luB2) | (go_at_call 43; refine (I.out _).mono ?_; rintro e uC ⟨rfl, hbC⟩; have B1 : Bk uC w.heap.size a b := bkOf hbC (by refine ⟨?_, ?_, ?_, ?_, ?_⟩ <;> go_simp); have B2 : Bk uC (w.heap.size + 1) c d := bkOf hbC (by refine ⟨?_, ?_, ?_, ?_, ?_⟩ <;> go_simp); obtain ⟨iuC0, iuC1, juC0, juC1, luC1⟩ := B1; obtain ⟨iuC2, iuC3, juC2, juC3, luC2⟩ := B2; obtain ⟨puC0, puC1, puC2, puC3⟩ := neOf luC2))
      all_goals go_wp2_with fail
      all_goals go_meet
      all_goals refine ⟨rfl, rfl, ?_⟩
      all_goals repeat (first | exact Below.refl _ _ | refine bSet ?_ (by first | (simp; done) | (simp; omega)) _ | refine bAlloc ?_ _ | refine Below.drew ?_ | refine bDrewN ?_ _ | assumption | refine bTrans ?_ hbC | refine bTrans ?_ hbB | refine bTrans ?_ hbA)
    case rest =>
      obtain ⟨rfl, rfl, hb2⟩ := hcut
      go_wp2_with fail
      go_ret
      exact ⟨rfl, hb2⟩

/-- laws.FnExactCompareFractions. -/
theorem law_CompareFractions (a b c d : Int) (w : World) (ha : I64 a) (_hb : I64 b) (hc : I64 c) (_hd : I64 d) :
    Calls Try.prog 11 #[fr a b, fr c d] w fun e w' => e = .returned (.bool true) ∧ Below w.heap.size w w' := by
  cases h : okB a b && okB c d
  · exact lawCompare_of a b c d 0 1 w (fun w => specCompare_no a b c d w ha hc h) (fun w => implCompare_no a b c d w h)
  · obtain ⟨h1, h2⟩ : okB a b = true ∧ okB c d = true := by simpa using h
    obtain ⟨r, hr⟩ : ∃ r : Int, (a * d < c * b ∧ r = -1) ∨ (c * b < a * d ∧ r = 1) ∨ (a * d = c * b ∧ r = 0) := by
      by_cases h3 : a * d < c * b
      · exact ⟨-1, .inl ⟨h3, rfl⟩⟩
      · by_cases h4 : c * b < a * d
        · exact ⟨1, .inr (.inl ⟨h4, rfl⟩)⟩
        · exact ⟨0, .inr (.inr ⟨by omega, rfl⟩)⟩
    exact lawCompare_of a b c d r 0 w (fun w => specCompare_yes a b c d r w h1 h2 hr) (fun w => implCompare_yes a b c d r w h1 h2 hr)

end Go.Proofs.Ytmhnceddhmdfoaa
