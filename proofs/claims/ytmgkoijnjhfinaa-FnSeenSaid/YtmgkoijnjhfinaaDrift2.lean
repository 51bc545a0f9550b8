/- Drifts, pictures that stand still, rates of pictures and of drifts: in the program, in the model, and the statements' own walks. -/
import Derived.Test.YtmgkoijnjhfinaaProg
import Derived.Test.YtmgkoijnjhfinaaDrift
import Derived.Test.YtmgkoijnjhfinaaTwo
import Derived.Deep.RegionWith
import Derived.Deep.DrawnRows
import Derived.Laws.StructEq
import Derived.Tactics
import Derived.Tactics2
import Derived.WalkKit
import Derived.LoopTactic
import Derived.BigQuiet
import Derived.RegionTactic
import Derived.BigRegion
import Derived.ChangeAlike
import Derived.Deep.QuietTactic
import Derived.Deep.RegionHeld3
import Derived.Deep.DeepCutAuto
import Derived.Outline
import Derived.Lib.Hide
import Derived.Below
import Derived.KernelRfl
namespace Go.Proofs.Ytmgkoijnjhfinaa
set_option linter.unusedSimpArgs false
set_option linter.unusedVariables false
open Go.RowKit

/-- impl.DriftOf. -/
theorem implDriftOf_no (p s : Int) (w : World) (h : discB p s = false) :
    Calls Try.prog 23 #[.int .i64 p, .int .i64 s] w fun e w' => e = .returned (.tuple #[fr 0 0, .int .i64 2]) ∧ Below w.heap.size w w' := by
  go_enter Try.func23, Try.ntmps23
  go_wp2_with fail
  refine (isDisc_any _ _ _).mono ?_
  rintro e u ⟨rfl, rfl⟩
  go_wp2_with fail
  refine bodyPost_ret (v := _) (by simp [results, Try.results23, go_sem, ]) rfl ⟨rfl, ?_⟩
  repeat (first | exact Below.refl _ _ | refine bSet ?_ (by first | (simp; done) | (simp; omega)) _ | refine bAlloc ?_ _ | refine Below.drew ?_ | refine bDrewN ?_ _)

theorem implDriftOf_yes (p s : Int) (w : World) (h : discB p s = true) :
    Calls Try.prog 23 #[.int .i64 p, .int .i64 s] w fun e w' => e = .returned (.tuple #[fr (drN p s) (drD p s), .int .i64 0]) ∧ Below w.heap.size w w' := by
  have C := Lib.hid (fun w => driftOf_dr p s w h)
  go_enter Try.func23, Try.ntmps23
  go_wp2_with fail
  refine (isDisc_any _ _ _).mono ?_
  rintro e u ⟨rfl, rfl⟩
  go_wp2_with fail
  refine (C.out _).mono ?_
  rintro e u1 ⟨rfl, hb1⟩
  have B2 : Bk u1 w.heap.size 0 0 := bkOf hb1 (by refine ⟨?_, ?_, ?_, ?_, ?_⟩ <;> go_simp)
  obtain ⟨c2, c3, f2, f3, z2⟩ := B2
  go_wp2_with fail
  refine bodyPost_ret (v := _) (by simp [results, Try.results23, go_sem, c2, c3, z2, Nat.ne_of_lt z2]) rfl ⟨rfl, ?_⟩
  repeat (first | exact Below.refl _ _ | refine bSet ?_ (by first | (simp; done) | (simp; omega)) _ | refine bAlloc ?_ _ | refine Below.drew ?_ | refine bDrewN ?_ _ | refine bTrans ?_ hb1)

/-- spec.DriftOf. -/
theorem specDriftOf_no (p s : Int) (w : World) (h : discB p s = false) :
    Calls Try.prog 27 #[.int .i64 p, .int .i64 s] w fun e w' => e = .returned (.tuple #[fr 0 0, .int .i64 2]) ∧ Below w.heap.size w w' := by
  go_enter Try.func27, Try.ntmps27
  go_wp2_with fail
  refine (l03Code_no _ _ _ h).mono ?_
  rintro e u ⟨rfl, rfl⟩
  go_wp2_with fail
  refine bodyPost_ret (v := _) (by simp [results, Try.results27, go_sem, ]) rfl ⟨rfl, ?_⟩
  repeat (first | exact Below.refl _ _ | refine bSet ?_ (by first | (simp; done) | (simp; omega)) _ | refine bAlloc ?_ _ | refine Below.drew ?_ | refine bDrewN ?_ _)

theorem specDriftOf_yes (p s : Int) (w : World) (h : discB p s = true) :
    Calls Try.prog 27 #[.int .i64 p, .int .i64 s] w fun e w' => e = .returned (.tuple #[fr (drN p s) (drD p s), .int .i64 0]) ∧ Below w.heap.size w w' := by
  have C := Lib.hid (fun w => l03Drift_any p s w h)
  go_enter Try.func27, Try.ntmps27
  go_wp2_with fail
  refine (l03Code_yes _ _ _ h).mono ?_
  rintro e u ⟨rfl, rfl⟩
  go_wp2_with fail
  refine (C.out _).mono ?_
  rintro e u1 ⟨rfl, hb1⟩
  have B2 : Bk u1 w.heap.size 0 0 := bkOf hb1 (by refine ⟨?_, ?_, ?_, ?_, ?_⟩ <;> go_simp)
  obtain ⟨c2, c3, f2, f3, z2⟩ := B2
  go_wp2_with fail
  refine bodyPost_ret (v := _) (by simp [results, Try.results27, go_sem, c2, c3, z2, Nat.ne_of_lt z2]) rfl ⟨rfl, ?_⟩
  repeat (first | exact Below.refl _ _ | refine bSet ?_ (by first | (simp; done) | (simp; omega)) _ | refine bAlloc ?_ _ | refine Below.drew ?_ | refine bDrewN ?_ _ | refine bTrans ?_ hb1)

/-- impl.StandsStill. -/
theorem implStill_no (p s : Int) (w : World) (h : discB p s = false) :
    Calls Try.prog 24 #[.int .i64 p, .int .i64 s] w fun e w' => e = .returned (.tuple #[.bool false, .int .i64 2]) ∧ Below w.heap.size w w' := by
  go_enter Try.func24, Try.ntmps24
  go_wp2_with fail
  refine (isDisc_any _ _ _).mono ?_
  rintro e u ⟨rfl, rfl⟩
  go_wp2_with fail
  go_ret2
  exact ⟨rfl, Below.refl _ _⟩

theorem implStill_yes (p s : Int) (w : World) (h : discB p s = true) :
    Calls Try.prog 24 #[.int .i64 p, .int .i64 s] w fun e w' => e = .returned (.tuple #[.bool (decide (drN p s = 0)), .int .i64 0]) ∧ Below w.heap.size w w' := by
  have C := Lib.hid (fun w => driftOf_dr p s w h)
  obtain ⟨b1, b2, b3, b4⟩ := dr_bd h
  have hfd := field_num
  generalize drN p s = x at *
  generalize drD p s = y at *
  by_cases h0 : x = 0
  all_goals
    go_enter Try.func24, Try.ntmps24
    go_wp2_with fail
    refine (isDisc_any _ _ _).mono ?_
    rintro e u ⟨rfl, rfl⟩
    go_wp2_with fail
    refine (C.out _).mono ?_
    rintro e u1 ⟨rfl, hb1⟩
    go_wp2_with fail
    go_ret2
    exact ⟨by simp [h0], by first | exact hb1 | exact Below.drew hb1⟩

/-- spec.StandsStill. -/
theorem specStill_no (p s : Int) (w : World) (h : discB p s = false) :
    Calls Try.prog 38 #[.int .i64 p, .int .i64 s] w fun e w' => e = .returned (.tuple #[.bool false, .int .i64 2]) ∧ Below w.heap.size w w' := by
  go_enter Try.func38, Try.ntmps38
  go_wp2_with fail
  refine (l03Code_no _ _ _ h).mono ?_
  rintro e u ⟨rfl, rfl⟩
  go_wp2_with fail
  go_ret2
  exact ⟨rfl, Below.refl _ _⟩

theorem specStill_yes (p s : Int) (w : World) (h : discB p s = true) :
    Calls Try.prog 38 #[.int .i64 p, .int .i64 s] w fun e w' => e = .returned (.tuple #[.bool (decide (drN p s = 0)), .int .i64 0]) ∧ Below w.heap.size w w' := by
  have hE : (drN p s = 0) = (p % s = 0) := propext ((drN_zero h).trans (still_iff h))
  obtain ⟨p1, p2, s1, s2⟩ := discB_bd h
  have h2 := Int.emod_nonneg p (show s ≠ 0 by omega)
  have h3 := Int.emod_lt_of_pos p (show 0 < s by omega)
  have hs0 : ¬ s = 0 := by omega
  simp only [hE]
  by_cases h0 : p % s = 0
  all_goals
    go_enter Try.func38, Try.ntmps38
    go_wp2_with fail
    refine (l03Code_yes _ _ _ h).mono ?_
    rintro e u ⟨rfl, rfl⟩
    go_wp2_with fail
    go_ret2
    exact ⟨by simp [h0], by first | exact Below.refl _ _ | exact Below.drew (Below.refl _ _)⟩

theorem lawDriftOf_of (p s x y z : Int) (w : World)
    (hs : ∀ w : World, Calls Try.prog 27 #[.int .i64 p, .int .i64 s] w fun e w' => e = .returned (.tuple #[fr x y, .int .i64 z]) ∧ Below w.heap.size w w')
    (hi : ∀ w : World, Calls Try.prog 23 #[.int .i64 p, .int .i64 s] w fun e w' => e = .returned (.tuple #[fr x y, .int .i64 z]) ∧ Below w.heap.size w w') :
    Calls Try.prog 7 #[.int .i64 p, .int .i64 s] w fun e w' => e = .returned (.bool true) ∧ Below w.heap.size w w' := by
  have S := Lib.hid hs
  have I := Lib.hid hi
  clear hs hi
  go_enter Try.func7, Try.ntmps7
  go_wp2_with fail
  refine (S.out _).mono ?_
  rintro e u1 ⟨rfl, hb1⟩
  go_wp2_with fail
  refine (I.out _).mono ?_
  rintro e u2 ⟨rfl, hb2⟩
  have B2 : Bk u2 u1.heap.size x y := bkOf hb2 (by refine ⟨?_, ?_, ?_, ?_, ?_⟩ <;> go_simp)
  obtain ⟨c2, c3, f2, f3, z2⟩ := B2
  go_wp2_with fail
  refine (eqFraction_same _ _ _).mono ?_
  rintro e u3 ⟨rfl, hb3⟩
  go_wp2_with fail
  go_ret
  refine ⟨rfl, ?_⟩
  repeat (first | exact Below.refl _ _ | refine bSet ?_ (by first | (simp; done) | (simp; omega)) _ | refine bAlloc ?_ _ | refine Below.drew ?_ | refine bDrewN ?_ _ | refine bTrans ?_ hb3 | refine bTrans ?_ hb2 | refine bTrans ?_ hb1)

/-- laws.FnExactDriftOf. -/
theorem law_DriftOf (p s : Int) (w : World) (_hp : I64 p) (_hs : I64 s) :
    Calls Try.prog 7 #[.int .i64 p, .int .i64 s] w fun e w' => e = .returned (.bool true) ∧ Below w.heap.size w w' := by
  cases h : discB p s
  · exact lawDriftOf_of p s 0 0 2 w (fun w => specDriftOf_no p s w h) (fun w => implDriftOf_no p s w h)
  · exact lawDriftOf_of p s _ _ 0 w (fun w => specDriftOf_yes p s w h) (fun w => implDriftOf_yes p s w h)

theorem lawStill_of (p s z : Int) (b : Bool) (w : World)
    (hs : ∀ w : World, Calls Try.prog 38 #[.int .i64 p, .int .i64 s] w fun e w' => e = .returned (.tuple #[.bool b, .int .i64 z]) ∧ Below w.heap.size w w')
    (hi : ∀ w : World, Calls Try.prog 24 #[.int .i64 p, .int .i64 s] w fun e w' => e = .returned (.tuple #[.bool b, .int .i64 z]) ∧ Below w.heap.size w w') :
    Calls Try.prog 8 #[.int .i64 p, .int .i64 s] w fun e w' => e = .returned (.bool true) ∧ Below w.heap.size w w' := by
  have S := Lib.hid hs
  have I := Lib.hid hi
  clear hs hi
  cases b
  all_goals
    go_enter Try.func8, Try.ntmps8
    go_wp2_with fail
    refine (S.out _).mono ?_
    rintro e u1 ⟨rfl, hb1⟩
    go_wp2_with fail
    refine (I.out _).mono ?_
    rintro e u2 ⟨rfl, hb2⟩
    go_wp2_with fail
    go_ret
    exact ⟨rfl, bTrans hb1 hb2⟩

/-- laws.FnExactStandsStill. -/
theorem law_StandsStill (p s : Int) (w : World) (_hp : I64 p) (_hs : I64 s) :
    Calls Try.prog 8 #[.int .i64 p, .int .i64 s] w fun e w' => e = .returned (.bool true) ∧ Below w.heap.size w w' := by
  cases h : discB p s
  · exact lawStill_of p s 2 false w (fun w => specStill_no p s w h) (fun w => implStill_no p s w h)
  · exact lawStill_of p s 0 _ w (fun w => specStill_yes p s w h) (fun w => implStill_yes p s w h)

end Go.Proofs.Ytmgkoijnjhfinaa
