/- The statements on a wheel and a rate whose answer is a fraction: their own walks. -/
import Derived.Test.YtflgjohknjgdcaaProg
import Derived.Test.YtflgjohknjgdcaaBldFn4
import Derived.Test.YtflgjohknjgdcaaTwo
import Derived.Laws.Cover1
import Derived.Deep.RegionWith
import Derived.Deep.DrawnRows
import Derived.Deep.RegionHeld3
import Derived.Deep.DeepCutAuto
import Derived.Laws.StructEq
import Derived.Tactics
import Derived.Tactics2
import Derived.WalkKit
import Derived.LoopTactic
import Derived.BigQuiet
import Derived.RegionTactic
import Derived.Deep.QuietTactic
import Derived.Outline
import Derived.Lib.Hide
import Derived.Below
import Derived.KernelRfl
namespace Go.Proofs.Ytflgjohknjgdcaa
set_option linter.unusedSimpArgs false
set_option linter.unusedVariables false
open Go.RowKit

theorem neOf9 {k u : Nat} (h : k + 1 < u) : ¬ k = u ∧ ¬ u = k ∧ ¬ k + 1 = u ∧ ¬ u = k + 1 := by omega
theorem neOf19 {k u : Nat} (h : k < u) : ¬ k = u ∧ ¬ u = k := by omega
theorem cutOf9 {P Q : Prop} (h : P) (k : P → Q) : Q := k h

set_option maxHeartbeats 2000000 in
theorem lawFlickerRate_of (a b c d x y z : Int) (w : World)
    (hs : ∀ w : World, Calls Try.prog 31 #[fr a b, fr c d] w fun e w' => e = .returned (.tuple #[fr x y, .int .i64 z]) ∧ Below w.heap.size w w')
    (hi : ∀ w : World, Calls Try.prog 30 #[fr a b, fr c d] w fun e w' => e = .returned (.tuple #[fr x y, .int .i64 z]) ∧ Below w.heap.size w w') :
    Calls Try.prog 8 #[fr a b, fr c d] w fun e w' => e = .returned (.bool true) ∧ Below w.heap.size w w' := by
  have S := Lib.hid hs
  have I := Lib.hid hi
  clear hs hi
  go_enter Try.func8, Try.ntmps8
  go_upto_region 1 with fail
  go_cut [5, 6] (fun s5 s6 wx => ∃ g : Nat, s5 = .pointer (some ⟨g, 0, none⟩) ∧ s6 = .int .i64 z ∧ Bk wx w.heap.size a b ∧ Bk wx (w.heap.size + 1) c d ∧ Bk wx g x y ∧ Below w.heap.size w wx)
  case first =>
    have ne1 : ¬ w.heap.size = w.heap.size + 1 + 1 := by omega
    have ne2 : ¬ w.heap.size + 1 + 1 = w.heap.size := by omega
    go_region_held3 (fun w' => w'.cell? ⟨w.heap.size, 0, none⟩ = some (.int .i64 a) ∧ w'.cell? ⟨w.heap.size, 1, none⟩ = some (.int .i64 b) ∧ w'.cell? ⟨w.heap.size + 1, 0, none⟩ = some (.int .i64 c) ∧ w'.cell? ⟨w.heap.size + 1, 1, none⟩ = some (.int .i64 d)) (go_keep)
      (first | (go_at_call_of 49 (Value.agg #[.int .i64 a, .int .i64 b]); refine (toBlades_any _ _ _).mono ?_; rintro e uA ⟨rfl, hbA⟩; have B1 : Bk uA w.heap.size a b := bkOf hbA (by refine ⟨?_, ?_, ?_, ?_, ?_⟩ <;> go_simp); have B2 : Bk uA (w.heap.size + 1) c d := bkOf hbA (by refine ⟨?_, ?_, ?_, ?_, ?_⟩ <;> go_simp); (try (refine cutOf9 (P := Bk uA (w.heap.size + 1 + 1) 0 0) ?_ ?_; (refine bkOf hbA ?_; refine ⟨?_, ?_, ?_, ?_, ?_⟩ <;> go_simp); rintro ⟨EuA0a, EuA0b, EuA0c, EuA0d, EuA0e⟩)); (try (refine cutOf9 (P := Bk uA (uB.heap.size) 0 0) ?_ ?_; (refine bkOf hbA ?_; refine ⟨?_, ?_, ?_, ?_, ?_⟩ <;> go_simp); rintro ⟨EuA1a, EuA1b, EuA1c, EuA1d, EuA1e⟩)); obtain ⟨iuA0, iuA1, juA0, juA1, luA1⟩ := B1; obtain ⟨iuA2, iuA3, juA2, juA3, luA2⟩ := B2; obtain ⟨puA0, puA1, puA2, puA3⟩ := neOf9 luA2) | (go_at_call_of 50 (Value.agg #[.int .i64 c, .int .i64 d]); refine (toFraction_any _ _ _).mono ?_; rintro e uB ⟨rfl, hbB⟩; have B1 : Bk uB w.heap.size a b := bkOf hbB (by refine ⟨?_, ?_, ?_, ?_, ?_⟩ <;> go_simp); have B2 : Bk uB (w.heap.size + 1) c d := bkOf hbB (by refine ⟨?_, ?_, ?_, ?_, ?_⟩ <;> go_simp); (try (refine cutOf9 (P := Bk uB (w.heap.size + 1 + 1) 0 0) ?_ ?_; (refine bkOf hbB ?_; refine ⟨?_, ?_, ?_, ?_, ?_⟩ <;> go_simp); rintro ⟨EuB0a, EuB0b, EuB0c, EuB0d, EuB0e⟩)); (try (refine cutOf9 (P := Bk uB (uA.heap.size) 0 0) ?_ ?_; (refine bkOf hbB ?_; refine ⟨?_, ?_, ?_, ?_, ?_⟩ <;> go_simp); rintro ⟨EuB1a, EuB1b, EuB1c, EuB1d, EuB1e⟩)); obtain ⟨iuB0, iuB1, juB0, juB1, luB1⟩ := B1; obtain ⟨iuB2, iuB3, juB2, juB3, luB2⟩ := B2; obtain ⟨puB0, puB1, puB2, puB3⟩ := neOf9 luB2) | (go_at_call 31; refine (S.out _).mono ?_; rintro e uC ⟨rfl, hbC⟩; have B1 : Bk uC w.heap.size a b := bkOf hbC (by refine ⟨?_, ?_, ?_, ?_, ?_⟩ <;> go_simp); have B2 : Bk uC (w.heap.size + 1) c d := bkOf hbC (by refine ⟨?_, ?_, ?_, ?_, ?_⟩ <;> go_simp); (try (refine cutOf9 (P := Bk uC (w.heap.size + 1 + 1) 0 0) ?_ ?_; (refine bkOf hbC ?_; refine ⟨?_, ?_, ?_, ?_, ?_⟩ <;> go_simp); rintro ⟨EuC0a, EuC0b, EuC0c, EuC0d, EuC0e⟩)); (try (refine cutOf9 (P := Bk uC (uA.heap.size) 0 0) ?_ ?_; (refine bkOf hbC ?_; refine ⟨?_, ?_, ?_, ?_, ?_⟩ <;> go_simp); rintro ⟨EuC1a, EuC1b, EuC1c, EuC1d, EuC1e⟩)); (try (refine cutOf9 (P := Bk uC (uB.heap.size) 0 0) ?_ ?_; (refine bkOf hbC ?_; refine ⟨?_, ?_, ?_, ?_, ?_⟩ <;> go_simp); rintro ⟨EuC2a, EuC2b, EuC2c, EuC2d, EuC2e⟩)); obtain ⟨iuC0, iuC1, juC0, juC1, luC1⟩ := B1; obtain ⟨iuC2, iuC3, juC2, juC3, luC2⟩ := B2; obtain ⟨puC0, puC1, puC2, puC3⟩ := neOf9 luC2))
    all_goals go_wp2_with fail
    all_goals go_meet
    all_goals refine ⟨_, rfl, rfl, (by refine ⟨?_, ?_, ?_, ?_, ?_⟩ <;> go_simp), (by refine ⟨?_, ?_, ?_, ?_, ?_⟩ <;> go_simp), (by refine ⟨?_, ?_, ?_, ?_, ?_⟩ <;> go_simp), ?_⟩
    all_goals repeat (first | exact Below.refl _ _ | refine bSet ?_ (by first | (simp; done) | (simp; omega)) _ | refine bAlloc ?_ _ | refine Below.drew ?_ | refine bDrewN ?_ _ | assumption | refine bTrans ?_ hbC | refine bTrans ?_ hbB | refine bTrans ?_ hbA)
  case rest =>
    obtain ⟨g, rfl, rfl, B1, B2, B3, hb⟩ := hcut
    obtain ⟨i0, i1, j0, j1, l1⟩ := B1
    obtain ⟨i2, i3, j2, j3, l2⟩ := B2
    obtain ⟨i4, i5, j4, j5, l3⟩ := B3
    obtain ⟨p0, p1, p2, p3⟩ := neOf9 l2
    obtain ⟨p4, p5⟩ := neOf19 l3
    go_upto_region 2 with fail
    go_cut [7, 8] (fun s7 s8 wx => ∃ g2 : Nat, s7 = .pointer (some ⟨g2, 0, none⟩) ∧ s8 = .int .i64 z ∧ Bk wx g x y ∧ Bk wx g2 x y ∧ Below w.heap.size w wx)
    case first =>
      go_region_held3 (fun w' => w'.cell? ⟨w.heap.size, 0, none⟩ = some (.int .i64 a) ∧ w'.cell? ⟨w.heap.size, 1, none⟩ = some (.int .i64 b) ∧ w'.cell? ⟨w.heap.size + 1, 0, none⟩ = some (.int .i64 c) ∧ w'.cell? ⟨w.heap.size + 1, 1, none⟩ = some (.int .i64 d) ∧ w'.cell? ⟨g, 0, none⟩ = some (.int .i64 x) ∧ w'.cell? ⟨g, 1, none⟩ = some (.int .i64 y)) (go_keep)
        (first | (go_at_call_of 49 (Value.agg #[.int .i64 a, .int .i64 b]); refine (toBlades_any _ _ _).mono ?_; rintro e uA ⟨rfl, hbA⟩; have B1 : Bk uA w.heap.size a b := bkOf hbA (by refine ⟨?_, ?_, ?_, ?_, ?_⟩ <;> go_simp); have B2 : Bk uA (w.heap.size + 1) c d := bkOf hbA (by refine ⟨?_, ?_, ?_, ?_, ?_⟩ <;> go_simp); have B3 : Bk uA g x y := bkOf hbA (by refine ⟨?_, ?_, ?_, ?_, ?_⟩ <;> go_simp); (try (refine cutOf9 (P := Bk uA (wc.heap.size) 0 0) ?_ ?_; (refine bkOf hbA ?_; refine ⟨?_, ?_, ?_, ?_, ?_⟩ <;> go_simp); rintro ⟨EuA0a, EuA0b, EuA0c, EuA0d, EuA0e⟩)); (try (refine cutOf9 (P := Bk uA (uB.heap.size) 0 0) ?_ ?_; (refine bkOf hbA ?_; refine ⟨?_, ?_, ?_, ?_, ?_⟩ <;> go_simp); rintro ⟨EuA1a, EuA1b, EuA1c, EuA1d, EuA1e⟩)); obtain ⟨iuA0, iuA1, juA0, juA1, luA1⟩ := B1; obtain ⟨iuA2, iuA3, juA2, juA3, luA2⟩ := B2; obtain ⟨puA0, puA1, puA2, puA3⟩ := neOf9 luA2; obtain ⟨iuA4, iuA5, juA4, juA5, luA3⟩ := B3; obtain ⟨puA4, puA5⟩ := neOf19 luA3) | (go_at_call_of 50 (Value.agg #[.int .i64 c, .int .i64 d]); refine (toFraction_any _ _ _).mono ?_; rintro e uB ⟨rfl, hbB⟩; have B1 : Bk uB w.heap.size a b := bkOf hbB (by refine ⟨?_, ?_, ?_, ?_, ?_⟩ <;> go_simp); have B2 : Bk uB (w.heap.size + 1) c d := bkOf hbB (by refine ⟨?_, ?_, ?_, ?_, ?_⟩ <;> go_simp); have B3 : Bk uB g x y := bkOf hbB (by refine ⟨?_, ?_, ?_, ?_, ?_⟩ <;> go_simp); (try (refine cutOf9 (P := Bk uB (wc.heap.size) 0 0) ?_ ?_; (refine bkOf hbB ?_; refine ⟨?_, ?_, ?_, ?_, ?_⟩ <;> go_simp); rintro ⟨EuB0a, EuB0b, EuB0c, EuB0d, EuB0e⟩)); (try (refine cutOf9 (P := Bk uB (uA.heap.size) 0 0) ?_ ?_; (refine bkOf hbB ?_; refine ⟨?_, ?_, ?_, ?_, ?_⟩ <;> go_simp); rintro ⟨EuB1a, EuB1b, EuB1c, EuB1d, EuB1e⟩)); obtain ⟨iuB0, iuB1, juB0, juB1, luB1⟩ := B1; obtain ⟨iuB2, iuB3, juB2, juB3, luB2⟩ := B2; obtain ⟨puB0, puB1, puB2, puB3⟩ := neOf9 luB2; obtain ⟨iuB4, iuB5, juB4, juB5, luB3⟩ := B3; obtain ⟨puB4, puB5⟩ := neOf19 luB3) | (go_at_call 30; refine (I.out _).mono ?_; rintro e uC ⟨rfl, hbC⟩; have B1 : Bk uC w.heap.size a b := bkOf hbC (by refine ⟨?_, ?_, ?_, ?_, ?_⟩ <;> go_simp); have B2 : Bk uC (w.heap.size + 1) c d := bkOf hbC (by refine ⟨?_, ?_, ?_, ?_, ?_⟩ <;> go_simp); have B3 : Bk uC g x y := bkOf hbC (by refine ⟨?_, ?_, ?_, ?_, ?_⟩ <;> go_simp); (try (refine cutOf9 (P := Bk uC (wc.heap.size) 0 0) ?_ ?_; (refine bkOf hbC ?_; refine ⟨?_, ?_, ?_, ?_, ?_⟩ <;> go_simp); rintro ⟨EuC0a, EuC0b, EuC0c, EuC0d, EuC0e⟩)); (try (refine cutOf9 (P := Bk uC (uA.heap.size) 0 0) ?_ ?_; (refine bkOf hbC ?_; refine ⟨?_, ?_, ?_, ?_, ?_⟩ <;> go_simp); rintro ⟨EuC1a, EuC1b, EuC1c, EuC1d, EuC1e⟩)); (try (refine cutOf9 (P := Bk uC (uB.heap.size) 0 0) ?_ ?_; (refine bkOf hbC ?_; refine ⟨?_, ?_, ?_, ?_, ?_⟩ <;> go_simp); rintro ⟨EuC2a, EuC2b, EuC2c, EuC2d, EuC2e⟩)); obtain ⟨iuC0, iuC1, juC0, juC1, luC1⟩ := B1; obtain ⟨iuC2, iuC3, juC2, juC3, luC2⟩ := B2; obtain ⟨puC0, puC1, puC2, puC3⟩ := neOf9 luC2; obtain ⟨iuC4, iuC5, juC4, juC5, luC3⟩ := B3; obtain ⟨puC4, puC5⟩ := neOf19 luC3))
      all_goals go_wp2_with fail
      all_goals go_meet
      all_goals refine ⟨_, rfl, rfl, (by refine ⟨?_, ?_, ?_, ?_, ?_⟩ <;> go_simp), (by refine ⟨?_, ?_, ?_, ?_, ?_⟩ <;> go_simp), ?_⟩
      all_goals repeat (first | exact Below.refl _ _ | refine bSet ?_ (by first | (simp; done) | (simp; omega)) _ | refine bAlloc ?_ _ | refine Below.drew ?_ | refine bDrewN ?_ _ | assumption | refine bTrans ?_ hbC | refine bTrans ?_ hbB | refine bTrans ?_ hbA)
    case rest =>
      obtain ⟨g2, rfl, rfl, B1, B2, hb2⟩ := hcut
      clear hb i0 i1 j0 j1 l1 i2 i3 j2 j3 l2 i4 i5 j4 j5 l3 p0 p1 p2 p3 p4 p5
      obtain ⟨i0, i1, j0, j1, l1⟩ := B1
      obtain ⟨i2, i3, j2, j3, l2⟩ := B2
      go_wp2_with fail
      refine (eqFraction_same _ _ _).mono ?_
      rintro e u5 ⟨rfl, hb5⟩
      go_wp2_with fail
      go_ret
      exact ⟨rfl, bTrans hb2 hb5⟩

set_option maxHeartbeats 2000000 in
theorem lawLongestDark_of (a b c d x y z : Int) (w : World)
    (hs : ∀ w : World, Calls Try.prog 43 #[fr a b, fr c d] w fun e w' => e = .returned (.tuple #[fr x y, .int .i64 z]) ∧ Below w.heap.size w w')
    (hi : ∀ w : World, Calls Try.prog 42 #[fr a b, fr c d] w fun e w' => e = .returned (.tuple #[fr x y, .int .i64 z]) ∧ Below w.heap.size w w') :
    Calls Try.prog 13 #[fr a b, fr c d] w fun e w' => e = .returned (.bool true) ∧ Below w.heap.size w w' := by
  have S := Lib.hid hs
  have I := Lib.hid hi
  clear hs hi
  go_enter Try.func13, Try.ntmps13
  go_upto_region 1 with fail
  go_cut [5, 6] (fun s5 s6 wx => ∃ g : Nat, s5 = .pointer (some ⟨g, 0, none⟩) ∧ s6 = .int .i64 z ∧ Bk wx w.heap.size a b ∧ Bk wx (w.heap.size + 1) c d ∧ Bk wx g x y ∧ Below w.heap.size w wx)
  case first =>
    have ne1 : ¬ w.heap.size = w.heap.size + 1 + 1 := by omega
    have ne2 : ¬ w.heap.size + 1 + 1 = w.heap.size := by omega
    go_region_held3 (fun w' => w'.cell? ⟨w.heap.size, 0, none⟩ = some (.int .i64 a) ∧ w'.cell? ⟨w.heap.size, 1, none⟩ = some (.int .i64 b) ∧ w'.cell? ⟨w.heap.size + 1, 0, none⟩ = some (.int .i64 c) ∧ w'.cell? ⟨w.heap.size + 1, 1, none⟩ = some (.int .i64 d)) (go_keep)
      (first | (go_at_call_of 49 (Value.agg #[.int .i64 a, .int .i64 b]); refine (toBlades_any _ _ _).mono ?_; rintro e uA ⟨rfl, hbA⟩; have B1 : Bk uA w.heap.size a b := bkOf hbA (by refine ⟨?_, ?_, ?_, ?_, ?_⟩ <;> go_simp); have B2 : Bk uA (w.heap.size + 1) c d := bkOf hbA (by refine ⟨?_, ?_, ?_, ?_, ?_⟩ <;> go_simp); (try (refine cutOf9 (P := Bk uA (w.heap.size + 1 + 1) 0 0) ?_ ?_; (refine bkOf hbA ?_; refine ⟨?_, ?_, ?_, ?_, ?_⟩ <;> go_simp); rintro ⟨EuA0a, EuA0b, EuA0c, EuA0d, EuA0e⟩)); (try (refine cutOf9 (P := Bk uA (uB.heap.size) 0 0) ?_ ?_; (refine bkOf hbA ?_; refine ⟨?_, ?_, ?_, ?_, ?_⟩ <;> go_simp); rintro ⟨EuA1a, EuA1b, EuA1c, EuA1d, EuA1e⟩)); obtain ⟨iuA0, iuA1, juA0, juA1, luA1⟩ := B1; obtain ⟨iuA2, iuA3, juA2, juA3, luA2⟩ := B2; obtain ⟨puA0, puA1, puA2, puA3⟩ := neOf9 luA2) | (go_at_call_of 50 (Value.agg #[.int .i64 c, .int .i64 d]); refine (toFraction_any _ _ _).mono ?_; rintro e uB ⟨rfl, hbB⟩; have B1 : Bk uB w.heap.size a b := bkOf hbB (by refine ⟨?_, ?_, ?_, ?_, ?_⟩ <;> go_simp); have B2 : Bk uB (w.heap.size + 1) c d := bkOf hbB (by refine ⟨?_, ?_, ?_, ?_, ?_⟩ <;> go_simp); (try (refine cutOf9 (P := Bk uB (w.heap.size + 1 + 1) 0 0) ?_ ?_; (refine bkOf hbB ?_; refine ⟨?_, ?_, ?_, ?_, ?_⟩ <;> go_simp); rintro ⟨EuB0a, EuB0b, EuB0c, EuB0d, EuB0e⟩)); (try (refine cutOf9 (P := Bk uB (uA.heap.size) 0 0) ?_ ?_; (refine bkOf hbB ?_; refine ⟨?_, ?_, ?_, ?_, ?_⟩ <;> go_simp); rintro ⟨EuB1a, EuB1b, EuB1c, EuB1d, EuB1e⟩)); obtain ⟨iuB0, iuB1, juB0, juB1, luB1⟩ := B1; obtain ⟨iuB2, iuB3, juB2, juB3, luB2⟩ := B2; obtain ⟨puB0, puB1, puB2, puB3⟩ := neOf9 luB2) | (go_at_call 43; refine (S.out _).mono ?_; rintro e uC ⟨rfl, hbC⟩; have B1 : Bk uC w.heap.size a b := bkOf hbC (by refine ⟨?_, ?_, ?_, ?_, ?_⟩ <;> go_simp); have B2 : Bk uC (w.heap.size + 1) c d := bkOf hbC (by refine ⟨?_, ?_, ?_, ?_, ?_⟩ <;> go_simp); (try (refine cutOf9 (P := Bk uC (w.heap.size + 1 + 1) 0 0) ?_ ?_; (refine bkOf hbC ?_; refine ⟨?_, ?_, ?_, ?_, ?_⟩ <;> go_simp); rintro ⟨EuC0a, EuC0b, EuC0c, EuC0d, EuC0e⟩)); (try (refine cutOf9 (P := Bk uC (uA.heap.size) 0 0) ?_ ?_; (refine bkOf hbC ?_; refine ⟨?_, ?_, ?_, ?_, ?_⟩ <;> go_simp); rintro ⟨EuC1a, EuC1b, EuC1c, EuC1d, EuC1e⟩)); (try (refine cutOf9 (P := Bk uC (uB.heap.size) 0 0) ?_ ?_; (refine bkOf hbC ?_; refine ⟨?_, ?_, ?_, ?_, ?_⟩ <;> go_simp); rintro ⟨EuC2a, EuC2b, EuC2c, EuC2d, EuC2e⟩)); obtain ⟨iuC0, iuC1, juC0, juC1, luC1⟩ := B1; obtain ⟨iuC2, iuC3, juC2, juC3, luC2⟩ := B2; obtain ⟨puC0, puC1, puC2, puC3⟩ := neOf9 luC2))
    all_goals go_wp2_with fail
    all_goals go_meet
    all_goals refine ⟨_, rfl, rfl, (by refine ⟨?_, ?_, ?_, ?_, ?_⟩ <;> go_simp), (by refine ⟨?_, ?_, ?_, ?_, ?_⟩ <;> go_simp), (by refine ⟨?_, ?_, ?_, ?_, ?_⟩ <;> go_simp), ?_⟩
    all_goals repeat (first | exact Below.refl _ _ | refine bSet ?_ (by first | (simp; done) | (simp; omega)) _ | refine bAlloc ?_ _ | refine Below.drew ?_ | refine bDrewN ?_ _ | assumption | refine bTrans ?_ hbC | refine bTrans ?_ hbB | refine bTrans ?_ hbA)
  case rest =>
    obtain ⟨g, rfl, rfl, B1, B2, B3, hb⟩ := hcut
    obtain ⟨i0, i1, j0, j1, l1⟩ := B1
    obtain ⟨i2, i3, j2, j3, l2⟩ := B2
    obtain ⟨i4, i5, j4, j5, l3⟩ := B3
    obtain ⟨p0, p1, p2, p3⟩ := neOf9 l2
    obtain ⟨p4, p5⟩ := neOf19 l3
    go_upto_region 2 with fail
    go_cut [7, 8] (fun s7 s8 wx => ∃ g2 : Nat, s7 = .pointer (some ⟨g2, 0, none⟩) ∧ s8 = .int .i64 z ∧ Bk wx g x y ∧ Bk wx g2 x y ∧ Below w.heap.size w wx)
    case first =>
      go_region_held3 (fun w' => w'.cell? ⟨w.heap.size, 0, none⟩ = some (.int .i64 a) ∧ w'.cell? ⟨w.heap.size, 1, none⟩ = some (.int .i64 b) ∧ w'.cell? ⟨w.heap.size + 1, 0, none⟩ = some (.int .i64 c) ∧ w'.cell? ⟨w.heap.size + 1, 1, none⟩ = some (.int .i64 d) ∧ w'.cell? ⟨g, 0, none⟩ = some (.int .i64 x) ∧ w'.cell? ⟨g, 1, none⟩ = some (.int .i64 y)) (go_keep)
        (first | (go_at_call_of 49 (Value.agg #[.int .i64 a, .int .i64 b]); refine (toBlades_any _ _ _).mono ?_; rintro e uA ⟨rfl, hbA⟩; have B1 : Bk uA w.heap.size a b := bkOf hbA (by refine ⟨?_, ?_, ?_, ?_, ?_⟩ <;> go_simp); have B2 : Bk uA (w.heap.size + 1) c d := bkOf hbA (by refine ⟨?_, ?_, ?_, ?_, ?_⟩ <;> go_simp); have B3 : Bk uA g x y := bkOf hbA (by refine ⟨?_, ?_, ?_, ?_, ?_⟩ <;> go_simp); (try (refine cutOf9 (P := Bk uA (wc.heap.size) 0 0) ?_ ?_; (refine bkOf hbA ?_; refine ⟨?_, ?_, ?_, ?_, ?_⟩ <;> go_simp); rintro ⟨EuA0a, EuA0b, EuA0c, EuA0d, EuA0e⟩)); (try (refine cutOf9 (P := Bk uA (uB.heap.size) 0 0) ?_ ?_; (refine bkOf hbA ?_; refine ⟨?_, ?_, ?_, ?_, ?_⟩ <;> go_simp); rintro ⟨EuA1a, EuA1b, EuA1c, EuA1d, EuA1e⟩)); obtain ⟨iuA0, iuA1, juA0, juA1, luA1⟩ := B1; obtain ⟨iuA2, iuA3, juA2, juA3, luA2⟩ := B2; obtain ⟨puA0, puA1, puA2, puA3⟩ := neOf9 luA2; obtain ⟨iuA4, iuA5, juA4, juA5, luA3⟩ := B3; obtain ⟨puA4, puA5⟩ := neOf19 luA3) | (go_at_call_of 50 (Value.agg #[.int .i64 c, .int .i64 d]); refine (toFraction_any _ _ _).mono ?_; rintro e uB ⟨rfl, hbB⟩; have B1 : Bk uB w.heap.size a b := bkOf hbB (by refine ⟨?_, ?_, ?_, ?_, ?_⟩ <;> go_simp); have B2 : Bk uB (w.heap.size + 1) c d := bkOf hbB (by refine ⟨?_, ?_, ?_, ?_, ?_⟩ <;> go_simp); have B3 : Bk uB g x y := bkOf hbB (by refine ⟨?_, ?_, ?_, ?_, ?_⟩ <;> go_simp); (try (refine cutOf9 (P := Bk uB (wc.heap.size) 0 0) ?_ ?_; (refine bkOf hbB ?_; refine ⟨?_, ?_, ?_, ?_, ?_⟩ <;> go_simp); rintro ⟨EuB0a, EuB0b, EuB0c, EuB0d, EuB0e⟩)); (try (refine cutOf9 (P := Bk uB (uA.heap.size) 0 0) ?_ ?_; (refine bkOf hbB ?_; refine ⟨?_, ?_, ?_, ?_, ?_⟩ <;> go_simp); rintro ⟨EuB1a, EuB1b, EuB1c, EuB1d, EuB1e⟩)); obtain ⟨iuB0, iuB1, juB0, juB1, luB1⟩ := B1; obtain ⟨iuB2, iuB3, juB2, juB3, luB2⟩ := B2; obtain ⟨puB0, puB1, puB2, puB3⟩ := neOf9 luB2; obtain ⟨iuB4, iuB5, juB4, juB5, luB3⟩ := B3; obtain ⟨puB4, puB5⟩ := neOf19 luB3) | (go_at_call 42; refine (I.out _).mono ?_; rintro e uC ⟨rfl, hbC⟩; have B1 : Bk uC w.heap.size a b := bkOf hbC (by refine ⟨?_, ?_, ?_, ?_, ?_⟩ <;> go_simp); have B2 : Bk uC (w.heap.size + 1) c d := bkOf hbC (by refine ⟨?_, ?_, ?_, ?_, ?_⟩ <;> go_simp); have B3 : Bk uC g x y := bkOf hbC (by refine ⟨?_, ?_, ?_, ?_, ?_⟩ <;> go_simp); (try (refine cutOf9 (P := Bk uC (wc.heap.size) 0 0) ?_ ?_; (refine bkOf hbC ?_; refine ⟨?_, ?_, ?_, ?_, ?_⟩ <;> go_simp); rintro ⟨EuC0a, EuC0b, EuC0c, EuC0d, EuC0e⟩)); (try (refine cutOf9 (P := Bk uC (uA.heap.size) 0 0) ?_ ?_; (refine bkOf hbC ?_; refine ⟨?_, ?_, ?_, ?_, ?_⟩ <;> go_simp); rintro ⟨EuC1a, EuC1b, EuC1c, EuC1d, EuC1e⟩)); (try (refine cutOf9 (P := Bk uC (uB.heap.size) 0 0) ?_ ?_; (refine bkOf hbC ?_; refine ⟨?_, ?_, ?_, ?_, ?_⟩ <;> go_simp); rintro ⟨EuC2a, EuC2b, EuC2c, EuC2d, EuC2e⟩)); obtain ⟨iuC0, iuC1, juC0, juC1, luC1⟩ := B1; obtain ⟨iuC2, iuC3, juC2, juC3, luC2⟩ := B2; obtain ⟨puC0, puC1, puC2, puC3⟩ := neOf9 luC2; obtain ⟨iuC4, iuC5, juC4, juC5, luC3⟩ := B3; obtain ⟨puC4, puC5⟩ := neOf19 luC3))
      all_goals go_wp2_with fail
      all_goals go_meet
      all_goals refine ⟨_, rfl, rfl, (by refine ⟨?_, ?_, ?_, ?_, ?_⟩ <;> go_simp), (by refine ⟨?_, ?_, ?_, ?_, ?_⟩ <;> go_simp), ?_⟩
      all_goals repeat (first | exact Below.refl _ _ | refine bSet ?_ (by first | (simp; done) | (simp; omega)) _ | refine bAlloc ?_ _ | refine Below.drew ?_ | refine bDrewN ?_ _ | assumption | refine bTrans ?_ hbC | refine bTrans ?_ hbB | refine bTrans ?_ hbA)
    case rest =>
      obtain ⟨g2, rfl, rfl, B1, B2, hb2⟩ := hcut
      clear hb i0 i1 j0 j1 l1 i2 i3 j2 j3 l2 i4 i5 j4 j5 l3 p0 p1 p2 p3 p4 p5
      obtain ⟨i0, i1, j0, j1, l1⟩ := B1
      obtain ⟨i2, i3, j2, j3, l2⟩ := B2
      go_wp2_with fail
      refine (eqFraction_same _ _ _).mono ?_
      rintro e u5 ⟨rfl, hb5⟩
      go_wp2_with fail
      go_ret
      exact ⟨rfl, bTrans hb2 hb5⟩

/-- laws.FnExactFlickerRate. -/
theorem law_FlickerRate (m o n d : Int) (w : World) (hn : I64 n) (_hd : I64 d) :
    Calls Try.prog 8 #[fr m o, fr n d] w fun e w' => e = .returned (.bool true) ∧ Below w.heap.size w w' := by
  cases h1 : bladesB m o
  · exact lawFlickerRate_of m o n d 0 0 1 w (fun w => specFlick_bad m o n d w hn (by simp [h1])) (fun w => implFlick_bad1 m o n d w h1)
  · cases h2 : okB n d
    · exact lawFlickerRate_of m o n d 0 0 1 w (fun w => specFlick_bad m o n d w hn (by simp [h2])) (fun w => implFlick_bad2 m o n d w h1 h2)
    · cases h3 : rateB n d
      · exact lawFlickerRate_of m o n d 0 0 2 w (fun w => specFlick_off m o n d w hn (by simp [h1, h2]) (by simp [h3])) (fun w => implFlick_off m o n d w h1 h2 h3)
      · exact lawFlickerRate_of m o n d _ _ 0 w (fun w => specFlick_yes m o n d w hn h1 h2 h3) (fun w => implFlick_yes m o n d w h1 h2 h3)

/-- laws.FnExactLongestDark. -/
theorem law_LongestDark (m o n d : Int) (w : World) (hn : I64 n) (_hd : I64 d) :
    Calls Try.prog 13 #[fr m o, fr n d] w fun e w' => e = .returned (.bool true) ∧ Below w.heap.size w w' := by
  cases h1 : bladesB m o
  · exact lawLongestDark_of m o n d 0 0 1 w (fun w => specDark_bad m o n d w hn (by simp [h1])) (fun w => implDark_bad1 m o n d w h1)
  · cases h2 : okB n d
    · exact lawLongestDark_of m o n d 0 0 1 w (fun w => specDark_bad m o n d w hn (by simp [h2])) (fun w => implDark_bad2 m o n d w h1 h2)
    · cases h3 : rateB n d
      · exact lawLongestDark_of m o n d 0 0 2 w (fun w => specDark_off m o n d w hn (by simp [h1, h2]) (by simp [h3])) (fun w => implDark_off m o n d w h1 h2 h3)
      · exact lawLongestDark_of m o n d _ _ 0 w (fun w => specDark_yes m o n d w hn h1 h2 h3) (fun w => implDark_yes m o n d w h1 h2 h3)

end Go.Proofs.Ytflgjohknjgdcaa
