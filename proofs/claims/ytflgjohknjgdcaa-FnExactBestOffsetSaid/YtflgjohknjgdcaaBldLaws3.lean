/- The statements on two wheels: their own walks. -/
import Derived.Test.YtflgjohknjgdcaaProg
import Derived.Test.YtflgjohknjgdcaaLitImpl
import Derived.Test.YtflgjohknjgdcaaBldLaws1
import Derived.Laws.Cover1
import Derived.Deep.RegionWith
import Derived.Deep.DrawnRows
import Derived.Deep.RegionHeld3
import Derived.Deep.DeepCutAuto
import Derived.Laws.StructEq
import Derived.Tactics
import Derived.Tactics2
import Derived.WalkKit
import Derived.LoopTactic
import Derived.BigQuiet
import Derived.RegionTactic
import Derived.Deep.QuietTactic
import Derived.Outline
import Derived.Lib.Hide
import Derived.Below
import Derived.KernelRfl
namespace Go.Proofs.Ytflgjohknjgdcaa
set_option linter.unusedSimpArgs false
set_option linter.unusedVariables false
open Go.RowKit

set_option maxHeartbeats 2000000 in
theorem lawTwoWheels_of (a b c d l : Int) (x : Int) (y : Int) (w : World)
    (hs : ∀ w : World, Calls Try.prog 37 #[fr a b, fr c d, .int .i64 l] w fun e w' => e = .returned (.tuple #[.int .i64 x, .int .i64 y]) ∧ Below w.heap.size w w')
    (hi : ∀ w : World, Calls Try.prog 36 #[fr a b, fr c d, .int .i64 l] w fun e w' => e = .returned (.tuple #[.int .i64 x, .int .i64 y]) ∧ Below w.heap.size w w') :
    Calls Try.prog 15 #[fr a b, fr c d, .int .i64 l] w fun e w' => e = .returned (.bool true) ∧ Below w.heap.size w w' := by
  have S := Lib.hid hs
  have I := Lib.hid hi
  clear hs hi
  go_enter Try.func15, Try.ntmps15
  go_upto_region 1 with fail
  go_cut [7, 8] (fun s5 s6 wx => s5 = .int .i64 x ∧ s6 = .int .i64 y ∧ Bk wx w.heap.size a b ∧ Bk wx (w.heap.size + 1) c d ∧ Below w.heap.size w wx)
  case first =>
    go_region_held3 (fun w' => w'.cell? ⟨w.heap.size, 0, none⟩ = some (.int .i64 a) ∧ w'.cell? ⟨w.heap.size, 1, none⟩ = some (.int .i64 b) ∧ w'.cell? ⟨w.heap.size + 1, 0, none⟩ = some (.int .i64 c) ∧ w'.cell? ⟨w.heap.size + 1, 1, none⟩ = some (.int .i64 d)) (go_keep)
      (first | (go_at_call_of 49 (Value.agg #[.int .i64 a, .int .i64 b]); refine (toBlades_any _ _ _).mono ?_; rintro e uA ⟨rfl, hbA⟩; have B1 : Bk uA w.heap.size a b := bkOf hbA (by refine ⟨?_, ?_, ?_, ?_, ?_⟩ <;> go_simp); have B2 : Bk uA (w.heap.size + 1) c d := bkOf hbA (by refine ⟨?_, ?_, ?_, ?_, ?_⟩ <;> go_simp); obtain ⟨iuA0, iuA1, juA0, juA1, luA1⟩ := B1; obtain ⟨iuA2, iuA3, juA2, juA3, luA2⟩ := B2; obtain ⟨puA0, puA1, puA2, puA3⟩ := neOf9 luA2) | (go_at_call_of 49 (Value.agg #[.int .i64 c, .int .i64 d]); refine (toBlades_any _ _ _).mono ?_; rintro e uB ⟨rfl, hbB⟩; have B1 : Bk uB w.heap.size a b := bkOf hbB (by refine ⟨?_, ?_, ?_, ?_, ?_⟩ <;> go_simp); have B2 : Bk uB (w.heap.size + 1) c d := bkOf hbB (by refine ⟨?_, ?_, ?_, ?_, ?_⟩ <;> go_simp); obtain ⟨iuB0, iuB1, juB0, juB1, luB1⟩ := B1; obtain ⟨iuB2, iuB3, juB2, juB3, luB2⟩ := B2; obtain ⟨puB0, puB1, puB2, puB3⟩ := neOf9 luB2) | (go_at_call 37; refine (S.out _).mono ?_; rintro e uC ⟨rfl, hbC⟩; have B1 : Bk uC w.heap.size a b := bkOf hbC (by refine ⟨?_, ?_, ?_, ?_, ?_⟩ <;> go_simp); have B2 : Bk uC (w.heap.size + 1) c d := bkOf hbC (by refine ⟨?_, ?_, ?_, ?_, ?_⟩ <;> go_simp); obtain ⟨iuC0, iuC1, juC0, juC1, luC1⟩ := B1; obtain ⟨iuC2, iuC3, juC2, juC3, luC2⟩ := B2; obtain ⟨puC0, puC1, puC2, puC3⟩ := neOf9 luC2))
    all_goals go_wp2_with fail
    all_goals go_meet
    all_goals refine ⟨rfl, rfl, (by refine ⟨?_, ?_, ?_, ?_, ?_⟩ <;> go_simp), (by refine ⟨?_, ?_, ?_, ?_, ?_⟩ <;> go_simp), ?_⟩
    all_goals repeat (first | exact Below.refl _ _ | refine bSet ?_ (by first | (simp; done) | (simp; omega)) _ | refine bAlloc ?_ _ | refine Below.drew ?_ | refine bDrewN ?_ _ | assumption | refine bTrans ?_ hbC | refine bTrans ?_ hbB | refine bTrans ?_ hbA)
  case rest =>
    obtain ⟨rfl, rfl, B1, B2, hb⟩ := hcut
    obtain ⟨i0, i1, j0, j1, l1⟩ := B1
    obtain ⟨i2, i3, j2, j3, l2⟩ := B2
    go_upto_region 2 with fail
    go_cut [9, 10] (fun s7 s8 wx => s7 = .int .i64 x ∧ s8 = .int .i64 y ∧ Below w.heap.size w wx)
    case first =>
      go_region_held3 (fun w' => w'.cell? ⟨w.heap.size, 0, none⟩ = some (.int .i64 a) ∧ w'.cell? ⟨w.heap.size, 1, none⟩ = some (.int .i64 b) ∧ w'.cell? ⟨w.heap.size + 1, 0, none⟩ = some (.int .i64 c) ∧ w'.cell? ⟨w.heap.size + 1, 1, none⟩ = some (.int .i64 d)) (go_keep)
        (first | (go_at_call_of 49 (Value.agg #[.int .i64 a, .int .i64 b]); refine (toBlades_any _ _ _).mono ?_; rintro e uA ⟨rfl, hbA⟩; have B1 : Bk uA w.heap.size a b := bkOf hbA (by refine ⟨?_, ?_, ?_, ?_, ?_⟩ <;> go_simp); have B2 : Bk uA (w.heap.size + 1) c d := bkOf hbA (by refine ⟨?_, ?_, ?_, ?_, ?_⟩ <;> go_simp); obtain ⟨iuA0, iuA1, juA0, juA1, luA1⟩ := B1; obtain ⟨iuA2, iuA3, juA2, juA3, luA2⟩ := B2; obtain ⟨puA0, puA1, puA2, puA3⟩ := neOf9 luA2) | (go_at_call_of 49 (Value.agg #[.int .i64 c, .int .i64 d]); refine (toBlades_any _ _ _).mono ?_; rintro e uB ⟨rfl, hbB⟩; have B1 : Bk uB w.heap.size a b := bkOf hbB (by refine ⟨?_, ?_, ?_, ?_, ?_⟩ <;> go_simp); have B2 : Bk uB (w.heap.size + 1) c d := bkOf hbB (by refine ⟨?_, ?_, ?_, ?_, ?_⟩ <;> go_simp); obtain ⟨iuB0, iuB1, juB0, juB1, luB1⟩ := B1; obtain ⟨iuB2, iuB3, juB2, juB3, luB2⟩ := B2; obtain ⟨puB0, puB1, puB2, puB3⟩ := neOf9 luB2) | (go_at_call 36; refine (I.out _).mono ?_; rintro e uC ⟨rfl, hbC⟩; have B1 : Bk uC w.heap.size a b := bkOf hbC (by refine ⟨?_, ?_, ?_, ?_, ?_⟩ <;> go_simp); have B2 : Bk uC (w.heap.size + 1) c d := bkOf hbC (by refine ⟨?_, ?_, ?_, ?_, ?_⟩ <;> go_simp); obtain ⟨iuC0, iuC1, juC0, juC1, luC1⟩ := B1; obtain ⟨iuC2, iuC3, juC2, juC3, luC2⟩ := B2; obtain ⟨puC0, puC1, puC2, puC3⟩ := neOf9 luC2))
      all_goals go_wp2_with fail
      all_goals go_meet
      all_goals refine ⟨rfl, rfl, ?_⟩
      all_goals repeat (first | exact Below.refl _ _ | refine bSet ?_ (by first | (simp; done) | (simp; omega)) _ | refine bAlloc ?_ _ | refine Below.drew ?_ | refine bDrewN ?_ _ | assumption | refine bTrans ?_ hbC | refine bTrans ?_ hbB | refine bTrans ?_ hbA)
    case rest =>
      obtain ⟨rfl, rfl, hb2⟩ := hcut
      go_wp2_with fail
      go_ret
      exact ⟨rfl, hb2⟩

set_option maxHeartbeats 2000000 in
theorem lawBestOffset_of (a b c d x y z : Int) (w : World)
    (hs : ∀ w : World, Calls Try.prog 48 #[fr a b, fr c d] w fun e w' => e = .returned (.tuple #[.int .i64 x, .int .i64 y, .int .i64 z]) ∧ Below w.heap.size w w')
    (hi : ∀ w : World, Calls Try.prog 47 #[fr a b, fr c d] w fun e w' => e = .returned (.tuple #[.int .i64 x, .int .i64 y, .int .i64 z]) ∧ Below w.heap.size w w') :
    Calls Try.prog 16 #[fr a b, fr c d] w fun e w' => e = .returned (.bool true) ∧ Below w.heap.size w w' := by
  have S := Lib.hid hs
  have I := Lib.hid hi
  clear hs hi
  go_enter Try.func16, Try.ntmps16
  go_upto_region 1 with fail
  go_cut [5, 6, 7] (fun s5 s6 s7 wx => s5 = .int .i64 x ∧ s6 = .int .i64 y ∧ s7 = .int .i64 z ∧ Bk wx w.heap.size a b ∧ Bk wx (w.heap.size + 1) c d ∧ Below w.heap.size w wx)
  case first =>
    go_region_held3 (fun w' => w'.cell? ⟨w.heap.size, 0, none⟩ = some (.int .i64 a) ∧ w'.cell? ⟨w.heap.size, 1, none⟩ = some (.int .i64 b) ∧ w'.cell? ⟨w.heap.size + 1, 0, none⟩ = some (.int .i64 c) ∧ w'.cell? ⟨w.heap.size + 1, 1, none⟩ = some (.int .i64 d)) (go_keep)
      (first | (go_at_call_of 49 (Value.agg #[.int .i64 a, .int .i64 b]); refine (toBlades_any _ _ _).mono ?_; rintro e uA ⟨rfl, hbA⟩; have B1 : Bk uA w.heap.size a b := bkOf hbA (by refine ⟨?_, ?_, ?_, ?_, ?_⟩ <;> go_simp); have B2 : Bk uA (w.heap.size + 1) c d := bkOf hbA (by refine ⟨?_, ?_, ?_, ?_, ?_⟩ <;> go_simp); obtain ⟨iuA0, iuA1, juA0, juA1, luA1⟩ := B1; obtain ⟨iuA2, iuA3, juA2, juA3, luA2⟩ := B2; obtain ⟨puA0, puA1, puA2, puA3⟩ := neOf9 luA2) | (go_at_call_of 49 (Value.agg #[.int .i64 c, .int .i64 d]); refine (toBlades_any _ _ _).mono ?_; rintro e uB ⟨rfl, hbB⟩; have B1 : Bk uB w.heap.size a b := bkOf hbB (by refine ⟨?_, ?_, ?_, ?_, ?_⟩ <;> go_simp); have B2 : Bk uB (w.heap.size + 1) c d := bkOf hbB (by refine ⟨?_, ?_, ?_, ?_, ?_⟩ <;> go_simp); obtain ⟨iuB0, iuB1, juB0, juB1, luB1⟩ := B1; obtain ⟨iuB2, iuB3, juB2, juB3, luB2⟩ := B2; obtain ⟨puB0, puB1, puB2, puB3⟩ := neOf9 luB2) | (go_at_call 48; refine (S.out _).mono ?_; rintro e uC ⟨rfl, hbC⟩; have B1 : Bk uC w.heap.size a b := bkOf hbC (by refine ⟨?_, ?_, ?_, ?_, ?_⟩ <;> go_simp); have B2 : Bk uC (w.heap.size + 1) c d := bkOf hbC (by refine ⟨?_, ?_, ?_, ?_, ?_⟩ <;> go_simp); obtain ⟨iuC0, iuC1, juC0, juC1, luC1⟩ := B1; obtain ⟨iuC2, iuC3, juC2, juC3, luC2⟩ := B2; obtain ⟨puC0, puC1, puC2, puC3⟩ := neOf9 luC2))
    all_goals go_wp2_with fail
    all_goals go_meet
    all_goals refine ⟨rfl, rfl, rfl, (by refine ⟨?_, ?_, ?_, ?_, ?_⟩ <;> go_simp), (by refine ⟨?_, ?_, ?_, ?_, ?_⟩ <;> go_simp), ?_⟩
    all_goals repeat (first | exact Below.refl _ _ | refine bSet ?_ (by first | (simp; done) | (simp; omega)) _ | refine bAlloc ?_ _ | refine Below.drew ?_ | refine bDrewN ?_ _ | assumption | refine bTrans ?_ hbC | refine bTrans ?_ hbB | refine bTrans ?_ hbA)
  case rest =>
    obtain ⟨rfl, rfl, rfl, B1, B2, hb⟩ := hcut
    obtain ⟨i0, i1, j0, j1, l1⟩ := B1
    obtain ⟨i2, i3, j2, j3, l2⟩ := B2
    go_upto_region 2 with fail
    go_cut [8, 9, 10] (fun s8 s9 s10 wx => s8 = .int .i64 x ∧ s9 = .int .i64 y ∧ s10 = .int .i64 z ∧ Below w.heap.size w wx)
    case first =>
      go_region_held3 (fun w' => w'.cell? ⟨w.heap.size, 0, none⟩ = some (.int .i64 a) ∧ w'.cell? ⟨w.heap.size, 1, none⟩ = some (.int .i64 b) ∧ w'.cell? ⟨w.heap.size + 1, 0, none⟩ = some (.int .i64 c) ∧ w'.cell? ⟨w.heap.size + 1, 1, none⟩ = some (.int .i64 d)) (go_keep)
        (first | (go_at_call_of 49 (Value.agg #[.int .i64 a, .int .i64 b]); refine (toBlades_any _ _ _).mono ?_; rintro e uA ⟨rfl, hbA⟩; have B1 : Bk uA w.heap.size a b := bkOf hbA (by refine ⟨?_, ?_, ?_, ?_, ?_⟩ <;> go_simp); have B2 : Bk uA (w.heap.size + 1) c d := bkOf hbA (by refine ⟨?_, ?_, ?_, ?_, ?_⟩ <;> go_simp); obtain ⟨iuA0, iuA1, juA0, juA1, luA1⟩ := B1; obtain ⟨iuA2, iuA3, juA2, juA3, luA2⟩ := B2; obtain ⟨puA0, puA1, puA2, puA3⟩ := neOf9 luA2) | (go_at_call_of 49 (Value.agg #[.int .i64 c, .int .i64 d]); refine (toBlades_any _ _ _).mono ?_; rintro e uB ⟨rfl, hbB⟩; have B1 : Bk uB w.heap.size a b := bkOf hbB (by refine ⟨?_, ?_, ?_, ?_, ?_⟩ <;> go_simp); have B2 : Bk uB (w.heap.size + 1) c d := bkOf hbB (by refine ⟨?_, ?_, ?_, ?_, ?_⟩ <;> go_simp); obtain ⟨iuB0, iuB1, juB0, juB1, luB1⟩ := B1; obtain ⟨iuB2, iuB3, juB2, juB3, luB2⟩ := B2; obtain ⟨puB0, puB1, puB2, puB3⟩ := neOf9 luB2) | (go_at_call 47; refine (I.out _).mono ?_; rintro e uC ⟨rfl, hbC⟩; have B1 : Bk uC w.heap.size a b := bkOf hbC (by refine ⟨?_, ?_, ?_, ?_, ?_⟩ <;> go_simp); have B2 : Bk uC (w.heap.size + 1) c d := bkOf hbC (by refine ⟨?_, ?_, ?_, ?_, ?_⟩ <;> go_simp); obtain ⟨iuC0, iuC1, juC0, juC1, luC1⟩ := B1; obtain ⟨iuC2, iuC3, juC2, juC3, luC2⟩ := B2; obtain ⟨puC0, puC1, puC2, puC3⟩ := neOf9 luC2))
      all_goals go_wp2_with fail
      all_goals go_meet
      all_goals refine ⟨rfl, rfl, rfl, ?_⟩
      all_goals repeat (first | exact Below.refl _ _ | refine bSet ?_ (by first | (simp; done) | (simp; omega)) _ | refine bAlloc ?_ _ | refine Below.drew ?_ | refine bDrewN ?_ _ | assumption | refine bTrans ?_ hbC | refine bTrans ?_ hbB | refine bTrans ?_ hbA)
    case rest =>
      obtain ⟨rfl, rfl, rfl, hb2⟩ := hcut
      go_wp2_with fail
      go_ret
      exact ⟨rfl, hb2⟩

/-- laws.FnExactTwoWheels. -/
theorem law_TwoWheels (m o m2 o2 y : Int) (w : World) (_hy : I64 y) :
    Calls Try.prog 15 #[fr m o, fr m2 o2, .int .i64 y] w fun e w' => e = .returned (.bool true) ∧ Below w.heap.size w w' := by
  cases h1 : bladesB m o
  · exact lawTwoWheels_of m o m2 o2 y _ 1 w (fun w => specTwo_bad1 m o m2 o2 y w h1) (fun w => implTwo_bad1 m o m2 o2 y w h1)
  · cases h2 : bladesB m2 o2
    · exact lawTwoWheels_of m o m2 o2 y _ 1 w (fun w => specTwo_bad2 m o m2 o2 y w h1 h2) (fun w => implTwo_bad2 m o m2 o2 y w h1 h2)
    · cases h4 : inB y 0 999
      · exact lawTwoWheels_of m o m2 o2 y _ 2 w (fun w => specTwo_off m o m2 o2 y w h1 h2 h4) (fun w => implTwo_off m o m2 o2 y w h1 h2 h4)
      · obtain ⟨Ma, Sa, Ga, WA⟩ := Wh.of h1
        obtain ⟨Mb, Sb, Gb, WB⟩ := Wh.of h2
        obtain ⟨y0, y1⟩ := inB_iff.1 h4
        obtain ⟨k, rfl⟩ := Int.eq_ofNat_of_zero_le y0
        exact lawTwoWheels_of m o m2 o2 k _ 0 w (fun w => specTwo_yes m o m2 o2 WA WB h1 h2 k h4 w) (fun w => implTwo_yes m o m2 o2 WA WB h1 h2 k h4 w)

/-- laws.FnExactBestOffset. -/
theorem law_BestOffset (m o m2 o2 : Int) (w : World) :
    Calls Try.prog 16 #[fr m o, fr m2 o2] w fun e w' => e = .returned (.bool true) ∧ Below w.heap.size w w' := by
  cases h1 : bladesB m o
  · exact lawBestOffset_of m o m2 o2 _ _ 1 w (fun w => specBest_bad1 m o m2 o2 w h1) (fun w => implBest_bad1 m o m2 o2 w h1)
  · cases h2 : bladesB m2 o2
    · exact lawBestOffset_of m o m2 o2 _ _ 1 w (fun w => specBest_bad2 m o m2 o2 w h1 h2) (fun w => implBest_bad2 m o m2 o2 w h1 h2)
    · obtain ⟨Ma, Sa, Ga, WA⟩ := Wh.of h1
      obtain ⟨Mb, Sb, Gb, WB⟩ := Wh.of h2
      obtain ⟨B, M, hT⟩ := IsTop.exists (litN Sa Ga Sb Gb) 999
      exact lawBestOffset_of m o m2 o2 B M 0 w (fun w => specBest_yes m o m2 o2 WA WB h1 h2 B M hT w) (fun w => implBest_yes m o m2 o2 WA WB h1 h2 B M hT w)

end Go.Proofs.Ytflgjohknjgdcaa
