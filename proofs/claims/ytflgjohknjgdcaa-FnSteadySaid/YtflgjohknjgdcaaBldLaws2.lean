/- The statement on a wheel, a rate and a number: its own walk. -/
import Derived.Test.YtflgjohknjgdcaaProg
import Derived.Test.YtflgjohknjgdcaaBldFn4
import Derived.Test.YtflgjohknjgdcaaBldLaws1
import Derived.Laws.Cover1
import Derived.Deep.RegionWith
import Derived.Deep.DrawnRows
import Derived.Deep.RegionHeld3
import Derived.Deep.DeepCutAuto
import Derived.Laws.StructEq
import Derived.Tactics
import Derived.Tactics2
import Derived.WalkKit
import Derived.LoopTactic
import Derived.BigQuiet
import Derived.RegionTactic
import Derived.Deep.QuietTactic
import Derived.Outline
import Derived.Lib.Hide
import Derived.Below
import Derived.KernelRfl
namespace Go.Proofs.Ytflgjohknjgdcaa
set_option linter.unusedSimpArgs false
set_option linter.unusedVariables false
open Go.RowKit

set_option maxHeartbeats 2000000 in
theorem lawIsSteady_of (a b c d l : Int) (x : Bool) (y : Int) (w : World)
    (hs : ∀ w : World, Calls Try.prog 20 #[fr a b, fr c d, .int .i64 l] w fun e w' => e = .returned (.tuple #[.bool x, .int .i64 y]) ∧ Below w.heap.size w w')
    (hi : ∀ w : World, Calls Try.prog 19 #[fr a b, fr c d, .int .i64 l] w fun e w' => e = .returned (.tuple #[.bool x, .int .i64 y]) ∧ Below w.heap.size w w') :
    Calls Try.prog 9 #[fr a b, fr c d, .int .i64 l] w fun e w' => e = .returned (.bool true) ∧ Below w.heap.size w w' := by
  have S := Lib.hid hs
  have I := Lib.hid hi
  clear hs hi
  go_enter Try.func9, Try.ntmps9
  go_upto_region 1 with fail
  go_cut [7, 8] (fun s5 s6 wx => s5 = .bool x ∧ s6 = .int .i64 y ∧ Bk wx w.heap.size a b ∧ Bk wx (w.heap.size + 1) c d ∧ Below w.heap.size w wx)
  case first =>
    go_region_held3 (fun w' => w'.cell? ⟨w.heap.size, 0, none⟩ = some (.int .i64 a) ∧ w'.cell? ⟨w.heap.size, 1, none⟩ = some (.int .i64 b) ∧ w'.cell? ⟨w.heap.size + 1, 0, none⟩ = some (.int .i64 c) ∧ w'.cell? ⟨w.heap.size + 1, 1, none⟩ = some (.int .i64 d)) (go_keep)
      (first | (go_at_call_of 49 (Value.agg #[.int .i64 a, .int .i64 b]); refine (toBlades_any _ _ _).mono ?_; rintro e uA ⟨rfl, hbA⟩; have B1 : Bk uA w.heap.size a b := bkOf hbA (by refine ⟨?_, ?_, ?_, ?_, ?_⟩ <;> go_simp); have B2 : Bk uA (w.heap.size + 1) c d := bkOf hbA (by refine ⟨?_, ?_, ?_, ?_, ?_⟩ <;> go_simp); obtain ⟨iuA0, iuA1, juA0, juA1, luA1⟩ := B1; obtain ⟨iuA2, iuA3, juA2, juA3, luA2⟩ := B2; obtain ⟨puA0, puA1, puA2, puA3⟩ := neOf9 luA2) | (go_at_call_of 50 (Value.agg #[.int .i64 c, .int .i64 d]); refine (toFraction_any _ _ _).mono ?_; rintro e uB ⟨rfl, hbB⟩; have B1 : Bk uB w.heap.size a b := bkOf hbB (by refine ⟨?_, ?_, ?_, ?_, ?_⟩ <;> go_simp); have B2 : Bk uB (w.heap.size + 1) c d := bkOf hbB (by refine ⟨?_, ?_, ?_, ?_, ?_⟩ <;> go_simp); obtain ⟨iuB0, iuB1, juB0, juB1, luB1⟩ := B1; obtain ⟨iuB2, iuB3, juB2, juB3, luB2⟩ := B2; obtain ⟨puB0, puB1, puB2, puB3⟩ := neOf9 luB2) | (go_at_call 20; refine (S.out _).mono ?_; rintro e uC ⟨rfl, hbC⟩; have B1 : Bk uC w.heap.size a b := bkOf hbC (by refine ⟨?_, ?_, ?_, ?_, ?_⟩ <;> go_simp); have B2 : Bk uC (w.heap.size + 1) c d := bkOf hbC (by refine ⟨?_, ?_, ?_, ?_, ?_⟩ <;> go_simp); obtain ⟨iuC0, iuC1, juC0, juC1, luC1⟩ := B1; obtain ⟨iuC2, iuC3, juC2, juC3, luC2⟩ := B2; obtain ⟨puC0, puC1, puC2, puC3⟩ := neOf9 luC2))
    all_goals go_wp2_with fail
    all_goals go_meet
    all_goals refine ⟨rfl, rfl, (by refine ⟨?_, ?_, ?_, ?_, ?_⟩ <;> go_simp), (by refine ⟨?_, ?_, ?_, ?_, ?_⟩ <;> go_simp), ?_⟩
    all_goals repeat (first | exact Below.refl _ _ | refine bSet ?_ (by first | (simp; done) | (simp; omega)) _ | refine bAlloc ?_ _ | refine Below.drew ?_ | refine bDrewN ?_ _ | assumption | refine bTrans ?_ hbC | refine bTrans ?_ hbB | refine bTrans ?_ hbA)
  case rest =>
    obtain ⟨rfl, rfl, B1, B2, hb⟩ := hcut
    obtain ⟨i0, i1, j0, j1, l1⟩ := B1
    obtain ⟨i2, i3, j2, j3, l2⟩ := B2
    go_upto_region 2 with fail
    go_cut [9, 10] (fun s7 s8 wx => s7 = .bool x ∧ s8 = .int .i64 y ∧ Below w.heap.size w wx)
    case first =>
      go_region_held3 (fun w' => w'.cell? ⟨w.heap.size, 0, none⟩ = some (.int .i64 a) ∧ w'.cell? ⟨w.heap.size, 1, none⟩ = some (.int .i64 b) ∧ w'.cell? ⟨w.heap.size + 1, 0, none⟩ = some (.int .i64 c) ∧ w'.cell? ⟨w.heap.size + 1, 1, none⟩ = some (.int .i64 d)) (go_keep)
        (first | (go_at_call_of 49 (Value.agg #[.int .i64 a, .int .i64 b]); refine (toBlades_any _ _ _).mono ?_; rintro e uA ⟨rfl, hbA⟩; have B1 : Bk uA w.heap.size a b := bkOf hbA (by refine ⟨?_, ?_, ?_, ?_, ?_⟩ <;> go_simp); have B2 : Bk uA (w.heap.size + 1) c d := bkOf hbA (by refine ⟨?_, ?_, ?_, ?_, ?_⟩ <;> go_simp); obtain ⟨iuA0, iuA1, juA0, juA1, luA1⟩ := B1; obtain ⟨iuA2, iuA3, juA2, juA3, luA2⟩ := B2; obtain ⟨puA0, puA1, puA2, puA3⟩ := neOf9 luA2) | (go_at_call_of 50 (Value.agg #[.int .i64 c, .int .i64 d]); refine (toFraction_any _ _ _).mono ?_; rintro e uB ⟨rfl, hbB⟩; have B1 : Bk uB w.heap.size a b := bkOf hbB (by refine ⟨?_, ?_, ?_, ?_, ?_⟩ <;> go_simp); have B2 : Bk uB (w.heap.size + 1) c d := bkOf hbB (by refine ⟨?_, ?_, ?_, ?_, ?_⟩ <;> go_simp); obtain ⟨iuB0, iuB1, juB0, juB1, luB1⟩ := B1; obtain ⟨iuB2, iuB3, juB2, juB3, luB2⟩ := B2; obtain ⟨puB0, puB1, puB2, puB3⟩ := neOf9 luB2) | (go_at_call 19; refine (I.out _).mono ?_; rintro e uC ⟨rfl, hbC⟩; have B1 : Bk uC w.heap.size a b := bkOf hbC (by refine ⟨?_, ?_, ?_, ?_, ?_⟩ <;> go_simp); have B2 : Bk uC (w.heap.size + 1) c d := bkOf hbC (by refine ⟨?_, ?_, ?_, ?_, ?_⟩ <;> go_simp); obtain ⟨iuC0, iuC1, juC0, juC1, luC1⟩ := B1; obtain ⟨iuC2, iuC3, juC2, juC3, luC2⟩ := B2; obtain ⟨puC0, puC1, puC2, puC3⟩ := neOf9 luC2))
      all_goals go_wp2_with fail
      all_goals go_meet
      all_goals refine ⟨rfl, rfl, ?_⟩
      all_goals repeat (first | exact Below.refl _ _ | refine bSet ?_ (by first | (simp; done) | (simp; omega)) _ | refine bAlloc ?_ _ | refine Below.drew ?_ | refine bDrewN ?_ _ | assumption | refine bTrans ?_ hbC | refine bTrans ?_ hbB | refine bTrans ?_ hbA)
    case rest =>
      obtain ⟨rfl, rfl, hb2⟩ := hcut
      go_wp2_with fail
      go_ret
      exact ⟨rfl, hb2⟩

/-- laws.FnExactIsSteady. -/
theorem law_IsSteady (m o n d l : Int) (w : World) (hn : I64 n) (_hd : I64 d) (_hl : I64 l) :
    Calls Try.prog 9 #[fr m o, fr n d, .int .i64 l] w fun e w' => e = .returned (.bool true) ∧ Below w.heap.size w w' := by
  cases h1 : bladesB m o
  · exact lawIsSteady_of m o n d l _ 1 w (fun w => specSteady_bad m o n d l w hn (by simp [h1])) (fun w => implSteady_bad1 m o n d l w h1)
  · cases h2 : okB n d
    · exact lawIsSteady_of m o n d l _ 1 w (fun w => specSteady_bad m o n d l w hn (by simp [h2])) (fun w => implSteady_bad2 m o n d l w h1 h2)
    · cases h3 : rateB n d
      · exact lawIsSteady_of m o n d l _ 2 w (fun w => specSteady_off1 m o n d l w hn (by simp [h1, h2]) (by simp [h3])) (fun w => implSteady_off1 m o n d l w h1 h2 h3)
      · cases h4 : inB l 1 200
        · exact lawIsSteady_of m o n d l _ 2 w (fun w => specSteady_off2 m o n d l w hn (by simp [h1, h2]) (by simp [h3]) h4) (fun w => implSteady_off2 m o n d l w h1 h2 h3 h4)
        · exact lawIsSteady_of m o n d l _ 0 w (fun w => specSteady_yes m o n d l w hn h1 h2 h3 h4) (fun w => implSteady_yes m o n d l w h1 h2 h3 h4)

end Go.Proofs.Ytflgjohknjgdcaa
