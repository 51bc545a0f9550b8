/- Open parts: the parts between two; in the program and in the model. -/
import Derived.Test.YtflgjohknjgdcaaProg
import Derived.Test.YtflgjohknjgdcaaParts
import Derived.Laws.Cover1
import Derived.Deep.RegionWith
import Derived.Deep.RegionHeld3
import Derived.Deep.DrawnRows
import Derived.Deep.DeepCutAuto
import Derived.Tactics
import Derived.Tactics2
import Derived.WalkKit
import Derived.LoopTactic
import Derived.BigQuiet
import Derived.BigRegion
import Derived.RegionTactic
import Derived.Deep.QuietTactic
import Derived.Outline
import Derived.Lib.Hide
import Derived.Below
import Derived.KernelRfl
namespace Go.Proofs.Ytflgjohknjgdcaa
set_option linter.unusedSimpArgs false
set_option linter.unusedVariables false
open Go.RowKit

theorem mono_facts {S G x y : Nat} (h : x ≤ y) (hy : y ≤ 1000) : IntKind.i64.wrap ((beforeN S G y : Int) - (beforeN S G x : Int)) = ((beforeN S G y - beforeN S G x : Nat) : Int) := by
  have h1 := beforeN_mono S G h
  have h2 := beforeN_le S G y
  rw [IntWalk.i64_in _ (by omega)]
  omega

set_option maxHeartbeats 4000000 in
set_option maxRecDepth 100000 in
theorem implParts_yes (m o : Int) {M S G : Nat} (W : Wh m o M S G) (h1 : bladesB m o = true) (x y : Nat) (h : x ≤ y) (hy : y ≤ 1000) (w : World) :
    Calls Try.prog 28 #[fr m o, .int .i64 x, .int .i64 y] w fun e w' => e = .returned (.tuple #[.int .i64 (beforeN S G y - beforeN S G x : Nat), .int .i64 0]) ∧ Below w.heap.size w w' := by
  have e1 := mono_facts (S := S) (G := G) h hy
  have OX := Lib.hid (fun w => openBefore_any m o W x (by omega) w)
  have OY := Lib.hid (fun w => openBefore_any m o W y (by omega) w)
  have x0 : ¬ (x : Int) < 0 := by omega
  have x1 : ¬ (y : Int) < (x : Int) := by omega
  have x2 : ¬ 1000 < (y : Int) := by omega
  generalize beforeN S G y - beforeN S G x = d at *
  generalize beforeN S G y = by1 at *
  generalize beforeN S G x = bx1 at *
  go_enter Try.func28, Try.ntmps28
  go_wp2_with fail
  refine (validBlades_any m o _).mono ?_
  rintro e u3 ⟨rfl, hb1⟩
  have B0 : Bk u3 w.heap.size m o := bkOf hb1 (by refine ⟨?_, ?_, ?_, ?_, ?_⟩ <;> go_simp)
  obtain ⟨a0, b0, f0, g0, z0⟩ := B0
  have h0 := Lib.hid (bTrans (bAlloc (Below.refl w.heap.size w) _) hb1)
  clear hb1
  go_upto_region 5 with fail
  have MK := Lib.hid (fun v (hb : Below u3.heap.size u3 v) => (⟨(hb.cell (p := ⟨w.heap.size, 0, none⟩) z0).trans a0, (hb.cell (p := ⟨w.heap.size, 1, none⟩) z0).trans b0, hb⟩ : v.cell? ⟨w.heap.size, 0, none⟩ = some (.int .i64 m) ∧ v.cell? ⟨w.heap.size, 1, none⟩ = some (.int .i64 o) ∧ Below u3.heap.size u3 v))
  have HB := Lib.hid (Below.refl u3.heap.size u3)
  go_region_held3 (fun v => v.cell? ⟨w.heap.size, 0, none⟩ = some (.int .i64 m) ∧ v.cell? ⟨w.heap.size, 1, none⟩ = some (.int .i64 o) ∧ Below u3.heap.size u3 v) ((refine MK.out _ ?_; repeat (first | with_reducible exact HB.out | with_reducible exact Below.refl _ _ | with_reducible refine Below.drew ?_))) (first | (go_at_call 74; (first | with_reducible refine (OY.out _).mono ?_ | with_reducible refine (OX.out _).mono ?_); rintro e v ⟨rfl, hbv⟩; have HB := Lib.hid (bTrans (‹_ ∧ _ ∧ Below _ u3 _›).2.2 hbv)))
  all_goals go_wp2_with fail
  all_goals go_ret2
  all_goals exact ⟨rfl, h0.out.trans (HB.out.mono (Nat.le_of_lt z0))⟩

end Go.Proofs.Ytflgjohknjgdcaa
