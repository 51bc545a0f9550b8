/- The operations on two fractions, in the program and in the model. -/
import Derived.Test.YtibafngidpmgdaaProg
import Derived.Test.YtibafngidpmgdaaFull
import Derived.Test.YtibafngidpmgdaaLcm
import Derived.Deep.RegionWith
import Derived.Deep.DrawnRows
import Derived.Laws.StructEq
import Derived.Tactics
import Derived.Tactics2
import Derived.WalkKit
import Derived.LoopTactic
import Derived.BigQuiet
import Derived.RegionTactic
import Derived.BigRegion
import Derived.ChangeAlike
import Derived.Deep.QuietTactic
import Derived.Deep.RegionHeld3
import Derived.Deep.DeepCutAuto
import Derived.Outline
import Derived.Lib.Hide
import Derived.Below
import Derived.KernelRfl
namespace Go.Proofs.Ytibafngidpmgdaa
set_option linter.unusedSimpArgs false
set_option linter.unusedVariables false
open Go.RowKit

theorem mul_bd {x y m k : Int} (h1 : -m ≤ x) (h2 : x ≤ m) (h3 : -k ≤ y) (h4 : y ≤ k) : -(m * k) ≤ x * y ∧ x * y ≤ m * k := by
  have e : (x * y).natAbs = x.natAbs * y.natAbs := Int.natAbs_mul x y
  have f : x.natAbs * y.natAbs ≤ m.natAbs * k.natAbs := Nat.mul_le_mul (by omega) (by omega)
  have g : (m * k).natAbs = m.natAbs * k.natAbs := Int.natAbs_mul m k
  have h : 0 ≤ m * k := Int.mul_nonneg (by omega) (by omega)
  omega

theorem w64quo (b G d : Nat) (q1 : b / G ≤ b) (q2 : b / G * d ≤ 1000000 * 1000000) (hb : b ≤ 1000000) : ((b / G * d : Nat) : Int) = wrap64 (wrap64 ((b : Int) / (G : Int)) * (d : Int)) := by
  rw [← Int.natCast_ediv]
  generalize b / G = q at *
  have e1 : wrap64 (q : Int) = q := by unfold wrap64; omega
  rw [e1, ← Int.natCast_mul]
  generalize q * d = r at *
  unfold wrap64
  omega

end Go.Proofs.Ytibafngidpmgdaa
