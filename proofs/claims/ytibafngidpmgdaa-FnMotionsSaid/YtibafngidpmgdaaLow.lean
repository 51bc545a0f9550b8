/- What the lowest terms of a fraction are, in the program and in the model. -/
import Derived.Test.YtibafngidpmgdaaProg
import Derived.Test.YtibafngidpmgdaaLeaf
import Derived.Tactics
import Derived.Tactics2
import Derived.WalkKit
import Derived.LoopTactic
import Derived.BigQuiet
import Derived.RegionTactic
import Derived.BigRegion
import Derived.ChangeAlike
import Derived.Deep.QuietTactic
import Derived.Deep.RegionHeld3
import Derived.Deep.DeepCutAuto
import Derived.Outline
import Derived.Lib.Hide
import Derived.Below
import Derived.KernelRfl
namespace Go.Proofs.Ytibafngidpmgdaa
set_option linter.unusedSimpArgs false
set_option linter.unusedVariables false
open Go.RowKit

/-- The divisor of a fraction's terms that leaves it in lowest terms, its denominator positive. -/
def divI (n d : Int) : Int := if d < 0 then -(Nat.gcd n.natAbs d.natAbs : Nat) else (Nat.gcd n.natAbs d.natAbs : Nat)

theorem gcd_le_right' (a b : Nat) (hb : b ≠ 0) : 1 ≤ Nat.gcd a b ∧ Nat.gcd a b ≤ b :=
  ⟨Nat.gcd_pos_of_pos_right a (by omega), Nat.gcd_le_right a (by omega)⟩

theorem tdiv_le (n : Int) (G : Nat) : (n.tdiv G).natAbs ≤ n.natAbs := by
  rw [Int.natAbs_tdiv]; exact Nat.div_le_self _ _

theorem ret_fr {a b c d : Int} (h : a = c) (k : b = d) : Ending.returned (fr a b) = .returned (fr c d) := by rw [h, k]

end Go.Proofs.Ytibafngidpmgdaa
