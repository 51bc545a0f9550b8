/- Fractions out of two numbers, whole turns, rates behind a pair of wheels: in the program and in the model; and the statements' own walks. -/
import Derived.Test.YtfbdeeobmjndlaaProg
import Derived.Test.YtfbdeeobmjndlaaTwo
import Derived.Deep.RegionWith
import Derived.Deep.DrawnRows
import Derived.Laws.StructEq
import Derived.Tactics
import Derived.Tactics2
import Derived.WalkKit
import Derived.LoopTactic
import Derived.BigQuiet
import Derived.RegionTactic
import Derived.BigRegion
import Derived.ChangeAlike
import Derived.Deep.QuietTactic
import Derived.Deep.RegionHeld3
import Derived.Deep.DeepCutAuto
import Derived.Outline
import Derived.Lib.Hide
import Derived.Below
import Derived.KernelRfl
namespace Go.Proofs.Ytfbdeeobmjndlaa
set_option linter.unusedSimpArgs false
set_option linter.unusedVariables false
open Go.RowKit

theorem fullV_neg (n d : Int) (h : d < 0) : fullV (-n) (-d) = fullV n d := by
  have e1 : divI n d = -(Nat.gcd n.natAbs d.natAbs : Nat) := if_pos h
  have e2 : divI (-n) (-d) = (Nat.gcd n.natAbs d.natAbs : Nat) := by
    rw [divI, if_neg (by omega), Int.natAbs_neg, Int.natAbs_neg]
  rw [fullV, fullV, fullB, fullB, e1, e2, Int.neg_tdiv, Int.neg_tdiv, Int.tdiv_neg, Int.tdiv_neg]

/-- What MakeFraction takes. -/
def giveB (n d : Int) : Bool := inB n (-1000000000000) 1000000000000 && inB d (-1000000000000) 1000000000000 && !(d == 0)

end Go.Proofs.Ytfbdeeobmjndlaa
