/- The statements on two fractions: their own walks. -/
import Derived.Test.YtfbdeeobmjndlaaProg
import Derived.Test.YtfbdeeobmjndlaaTurns
import Derived.Deep.RegionWith
import Derived.Deep.DrawnRows
import Derived.Laws.StructEq
import Derived.Deep.DeepCutAuto
import Derived.Tactics
import Derived.Tactics2
import Derived.WalkKit
import Derived.LoopTactic
import Derived.BigQuiet
import Derived.RegionTactic
import Derived.BigRegion
import Derived.ChangeAlike
import Derived.Deep.QuietTactic
import Derived.Deep.RegionHeld3
import Derived.Deep.DeepCutAuto
import Derived.Outline
import Derived.Lib.Hide
import Derived.Below
import Derived.KernelRfl
namespace Go.Proofs.Ytfbdeeobmjndlaa
set_option linter.unusedSimpArgs false
set_option linter.unusedVariables false
open Go.RowKit
attribute [local go_sem ↓] Go.wp_at_zero Go.wp_at_succ

theorem neOf {k u : Nat} (h : k + 1 < u) : ¬ k = u ∧ ¬ u = k ∧ ¬ k + 1 = u ∧ ¬ u = k + 1 := by omega
theorem neOf1 {k u : Nat} (h : k < u) : ¬ k = u ∧ ¬ u = k := by omega
theorem cutOf {P Q : Prop} (h : P) (k : P → Q) : Q := k h

end Go.Proofs.Ytfbdeeobmjndlaa
