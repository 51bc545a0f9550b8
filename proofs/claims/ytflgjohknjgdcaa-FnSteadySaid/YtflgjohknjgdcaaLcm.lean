/- The least common multiple: the program. -/
import Derived.Test.YtflgjohknjgdcaaProg





import Derived.Deep.AppendLies
import Derived.Deep.DrawnRows
import Derived.Test.YtflgjohknjgdcaaLeaf
import Derived.IntWalk
import Derived.WalkSpells
import Derived.OwnWalk
import Derived.Laws.AppendOwn
import Derived.Laws.OwnMore
import Derived.Deep.RegionWith
import Derived.Deep.DrawnRows
import Derived.Deep.RegionHeld3
import Derived.Tactics
import Derived.Tactics2
import Derived.WalkKit
import Derived.LoopTactic
import Derived.BigQuiet
import Derived.RegionTactic
import Derived.Deep.QuietTactic
import Derived.Outline
import Derived.Lib.Hide
import Derived.Below
import Derived.KernelRfl
namespace Go.Proofs.Ytflgjohknjgdcaa
set_option linter.unusedSimpArgs false
set_option linter.unusedVariables false
open Go.RowKit

theorem lcm_bd {a b : Nat} {m : Nat} (ha : 1 ≤ a) (ha2 : a ≤ m) (hb : 1 ≤ b) (hb2 : b ≤ m) : a / Nat.gcd a b ≤ a ∧ a / Nat.gcd a b * b ≤ m * m ∧ 1 ≤ Nat.gcd a b ∧ Nat.gcd a b ≤ b :=
  ⟨Nat.div_le_self _ _, Nat.mul_le_mul (Nat.le_trans (Nat.div_le_self _ _) ha2) hb2, Nat.gcd_pos_of_pos_right a (by omega), Nat.gcd_le_right a (by omega)⟩

end Go.Proofs.Ytflgjohknjgdcaa
