/- Poses that are valid, that are equal: the statements' own walks. -/
import Derived.Test.YtibafngidpmgdaaProg
import Derived.Test.YtibafngidpmgdaaPose
import Derived.Test.YtibafngidpmgdaaKeys
import Derived.OwnWalk
import Derived.Deep.RegionWith
import Derived.Deep.DrawnRows
import Derived.Deep.RegionHeld3
import Derived.Tactics
import Derived.Tactics2
import Derived.WalkKit
import Derived.LoopTactic
import Derived.BigQuiet
import Derived.RegionTactic
import Derived.Deep.QuietTactic
import Derived.Outline
import Derived.Lib.Hide
import Derived.Below
import Derived.KernelRfl
namespace Go.Proofs.Ytibafngidpmgdaa
set_option linter.unusedSimpArgs false
set_option linter.unusedVariables false
open Go.RowKit

theorem belowDrewn {w u : World} (h : ∃ d, u = w.drewN d) : Below w.heap.size w u := by
  obtain ⟨d, rfl⟩ := h
  exact bDrewN (Below.refl _ _) d
theorem belowSame {w u : World} (h : w = u) : Below w.heap.size w u := by
  subst h
  exact Below.refl _ _

end Go.Proofs.Ytibafngidpmgdaa
