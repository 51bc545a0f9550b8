/- Every pose of some key poses: the statement's own walk. -/
import Derived.Test.YtibafngidpmgdaaProg
import Derived.Test.YtibafngidpmgdaaPose
import Derived.Test.YtibafngidpmgdaaKeys
import Derived.Test.YtibafngidpmgdaaKeyOk
import Derived.Test.YtibafngidpmgdaaPoseLaw
import Derived.Test.YtibafngidpmgdaaBetween
import Derived.Test.YtibafngidpmgdaaAt2
import Derived.Test.YtibafngidpmgdaaAtLaw
import Derived.Test.YtibafngidpmgdaaGrids
import Derived.Test.YtibafngidpmgdaaAll
import Derived.Test.YtibafngidpmgdaaAllOk
import Derived.IntWalk
import Derived.WalkSpells
import Derived.OwnWalk
import Derived.Deep.RegionWith
import Derived.Deep.DrawnRows
import Derived.Deep.RegionHeld3
import Derived.Tactics
import Derived.Tactics2
import Derived.WalkKit
import Derived.LoopTactic
import Derived.BigQuiet
import Derived.RegionTactic
import Derived.Deep.QuietTactic
import Derived.Outline
import Derived.Lib.Hide
import Derived.Below
import Derived.KernelRfl
namespace Go.Proofs.Ytibafngidpmgdaa
set_option linter.unusedSimpArgs false
set_option linter.unusedVariables false
open Go.RowKit

end Go.Proofs.Ytibafngidpmgdaa
