/- Turns of a text: in the program and in the model. -/
import Derived.Test.YtibafngidpmgdaaMotRow
import Derived.Laws.IdiomStrings
import Derived.OwnWalk
import Derived.Tactics
import Derived.Tactics2
import Derived.WalkKit
import Derived.LoopTactic
import Derived.BigQuiet
import Derived.RegionTactic
import Derived.Deep.QuietTactic
import Derived.Outline
import Derived.Lib.Hide
import Derived.Below
import Derived.KernelRfl
namespace Go.Proofs.Ytibafngidpmgdaa
set_option linter.unusedSimpArgs false
set_option linter.unusedVariables false
open Go.RowKit

theorem rotAdd (s : ByteArray) (k : Nat) (w : World) (hk : k ≤ s.size) (hs : s.size ≤ 24) : (Op.stringOp .add (s.extract k s.size) (s.extract 0 k)).run Try.prog w = .ok (.string (rotB s k)) w := by
  refine run_string_add_sum w _ _ ?_
  rw [ByteArray.size_extract, ByteArray.size_extract]
  omega

/-- impl.begunAt. -/
theorem begunAt_any (s : ByteArray) (k : Nat) (w : World) (hk : k ≤ s.size) (hs : s.size ≤ 24) :
    Calls Try.prog 129 #[.string s, .int .i64 k] w fun e w' => e = .returned (.string (rotB s k)) ∧ ∃ n, w' = w.drewN n := by
  have hadd := fun w => rotAdd s k w hk hs
  go_enter Try.func129, Try.ntmps129
  go_wp2
  go_quiet (fail)
  go_wp2
  go_ret
  exact ⟨rfl, _, rfl⟩

/-- spec.l06Turned. -/
theorem l06Turned_any (s : ByteArray) (k : Nat) (w : World) (hk : k ≤ s.size) (hs : s.size ≤ 24) :
    Calls Try.prog 139 #[.string s, .int .i64 k] w fun e w' => e = .returned (.string (rotB s k)) ∧ ∃ n, w' = w.drewN n := by
  have hadd := fun w => rotAdd s k w hk hs
  go_enter Try.func139, Try.ntmps139
  go_wp2
  go_quiet (fail)
  go_wp2
  go_ret
  exact ⟨rfl, _, rfl⟩

end Go.Proofs.Ytibafngidpmgdaa
