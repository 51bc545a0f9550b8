/- impl.Drum.distance and nearestDistance. -/
import Derived.Test.YtibafngidpmgdabSearchE
namespace Go.Proofs.Ytibafngidpmgdab
open Go.Conc Go.RowKit
set_option linter.unusedSimpArgs false
set_option linter.unusedVariables false

/-- How far two places are from each other. -/
def circI (r a b : Int) : Int := min (a - b).natAbs (r - (a - b).natAbs)

set_option maxHeartbeats 1000000 in
/-- impl.Drum.distance. -/
theorem distance_any (r h s a b : Int) (w : World) (r1 : 0 ≤ r ∧ r ≤ 10000) (a1 : 0 ≤ a ∧ a ≤ 10000) (b1 : 0 ≤ b ∧ b ≤ 10000) :
    Calls Try.prog 116 #[dr r h s, .int .i64 a, .int .i64 b] w fun e w' => e = .returned (.int .i64 (circI r a b)) ∧ Below w.heap.size w w' := by
  have w1 : IntKind.i64.wrap (a - b) = a - b := IntWalk.i64_in _ (by omega)
  go_enter Try.func116, Try.ntmps116
  go_wp2_with fail
  refine (absolute_any (a - b) _ (by omega) (by omega)).mono ?_
  rintro e u ⟨rfl, rfl⟩
  go_wp2
  all_goals
    go_ret
    exact ⟨ret_int (by unfold circI; omega), bAlloc (Below.refl _ _) _⟩
end Go.Proofs.Ytibafngidpmgdab
