/- sort.Search over a table of places: the closure (plain). -/
import Derived.Test.YtibafngidpmgdabPlacesE
import Derived.Deep.DrawnRows
import Derived.Deep.RegionHeld3
import Derived.RegionTactic
import Derived.Deep.QuietTactic
import Derived.Outline
import Derived.BigQuiet
import Derived.Test.YtibafngidpmgdabLoop
namespace Go.Proofs.Ytibafngidpmgdab
open Go.Conc Go.RowKit
set_option linter.unusedSimpArgs false
set_option linter.unusedVariables false

set_option maxHeartbeats 1000000 in
set_option maxRecDepth 100000 in
/-- The function literal of nearestDistance. -/
theorem search1_any (g p q m cap i : Nat) (t x : Int) (w : World) (c1 : w.cell? ⟨p, 0, none⟩ = some (.slice (some ⟨g, 0, none⟩) m cap)) (c2 : w.cell? ⟨q, 0, none⟩ = some (.int .i64 x)) (hi : i < m) (hc : w.cell? ⟨g, i, none⟩ = some (.int .i64 t)) :
    Calls Try.prog 115 #[.int .i64 i, .pointer (some ⟨p, 0, none⟩), .pointer (some ⟨q, 0, none⟩)] w fun e w' => e = .returned (.bool (decide (x ≤ t))) ∧ Below w.heap.size w w' := by
  go_enter Try.func115, Try.ntmps115
  go_wp2
  go_quiet (fail)
  go_wp2
  go_ret
  exact ⟨rfl, bDrewN (Below.refl _ _) _⟩
end Go.Proofs.Ytibafngidpmgdab
