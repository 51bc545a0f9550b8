/- The pictures that are seen in a turn: the statement's own walk. -/
import Derived.Test.YtibafngidpmgdaaProg
import Derived.Test.YtibafngidpmgdaaOrder
import Derived.Laws.AppendOwn
import Derived.Laws.OwnMore
import Derived.OwnWalk
import Derived.Tactics
import Derived.Tactics2
import Derived.WalkKit
import Derived.LoopTactic
import Derived.BigQuiet
import Derived.RegionTactic
import Derived.Deep.QuietTactic
import Derived.Outline
import Derived.Lib.Hide
import Derived.Below
import Derived.KernelRfl
namespace Go.Proofs.Ytibafngidpmgdaa
set_option linter.unusedSimpArgs false
set_option linter.unusedVariables false
open Go.RowKit

theorem ints_nil (w : World) (B : Nat) : Ints w B (.slice none 0 0) [] := World.ownsRow_nil _ _ _ _

theorem specSeenOrder_no (p s : Int) (w : World) (h : discB p s = false) :
    Calls Try.prog 65 #[.int .i64 p, .int .i64 s] w fun e w' => ∃ v, e = .returned (.tuple #[v, .int .i64 2]) ∧ Ints w' w.heap.size v [] ∧ Below w.heap.size w w' := by
  go_enter Try.func65, Try.ntmps65
  go_wp2_with fail
  refine (l03Code_no _ _ _ h).mono ?_
  rintro e u ⟨rfl, rfl⟩
  go_wp2_with fail
  go_ret2
  exact ⟨_, rfl, ints_nil _ _, Below.refl _ _⟩

theorem specSeenOrder_yes (p : Int) (n : Nat) (w : World) (h : discB p n = true) :
    Calls Try.prog 65 #[.int .i64 p, .int .i64 n] w fun e w' => ∃ v, e = .returned (.tuple #[v, .int .i64 0]) ∧ Ints w' w.heap.size v (orderTo p n n) ∧ Below w.heap.size w w' := by
  have C := Lib.hid (fun w => l03Order_any p n w h)
  go_enter Try.func65, Try.ntmps65
  go_wp2_with fail
  refine (l03Code_yes _ _ _ h).mono ?_
  rintro e u ⟨rfl, rfl⟩
  go_wp2_with fail
  refine (C.out _).mono ?_
  rintro e u1 ⟨v, rfl, i1, hb1⟩
  have I1 := Lib.hid i1
  clear i1
  go_wp2_with fail
  go_ret2
  exact ⟨_, rfl, I1.out, hb1⟩

end Go.Proofs.Ytibafngidpmgdaa
