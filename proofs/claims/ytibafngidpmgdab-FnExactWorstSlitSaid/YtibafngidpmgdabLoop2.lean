/- The steps of a loop; lists that a function makes element by element: the program and the model. -/
import Derived.Test.YtibafngidpmgdabProg
import Derived.Test.YtibafngidpmgdabLoopMath
import Derived.Test.YtibafngidpmgdabInts
import Derived.Test.YtibafngidpmgdabLoop
import Derived.Test.YtibafngidpmgdabHold
import Derived.IntWalk
import Derived.WalkSpells
import Derived.OwnWalk
import Derived.Laws.AppendOwn
import Derived.Laws.OwnMore
import Derived.Deep.RegionWith
import Derived.Deep.DrawnRows
import Derived.Deep.RegionHeld3
import Derived.Tactics
import Derived.Tactics2
import Derived.WalkKit
import Derived.LoopTactic
import Derived.BigQuiet
import Derived.RegionTactic
import Derived.Deep.QuietTactic
import Derived.Outline
import Derived.Lib.Hide
import Derived.Below
import Derived.KernelRfl
namespace Go.Proofs.Ytibafngidpmgdab
set_option linter.unusedSimpArgs false
set_option linter.unusedVariables false
open Go.RowKit

theorem drewBelow {w u : World} (h : ∃ m, u = w.drewN m) : Below w.heap.size w u := by
  obtain ⟨m, rfl⟩ := h
  exact bDrewN (Below.refl _ _) m

theorem genL_put (f : Nat → Int) (k n : Nat) (hk : k < n) : (genL f k ++ (List.replicate n (0 : Int)).drop k).set k (f k) = genL f (k + 1) ++ (List.replicate n (0 : Int)).drop (k + 1) := by
  have hl := genL_length f k
  rw [List.set_append_right _ _ (by omega), hl, Nat.sub_self, List.drop_eq_getElem_cons (by simp; omega), List.set_cons_zero, genL_succ, List.append_assoc]
  rfl

end Go.Proofs.Ytibafngidpmgdab
