/- The operations on two fractions, in the program and in the model. -/
import Derived.Test.YtflgjohknjgdcaaProg
import Derived.Test.YtflgjohknjgdcaaFull
import Derived.Test.YtflgjohknjgdcaaLcm
import Derived.Deep.RegionWith
import Derived.Deep.DrawnRows
import Derived.Laws.StructEq
import Derived.Tactics
import Derived.Tactics2
import Derived.WalkKit
import Derived.LoopTactic
import Derived.BigQuiet
import Derived.RegionTactic
import Derived.BigRegion
import Derived.ChangeAlike
import Derived.Deep.QuietTactic
import Derived.Deep.RegionHeld3
import Derived.Deep.DeepCutAuto
import Derived.Outline
import Derived.Lib.Hide
import Derived.Below
import Derived.KernelRfl
namespace Go.Proofs.Ytflgjohknjgdcaa
set_option linter.unusedSimpArgs false
set_option linter.unusedVariables false
open Go.RowKit

theorem mul_bd {x y m k : Int} (h1 : -m ≤ x) (h2 : x ≤ m) (h3 : -k ≤ y) (h4 : y ≤ k) : -(m * k) ≤ x * y ∧ x * y ≤ m * k := by
  have e : (x * y).natAbs = x.natAbs * y.natAbs := Int.natAbs_mul x y
  have f : x.natAbs * y.natAbs ≤ m.natAbs * k.natAbs := Nat.mul_le_mul (by omega) (by omega)
  have g : (m * k).natAbs = m.natAbs * k.natAbs := Int.natAbs_mul m k
  have h : 0 ≤ m * k := Int.mul_nonneg (by omega) (by omega)
  omega

theorem times_any (a b c d : Int) (w : World) (h1 : -1000000 ≤ a) (h2 : a ≤ 1000000) (h3 : -1000000 ≤ b) (h4 : b ≤ 1000000) (h5 : -1000000 ≤ c) (h6 : c ≤ 1000000) (h7 : -1000000 ≤ d) (h8 : d ≤ 1000000) :
    Calls Try.prog 86 #[fr a b, fr c d] w fun e w' => e = .returned (fr (a * c) (b * d)) ∧ Below w.heap.size w w' := by
  have m1 := mul_bd (x := a) (y := c) (m := 1000000) (k := 1000000) (by omega) (by omega) (by omega) (by omega)
  have m3 := mul_bd (x := b) (y := d) (m := 1000000) (k := 1000000) (by omega) (by omega) (by omega) (by omega)
  go_enter Try.func86, Try.ntmps86
  go_wp2
  refine bodyPost_ret (v := _) (by simp [results, Try.results86, go_sem]) rfl ⟨rfl, ?_⟩
  repeat (first | exact Below.refl _ _ | refine bSet ?_ (by simp) _ | refine bAlloc ?_ _ | refine Below.drew ?_ | refine bDrewN ?_ _)

theorem w64quo (b G d : Nat) (q1 : b / G ≤ b) (q2 : b / G * d ≤ 1000000 * 1000000) (hb : b ≤ 1000000) : ((b / G * d : Nat) : Int) = wrap64 (wrap64 ((b : Int) / (G : Int)) * (d : Int)) := by
  rw [← Int.natCast_ediv]
  generalize b / G = q at *
  have e1 : wrap64 (q : Int) = q := by unfold wrap64; omega
  rw [e1, ← Int.natCast_mul]
  generalize q * d = r at *
  unfold wrap64
  omega

end Go.Proofs.Ytflgjohknjgdcaa
