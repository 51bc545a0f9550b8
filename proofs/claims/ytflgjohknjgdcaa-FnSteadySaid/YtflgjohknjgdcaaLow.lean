/- What the lowest terms of a fraction are, in the program and in the model. -/
import Derived.Test.YtflgjohknjgdcaaProg
import Derived.Test.YtflgjohknjgdcaaLeaf
import Derived.Tactics
import Derived.Tactics2
import Derived.WalkKit
import Derived.LoopTactic
import Derived.BigQuiet
import Derived.RegionTactic
import Derived.BigRegion
import Derived.ChangeAlike
import Derived.Deep.QuietTactic
import Derived.Deep.RegionHeld3
import Derived.Deep.DeepCutAuto
import Derived.Outline
import Derived.Lib.Hide
import Derived.Below
import Derived.KernelRfl
namespace Go.Proofs.Ytflgjohknjgdcaa
set_option linter.unusedSimpArgs false
set_option linter.unusedVariables false
open Go.RowKit

/-- The divisor of a fraction's terms that leaves it in lowest terms, its denominator positive. -/
def divI (n d : Int) : Int := if d < 0 then -(Nat.gcd n.natAbs d.natAbs : Nat) else (Nat.gcd n.natAbs d.natAbs : Nat)

theorem gcd_le_right' (a b : Nat) (hb : b ≠ 0) : 1 ≤ Nat.gcd a b ∧ Nat.gcd a b ≤ b :=
  ⟨Nat.gcd_pos_of_pos_right a (by omega), Nat.gcd_le_right a (by omega)⟩

theorem tdiv_le (n : Int) (G : Nat) : (n.tdiv G).natAbs ≤ n.natAbs := by
  rw [Int.natAbs_tdiv]; exact Nat.div_le_self _ _

theorem ret_fr {a b c d : Int} (h : a = c) (k : b = d) : Ending.returned (fr a b) = .returned (fr c d) := by rw [h, k]

/-- impl.Fraction.lowest. -/
theorem lowest_any (n d : Int) (w : World) (n1 : -9223372036854775807 ≤ n) (n2 : n ≤ 9223372036854775807) (d1 : -9223372036854775807 ≤ d) (d2 : d ≤ 9223372036854775807) (d0 : d ≠ 0) :
    Calls Try.prog 67 #[fr n d] w fun e w' => e = .returned (fr (n.tdiv (divI n d)) (d.tdiv (divI n d))) ∧ Below w.heap.size w w' := by
  obtain ⟨g1, g2⟩ := gcd_le_right' n.natAbs d.natAbs (by omega)
  by_cases hd : d < 0
  · have hgi : divI n d = -(Nat.gcd n.natAbs d.natAbs : Nat) := if_pos hd
    rw [hgi]
    clear hgi
    go_enter Try.func67, Try.ntmps67
    go_wp2
    go_quiet ((first | (go_at_call 94; exact quietEq (absolute_any _ _ (by omega) (by omega))) | (go_at_call 87; exact Calls.quiet_of (greatestDivisor_any _ _ _ (by omega) (by omega)))))
    go_wp2
    have t1 := tdiv_le n (Nat.gcd n.natAbs d.natAbs)
    have t2 := tdiv_le d (Nat.gcd n.natAbs d.natAbs)
    go_region
    go_wp2
    refine bodyPost_ret (v := fr (-(n.tdiv (Nat.gcd n.natAbs d.natAbs : Nat))) (-(d.tdiv (Nat.gcd n.natAbs d.natAbs : Nat)))) (by simp [results, Try.results67, go_sem]) rfl ⟨ret_fr (by rw [Int.tdiv_neg]) (by rw [Int.tdiv_neg]), ?_⟩
    repeat (first | exact Below.refl _ _ | refine bAlloc ?_ _ | refine bDrewN ?_ _ | refine bSet ?_ (by simp) _)
  · have hgi : divI n d = (Nat.gcd n.natAbs d.natAbs : Nat) := if_neg hd
    rw [hgi]
    clear hgi
    go_enter Try.func67, Try.ntmps67
    go_wp2
    go_quiet ((first | (go_at_call 94; exact quietEq (absolute_any _ _ (by omega) (by omega))) | (go_at_call 87; exact Calls.quiet_of (greatestDivisor_any _ _ _ (by omega) (by omega)))))
    go_wp2
    have t1 := tdiv_le n (Nat.gcd n.natAbs d.natAbs)
    have t2 := tdiv_le d (Nat.gcd n.natAbs d.natAbs)
    go_region
    go_wp2
    refine bodyPost_ret (v := fr ((n.tdiv (Nat.gcd n.natAbs d.natAbs : Nat))) ((d.tdiv (Nat.gcd n.natAbs d.natAbs : Nat)))) (by simp [results, Try.results67, go_sem]) rfl ⟨rfl, ?_⟩
    repeat (first | exact Below.refl _ _ | refine bAlloc ?_ _ | refine bDrewN ?_ _ | refine bSet ?_ (by simp) _)

end Go.Proofs.Ytflgjohknjgdcaa
