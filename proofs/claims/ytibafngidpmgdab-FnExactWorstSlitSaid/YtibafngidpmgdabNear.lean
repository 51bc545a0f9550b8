/- The nearest whole number: the program and the model. -/
import Derived.Test.YtibafngidpmgdabProg





import Derived.Deep.AppendLies
import Derived.Deep.DrawnRows
import Derived.Test.YtibafngidpmgdabDiscMath
import Derived.Test.YtibafngidpmgdabLeaf
import Derived.IntWalk
import Derived.WalkSpells
import Derived.OwnWalk
import Derived.Laws.AppendOwn
import Derived.Laws.OwnMore
import Derived.Deep.RegionWith
import Derived.Deep.DrawnRows
import Derived.Deep.RegionHeld3
import Derived.Tactics
import Derived.Tactics2
import Derived.WalkKit
import Derived.LoopTactic
import Derived.BigQuiet
import Derived.RegionTactic
import Derived.Deep.QuietTactic
import Derived.Outline
import Derived.Lib.Hide
import Derived.Below
import Derived.KernelRfl
namespace Go.Proofs.Ytibafngidpmgdab
set_option linter.unusedSimpArgs false
set_option linter.unusedVariables false
open Go.RowKit

theorem floor_case (N D : Int) (hD : 0 < D) : N / D = if N.tmod D < 0 then N.tdiv D - 1 else N.tdiv D := by
  have h1 := Int.emod_nonneg N (show D ≠ 0 by omega)
  have h2 := Int.emod_lt_of_pos N hD
  rw [Int.tdiv_eq_ediv, Int.tmod_eq_emod]
  by_cases h : 0 ≤ N ∨ D ∣ N
  · rw [if_pos h, if_pos h, if_neg (by omega)]
    omega
  · rw [if_neg h, if_neg h, if_pos (by omega), Int.sign_eq_one_of_pos hD]
    omega
theorem tdiv_size (N D : Int) : -((N.natAbs : Nat) : Int) ≤ N.tdiv D ∧ N.tdiv D ≤ ((N.natAbs : Nat) : Int) := by
  have h1 : (N.tdiv D).natAbs = N.natAbs / D.natAbs := Int.natAbs_tdiv N D
  have h2 : N.natAbs / D.natAbs ≤ N.natAbs := Nat.div_le_self _ _
  omega
theorem near_size {x d : Int} (h : 1 ≤ d) (h0 : -100000000000 ≤ x) (h1 : x ≤ 100000000000) (hd : d ≤ 100000000000) : -500000000000 ≤ near x d ∧ near x d ≤ 500000000000 := by
  unfold near
  rw [floor_case _ _ (by omega)]
  have := tdiv_size (2 * x + d) (2 * d)
  split <;> omega

/-- impl.nearestWhole. -/
theorem nearestWhole_any (x d : Int) (w : World) (h : 1 ≤ d) (h0 : -100000000000 ≤ x) (h1 : x ≤ 100000000000) (hd : d ≤ 100000000000) :
    Calls Try.prog 110 #[.int .i64 x, .int .i64 d] w fun e w' => e = .returned (.int .i64 (near x d)) ∧ w = w' := by
  have HF := Lib.hid (show near x d = if (2 * x + d).tmod (2 * d) < 0 then (2 * x + d).tdiv (2 * d) - 1 else (2 * x + d).tdiv (2 * d) from floor_case _ _ (by omega))
  have hs := tdiv_size (2 * x + d) (2 * d)
  have hz : ¬ 2 * d = 0 := by omega
  have hz2 : ¬ d = 0 := by omega
  by_cases hN : 0 ≤ 2 * x + d
  · have e1 : (2 * x + d).tmod (2 * d) = (2 * x + d) % (2 * d) := Int.tmod_eq_emod_of_nonneg hN
    have e2 : (2 * x + d).tdiv (2 * d) = (2 * x + d) / (2 * d) := Int.tdiv_eq_ediv_of_nonneg hN
    have e3 := Int.emod_nonneg (2 * x + d) (show 2 * d ≠ 0 by omega)
    have HE : Hid (near x d = (2 * x + d) / (2 * d)) := Lib.hid rfl
    rw [e2] at hs
    clear e1 e2
    go_enter Try.func110, Try.ntmps110
    go_wp2
    go_ret
    exact ⟨by rw [HE.out]; rfl, rfl⟩
  · by_cases hT : (2 * x + d).tmod (2 * d) < 0
    · have HE : Hid (near x d = (2 * x + d).tdiv (2 * d) - 1) := Lib.hid (by rw [HF.out, if_pos hT])
      have w1 : IntKind.i64.wrap ((2 * x + d).tdiv (2 * d)) = (2 * x + d).tdiv (2 * d) := IntWalk.i64_in _ (by omega)
      have w2 : IntKind.i64.wrap ((2 * x + d).tdiv (2 * d) - 1) = (2 * x + d).tdiv (2 * d) - 1 := IntWalk.i64_in _ (by omega)
      go_enter Try.func110, Try.ntmps110
      go_wp2
      go_ret
      exact ⟨by rw [HE.out]; rfl, rfl⟩
    · have HE : Hid (near x d = (2 * x + d).tdiv (2 * d)) := Lib.hid (by rw [HF.out, if_neg hT])
      have w1 : IntKind.i64.wrap ((2 * x + d).tdiv (2 * d)) = (2 * x + d).tdiv (2 * d) := IntWalk.i64_in _ (by omega)
      go_enter Try.func110, Try.ntmps110
      go_wp2
      go_ret
      exact ⟨by rw [HE.out]; rfl, rfl⟩

/-- spec.l00Floor. -/
theorem l00Floor_any (x d : Int) (w : World) (h : 1 ≤ d) (h0 : -1000000000000 ≤ x) (h1 : x ≤ 1000000000000) (hd : d ≤ 1000000000000) :
    Calls Try.prog 111 #[.int .i64 x, .int .i64 d] w fun e w' => e = .returned (.int .i64 (x / d)) ∧ w = w' := by
  have HF := Lib.hid (show x / d = if x.tmod d < 0 then x.tdiv d - 1 else x.tdiv d from floor_case _ _ (by omega))
  have hs := tdiv_size x d
  have hz2 : ¬ d = 0 := by omega
  by_cases hN : 0 ≤ x
  · have e2 : x.tdiv d = x / d := Int.tdiv_eq_ediv_of_nonneg hN
    have e3 := Int.emod_nonneg x (show d ≠ 0 by omega)
    rw [e2] at hs
    clear e2 HF
    go_enter Try.func111, Try.ntmps111
    go_wp2
    go_ret
    exact ⟨rfl, rfl⟩
  · by_cases hT : x.tmod d < 0
    · have HE : Hid (x / d = x.tdiv d - 1) := Lib.hid (by rw [HF.out, if_pos hT])
      have w1 : IntKind.i64.wrap (x.tdiv d) = x.tdiv d := IntWalk.i64_in _ (by omega)
      have w2 : IntKind.i64.wrap (x.tdiv d - 1) = x.tdiv d - 1 := IntWalk.i64_in _ (by omega)
      go_enter Try.func111, Try.ntmps111
      go_wp2
      go_ret
      exact ⟨by rw [HE.out]; rfl, rfl⟩
    · have HE : Hid (x / d = x.tdiv d) := Lib.hid (by rw [HF.out, if_neg hT])
      have w1 : IntKind.i64.wrap (x.tdiv d) = x.tdiv d := IntWalk.i64_in _ (by omega)
      go_enter Try.func111, Try.ntmps111
      go_wp2
      go_ret
      exact ⟨by rw [HE.out]; rfl, rfl⟩

/-- spec.l00Round. -/
theorem l00Round_any (x d : Int) (w : World) (h : 1 ≤ d) (h0 : -100000000000 ≤ x) (h1 : x ≤ 100000000000) (hd : d ≤ 100000000000) :
    Calls Try.prog 97 #[.int .i64 x, .int .i64 d] w fun e w' => e = .returned (.int .i64 (near x d)) ∧ w = w' := by
  go_enter Try.func97, Try.ntmps97
  go_wp2_with fail
  refine (l00Floor_any _ _ _ (by omega) (by omega) (by omega) (by omega)).mono ?_
  rintro e u ⟨rfl, rfl⟩
  go_wp2_with fail
  go_ret
  exact ⟨rfl, rfl⟩

end Go.Proofs.Ytibafngidpmgdab
