/- The places around a drum rise, and lie on it. -/
import Derived.Test.YtibafngidpmgdabWorstS
namespace Go.Proofs.Ytibafngidpmgdab
set_option linter.unusedSimpArgs false
set_option linter.unusedVariables false

theorem placesL_get (r : Int) (n k : Nat) (h : k < n) : (placesL r n).getD k 0 = near ((k : Int) * r) n := by
  unfold placesL
  exact genL_get _ _ _ h
theorem near_mono {x y s : Int} (h : 1 ≤ s) (hxy : x ≤ y) : near x s ≤ near y s := by
  unfold near
  exact Int.ediv_le_ediv (by omega) (by omega)
theorem placesL_mono (r : Int) (n : Nat) (hr : 0 ≤ r) (i j : Nat) (hij : i ≤ j) (hj : j < (placesL r n).length) : (placesL r n).getD i 0 ≤ (placesL r n).getD j 0 := by
  rw [placesL_length] at hj
  rw [placesL_get r n i (by omega), placesL_get r n j hj]
  exact near_mono (by omega) (Int.mul_le_mul_of_nonneg_right (by omega) hr)
theorem placesL_bd (r : Int) (n : Nat) (hr : 100 ≤ r) (hn : n ≤ 48) (j : Nat) (hj : j < n) : 0 ≤ (placesL r n).getD j 0 ∧ (placesL r n).getD j 0 ≤ r := by
  rw [placesL_get r n j hj]
  unfold near
  have h0 : (0 : Int) ≤ (j : Int) * r := Int.mul_nonneg (by omega) (by omega)
  have h1 : (j : Int) * r ≤ ((n : Int) - 1) * r := Int.mul_le_mul_of_nonneg_right (by omega) (by omega)
  refine ⟨Int.ediv_nonneg (by omega) (by omega), ?_⟩
  have h2 : 2 * ((j : Int) * r) + (n : Int) ≤ r * (2 * (n : Int)) := by
    have e : ((n : Int) - 1) * r = n * r - r := by rw [Int.sub_mul, Int.one_mul]
    have e2 : r * (2 * (n : Int)) = 2 * (n * r) := by rw [Int.mul_left_comm, Int.mul_comm r]
    omega
  exact Int.ediv_le_of_le_mul (by omega) h2
end Go.Proofs.Ytibafngidpmgdab
