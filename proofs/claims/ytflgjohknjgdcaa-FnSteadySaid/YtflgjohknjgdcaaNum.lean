/- Lowest terms and common times: plain mathematics. -/
import Derived.Test.YtflgjohknjgdcaaLow
namespace Go.Proofs.Ytflgjohknjgdcaa
set_option linter.unusedSimpArgs false
set_option linter.unusedVariables false

theorem gcd_quot {a b : Nat} (hb : b ≠ 0) : Nat.gcd (a / Nat.gcd a b) (b / Nat.gcd a b) = 1 := by
  rw [Nat.gcd_div (Nat.gcd_dvd_left a b) (Nat.gcd_dvd_right a b)]
  exact Nat.div_self (Nat.gcd_pos_of_pos_right a (by omega))

/-- The terms of a fraction in lowest terms have no common divisor. -/
theorem lowest_coprime {n d : Int} (hd : d ≠ 0) : Nat.gcd (n.tdiv (divI n d)).natAbs (d.tdiv (divI n d)).natAbs = 1 := by
  have e : (divI n d).natAbs = Nat.gcd n.natAbs d.natAbs := by
    unfold divI
    split <;> simp
  rw [Int.natAbs_tdiv, Int.natAbs_tdiv, e]
  exact gcd_quot (by omega)

theorem divI_dvd (n d : Int) : divI n d ∣ n ∧ divI n d ∣ d := by
  unfold divI
  split
  · exact ⟨Int.neg_dvd.2 (Int.ofNat_dvd_left.2 (Nat.gcd_dvd_left _ _)), Int.neg_dvd.2 (Int.ofNat_dvd_left.2 (Nat.gcd_dvd_right _ _))⟩
  · exact ⟨Int.ofNat_dvd_left.2 (Nat.gcd_dvd_left _ _), Int.ofNat_dvd_left.2 (Nat.gcd_dvd_right _ _)⟩

/-- A fraction in lowest terms is the fraction: crosswise products are equal. -/
theorem lowest_cross (n d : Int) : n.tdiv (divI n d) * d = n * d.tdiv (divI n d) := by
  obtain ⟨h1, h2⟩ := divI_dvd n d
  have e1 := Int.tdiv_mul_cancel h1
  have e2 := Int.tdiv_mul_cancel h2
  generalize n.tdiv (divI n d) = x at *
  generalize d.tdiv (divI n d) = y at *
  generalize divI n d = g at *
  rw [← e1, ← e2, Int.mul_assoc, Int.mul_comm y g]

/-- Two fractions in lowest terms that are equal as numbers have the same terms. -/
theorem lowest_unique {n d x y : Int} (hd : 0 < d) (hy : 0 < y) (h1 : Nat.gcd n.natAbs d.natAbs = 1) (h2 : Nat.gcd x.natAbs y.natAbs = 1) (h : n * y = x * d) : n = x ∧ d = y := by
  have hn : n.natAbs * y.natAbs = x.natAbs * d.natAbs := by rw [← Int.natAbs_mul, ← Int.natAbs_mul, h]
  have d1 : d.natAbs ∣ y.natAbs := by
    have h3 : d.natAbs ∣ n.natAbs * y.natAbs := ⟨x.natAbs, by rw [hn, Nat.mul_comm]⟩
    exact Nat.Coprime.dvd_of_dvd_mul_left (by rw [Nat.Coprime, Nat.gcd_comm]; exact h1) h3
  have d2 : y.natAbs ∣ d.natAbs := by
    have h3 : y.natAbs ∣ x.natAbs * d.natAbs := ⟨n.natAbs, by rw [← hn, Nat.mul_comm]⟩
    exact Nat.Coprime.dvd_of_dvd_mul_left (by rw [Nat.Coprime, Nat.gcd_comm]; exact h2) h3
  have e : d = y := by
    have := Nat.dvd_antisymm d1 d2
    omega
  subst e
  exact ⟨Int.eq_of_mul_eq_mul_right (by omega) h, rfl⟩

theorem divI_pos {n d : Int} (h : 0 < d) : 0 < divI n d := by
  have : 0 < Nat.gcd n.natAbs d.natAbs := Nat.gcd_pos_of_pos_right _ (by omega)
  rw [divI, if_neg (by omega)]
  omega

theorem tdiv_divI_pos {n d : Int} (h : 0 < d) : 0 < d.tdiv (divI n d) := by
  have h1 := (divI_dvd n d).2
  have h2 := Int.tdiv_mul_cancel h1
  have h3 := divI_pos (n := n) h
  rcases Int.lt_trichotomy 0 (d.tdiv (divI n d)) with h4 | h4 | h4
  · exact h4
  · rw [← h4] at h2; omega
  · have := Int.mul_neg_of_neg_of_pos h4 h3
    omega

/-- Lowest terms of a fraction that is equal to one in lowest terms. -/
theorem lowest_of_cross {n d x y : Int} (hd : 0 < d) (hy : 0 < y) (h1 : Nat.gcd n.natAbs d.natAbs = 1) (h : n * y = x * d) : x.tdiv (divI x y) = n ∧ y.tdiv (divI x y) = d := by
  have c := lowest_cross x y
  have p := tdiv_divI_pos (n := x) hy
  have h2 := lowest_coprime (n := x) (d := y) (by omega)
  generalize x.tdiv (divI x y) = s at *
  generalize y.tdiv (divI x y) = t at *
  have h3 : s * d = n * t := by
    have h4 : (s * d) * y = (n * t) * y := by
      calc (s * d) * y = (s * y) * d := by rw [Int.mul_assoc, Int.mul_comm d y, ← Int.mul_assoc]
        _ = (x * t) * d := by rw [c]
        _ = (x * d) * t := by rw [Int.mul_assoc, Int.mul_comm t d, ← Int.mul_assoc]
        _ = (n * y) * t := by rw [h]
        _ = (n * t) * y := by rw [Int.mul_assoc, Int.mul_comm y t, ← Int.mul_assoc]
    exact Int.eq_of_mul_eq_mul_right (by omega) h4
  exact lowest_unique p hd h2 h1 h3

end Go.Proofs.Ytflgjohknjgdcaa
