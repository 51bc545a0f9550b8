/- Plain mathematics of discs, without Go: the residue of some parts, the nearest number of pictures, the drift. -/
import Derived.Test.YtibafngidpmgdabMath
namespace Go.Proofs.Ytibafngidpmgdab
set_option linter.unusedSimpArgs false
set_option linter.unusedVariables false

/-- Whole pictures of s parts taken away from x parts: what is left is more than -s/2 and at most s/2. -/
def resid (x s : Int) : Int := if s < 2 * x.tmod s then x.tmod s - s else if 2 * x.tmod s ≤ -s then x.tmod s + s else x.tmod s

/-- The whole number nearest to x / s, the greater one of two. -/
def near (x s : Int) : Int := (2 * x + s) / (2 * s)

theorem tmod_bd (x : Int) {s : Int} (h : 1 ≤ s) : -s < x.tmod s ∧ x.tmod s < s := by
  rcases Int.le_total 0 x with h0 | h0
  · have h1 := Int.tmod_nonneg s h0
    have h2 := Int.tmod_lt_of_pos x (show 0 < s by omega)
    omega
  · have h1 := Int.tmod_nonneg (a := -x) s (by omega)
    have h2 := Int.tmod_lt_of_pos (-x) (show 0 < s by omega)
    rw [Int.neg_tmod] at h1 h2
    omega

theorem resid_bd (x : Int) {s : Int} (h : 1 ≤ s) : -s < 2 * resid x s ∧ 2 * resid x s ≤ s := by
  have := tmod_bd x h
  unfold resid
  split
  · omega
  · split <;> omega

theorem resid_nonneg {x s : Int} (hx : 0 ≤ x) (h : 1 ≤ s) : resid x s = if s < 2 * (x % s) then x % s - s else x % s := by
  have h1 := Int.tmod_eq_emod_of_nonneg (b := s) hx
  have h2 := Int.emod_nonneg x (show s ≠ 0 by omega)
  unfold resid
  rw [h1]
  split
  · rfl
  · rw [if_neg (by omega)]

/-- The residue differs from x by a whole number of pictures. -/
theorem resid_dvd (x : Int) (s : Int) : ∃ q, x - resid x s = s * q := by
  have h := Int.mul_tdiv_add_tmod x s
  unfold resid
  split
  · exact ⟨x.tdiv s + 1, by rw [Int.mul_add]; omega⟩
  · split
    · exact ⟨x.tdiv s - 1, by rw [Int.mul_sub]; omega⟩
    · exact ⟨x.tdiv s, by omega⟩

theorem near_eq {x s : Int} (hx : 0 ≤ x) (h : 1 ≤ s) : near x s = if s ≤ 2 * (x % s) then x / s + 1 else x / s := by
  have h1 := Int.mul_ediv_add_emod x s
  have h2 := Int.emod_nonneg x (show s ≠ 0 by omega)
  have h3 := Int.emod_lt_of_pos x (show 0 < s by omega)
  unfold near
  generalize x / s = q at *
  generalize x % s = r at *
  subst h1
  split
  · rw [show 2 * (s * q + r) + s = (2 * r - s) + (2 * s) * (q + 1) by rw [Int.mul_add, Int.mul_add, Int.mul_assoc]; omega, Int.add_mul_ediv_left _ _ (by omega), Int.ediv_eq_zero_of_lt (by omega) (by omega)]
    omega
  · rw [show 2 * (s * q + r) + s = (2 * r + s) + (2 * s) * q by rw [Int.mul_add, Int.mul_assoc]; omega, Int.add_mul_ediv_left _ _ (by omega), Int.ediv_eq_zero_of_lt (by omega) (by omega)]
    omega

theorem resid_neg {x s : Int} (hx : 0 ≤ x) (h : 1 ≤ s) : resid (-x) s = near x s * s - x := by
  rw [near_eq hx h]
  have h1 := Int.mul_ediv_add_emod x s
  have h2 := Int.emod_nonneg x (show s ≠ 0 by omega)
  have h3 := Int.emod_lt_of_pos x (show 0 < s by omega)
  have h4 := Int.tmod_eq_emod_of_nonneg (b := s) hx
  unfold resid
  rw [Int.neg_tmod, h4]
  have h5 : x / s * s = s * (x / s) := Int.mul_comm _ _
  by_cases h6 : s ≤ 2 * (x % s)
  · rw [if_neg (by omega), if_pos (by omega), if_pos h6, Int.add_mul, h5]
    omega
  · rw [if_neg (by omega), if_neg (by omega), if_neg h6, h5]
    omega

theorem near_back {x s : Int} (hx : 0 ≤ x) (h : 1 ≤ s) : (x + resid (-x) s) / s = near x s ∧ 0 ≤ x + resid (-x) s ∧ 0 ≤ near x s := by
  have h0 : 0 ≤ near x s := Int.ediv_nonneg (by omega) (by omega)
  have e : x + resid (-x) s = s * near x s := by rw [resid_neg hx h, Int.mul_comm]; omega
  refine ⟨?_, ?_, h0⟩
  · rw [e, Int.mul_ediv_cancel_left _ (by omega)]
  · rw [e]; exact Int.mul_nonneg (by omega) h0

theorem near_bd {x s m : Int} (hx : 0 ≤ x) (hm : x ≤ m) (h : 1 ≤ s) : 0 ≤ near x s ∧ near x s ≤ m + 1 := by
  rw [near_eq hx h]
  have h2 := Int.ediv_nonneg hx (show 0 ≤ s by omega)
  have h3 := Int.ediv_le_self s hx
  split <;> omega

/-- The parts by which pictures drift. -/
def driftN (p s : Int) : Int := resid p s

/-- Two numbers of parts leave the same just if they differ by whole pictures. -/
theorem resid_eq_iff {x y s : Int} (h : 1 ≤ s) : resid x s = resid y s ↔ s ∣ x - y := by
  obtain ⟨q, hq⟩ := resid_dvd x s
  obtain ⟨r, hr⟩ := resid_dvd y s
  have b1 := resid_bd x h
  have b2 := resid_bd y h
  constructor
  · intro e
    exact ⟨q - r, by rw [Int.mul_sub]; omega⟩
  · rintro ⟨m, hm⟩
    have e : resid x s - resid y s = s * (m - q + r) := by rw [Int.mul_add, Int.mul_sub]; omega
    have : m - q + r = 0 := by
      generalize m - q + r = z at *
      rcases Int.lt_trichotomy z 0 with hz | hz | hz
      · have : s * z ≤ s * (-1) := Int.mul_le_mul_of_nonneg_left (by omega) (by omega)
        omega
      · exact hz
      · have : s * 1 ≤ s * z := Int.mul_le_mul_of_nonneg_left (by omega) (by omega)
        omega
    rw [this, Int.mul_zero] at e
    omega

theorem dvd_mul_iff (p s m : Nat) (hs : 1 ≤ s) : s ∣ m * p ↔ s / Nat.gcd p s ∣ m := by
  have g0 : 0 < Nat.gcd p s := Nat.gcd_pos_of_pos_right p (by omega)
  obtain ⟨u, hu⟩ := Nat.gcd_dvd_left p s
  obtain ⟨t, ht⟩ := Nat.gcd_dvd_right p s
  have hc := Nat.coprime_div_gcd_div_gcd g0
  generalize Nat.gcd p s = g at *
  subst hu
  subst ht
  rw [Nat.mul_div_cancel_left _ g0, Nat.mul_div_cancel_left _ g0] at *
  constructor
  · intro h
    rw [show m * (g * u) = g * (m * u) by rw [Nat.mul_left_comm]] at h
    exact hc.symm.dvd_of_dvd_mul_right (Nat.dvd_of_mul_dvd_mul_left g0 h)
  · rintro ⟨k, rfl⟩
    exact ⟨k * u, by rw [Nat.mul_comm t k, Nat.mul_assoc, Nat.mul_assoc, Nat.mul_comm k, Nat.mul_comm k]; simp only [Nat.mul_assoc, Nat.mul_comm, Nat.mul_left_comm]⟩

/-- By how many parts the picture is off at a flash. -/
def offAt (p s : Int) (k : Nat) : Int := resid (-((k : Int) * p)) s

theorem offAt_eq_iff (p s i k : Nat) (hs : 1 ≤ s) (h : i ≤ k) : offAt p s i = offAt p s k ↔ s / Nat.gcd p s ∣ k - i := by
  unfold offAt
  rw [resid_eq_iff (by omega), ← dvd_mul_iff p s (k - i) hs, ← Int.ofNat_dvd]
  rw [show -((i : Int) * p) - -((k : Int) * p) = ((k - i : Nat) * p : Nat) by rw [Int.natCast_mul, Int.natCast_sub h, Int.sub_mul]; omega]

theorem ghost_t (p s : Nat) (hs : 1 ≤ s) : 1 ≤ s / Nat.gcd p s ∧ s / Nat.gcd p s ≤ s := by
  have g0 : 0 < Nat.gcd p s := Nat.gcd_pos_of_pos_right p (by omega)
  exact ⟨Nat.div_pos (Nat.gcd_le_right p (by omega)) g0, Nat.div_le_self _ _⟩

theorem offAt_inj (p s i k : Nat) (hs : 1 ≤ s) (h : i < k) (hk : k < s / Nat.gcd p s) : offAt p s i ≠ offAt p s k := by
  rw [Ne, offAt_eq_iff p s i k hs (by omega)]
  intro hd
  have := Nat.le_of_dvd (by omega) hd
  omega

theorem offAt_again (p s k : Nat) (hs : 1 ≤ s) : ∃ i, i < s / Nat.gcd p s ∧ offAt p s i = offAt p s k := by
  have ht := ghost_t p s hs
  refine ⟨k % (s / Nat.gcd p s), Nat.mod_lt _ (by omega), ?_⟩
  rw [offAt_eq_iff p s _ k hs (Nat.mod_le _ _)]
  exact Nat.dvd_sub_mod k

end Go.Proofs.Ytibafngidpmgdab
