/- What the law of drifts asks, in numbers. -/
import Derived.Test.YtmgkoijnjhfinaaDrift2
import Derived.Test.YtmgkoijnjhfinaaSlits
import Derived.Test.YtmgkoijnjhfinaaDiscDraw
namespace Go.Proofs.Ytmgkoijnjhfinaa
set_option linter.unusedSimpArgs false
set_option linter.unusedVariables false

/-- The drift's terms and what they are the lowest terms of. -/
theorem dr_terms (p : Int) {s : Int} (h : 1 ≤ s) : ∃ g : Nat, 1 ≤ g ∧ g = Nat.gcd (resid p s).natAbs s.natAbs ∧ resid p s = drN p s * g ∧ s = drD p s * g := by
  have hd : divI (resid p s) s = (Nat.gcd (resid p s).natAbs s.natAbs : Nat) := if_neg (by omega)
  obtain ⟨g1, g2⟩ := gcd_le_right' (resid p s).natAbs s.natAbs (by omega)
  obtain ⟨d1, d2⟩ := divI_dvd (resid p s) s
  refine ⟨_, g1, rfl, ?_, ?_⟩
  · rw [← hd]; exact (Int.tdiv_mul_cancel d1).symm
  · rw [← hd]; exact (Int.tdiv_mul_cancel d2).symm

/-- The residue has the same common divisor with the slits as the pictures. -/
theorem resid_gcd (p s : Nat) (h : 1 ≤ s) : Nat.gcd (resid p s).natAbs s = Nat.gcd p s := by
  obtain ⟨q, hq⟩ := resid_dvd (p : Int) (s : Int)
  have key : ∀ d : Nat, d ∣ s → (d ∣ (resid p s).natAbs ↔ d ∣ p) := by
    intro d hd
    have hs : (d : Int) ∣ (s : Int) * q := Int.dvd_trans (Int.ofNat_dvd.2 hd) ⟨q, rfl⟩
    rw [← Int.ofNat_dvd_left, ← Int.ofNat_dvd (n := p)]
    constructor
    · intro h1
      have : (p : Int) = resid p s + s * q := by omega
      rw [this]
      exact Int.dvd_add h1 hs
    · intro h1
      have : resid p s = (p : Int) - s * q := by omega
      rw [this]
      exact Int.dvd_sub h1 hs
  apply Nat.dvd_antisymm
  · have h1 := Nat.gcd_dvd_left (resid p s).natAbs s
    have h2 := Nat.gcd_dvd_right (resid p s).natAbs s
    exact Nat.dvd_gcd ((key _ h2).1 h1) h2
  · have h1 := Nat.gcd_dvd_left p s
    have h2 := Nat.gcd_dvd_right p s
    exact Nat.dvd_gcd ((key _ h2).2 h1) h2

/-- The drift in numbers, as the law asks. -/
theorem drift_facts {p s : Nat} (p1 : 1 ≤ p) (p2 : p ≤ 16) (s1 : 1 ≤ s) (s2 : s ≤ 20) :
    1 ≤ drD p s ∧ drD p s ≤ s ∧ 2 * drN p s ≤ drD p s ∧ -drD p s < 2 * drN p s ∧ -10 ≤ drN p s ∧ drN p s ≤ 10 ∧ ((s / Nat.gcd p s : Nat) : Int) = drD p s ∧
    0 ≤ p * drD p s - drN p s * s ∧ p * drD p s - drN p s * s ≤ 1000 ∧ 1 ≤ s * drD p s ∧ s * drD p s ≤ 400 ∧ (p * drD p s - drN p s * s) % (s * drD p s) = 0 ∧
    1 ≤ p * drD p s ∧ p * drD p s ≤ 320 ∧ -200 ≤ drN p s * s ∧ drN p s * s ≤ 200 := by
  obtain ⟨g, g1, hg, e1, e2⟩ := dr_terms (p : Int) (s := (s : Int)) (by omega)
  have hr := resid_bd (p : Int) (s := (s : Int)) (by omega)
  have hgc := resid_gcd p s s1
  rw [Int.natAbs_natCast] at hg
  rw [hgc] at hg
  obtain ⟨q, hq⟩ := resid_dvd (p : Int) (s : Int)
  have hp : 0 ≤ (p : Int) - resid p s := by
    rw [resid_nonneg (by omega) (by omega)]
    have h1 := Int.mul_ediv_add_emod (p : Int) s
    have h2 := Int.emod_lt_of_pos (p : Int) (show (0 : Int) < s by omega)
    have h3 : 0 ≤ (p : Int) / s := Int.ediv_nonneg (by omega) (by omega)
    have h4 : 0 ≤ (s : Int) * ((p : Int) / s) := Int.mul_nonneg (by omega) h3
    split <;> omega
  have hc := lowest_cross (resid p s) (s : Int)
  have hcc : drN p s * s = resid p s * drD p s := hc
  generalize hN : drN (p : Int) s = N at *
  generalize hD : drD (p : Int) s = D at *
  have hD1 : 1 ≤ D := by
    rcases Int.lt_trichotomy D 0 with h | h | h
    · have := Int.mul_neg_of_neg_of_pos h (show (0 : Int) < g by omega); omega
    · rw [h, Int.zero_mul] at e2; omega
    · omega
  have hD2 : D ≤ s := by
    have := Int.mul_le_mul_of_nonneg_left (show (1 : Int) ≤ g by omega) (show 0 ≤ D by omega)
    omega
  have hgcd : ((s / Nat.gcd p s : Nat) : Int) = D := by
    rw [← hg, Int.natCast_ediv]
    conv => lhs; lhs; rw [e2]
    exact Int.mul_ediv_cancel _ (by omega)
  have b1 : 2 * N ≤ D := by
    refine Int.le_of_mul_le_mul_right (a := (g : Int)) ?_ (by omega)
    rw [Int.mul_assoc, ← e1, ← e2]; exact hr.2
  have b2 : -D < 2 * N := by
    refine Int.lt_of_mul_lt_mul_right (a := (g : Int)) ?_ (by omega)
    rw [Int.mul_assoc, ← e1, Int.neg_mul, ← e2]; exact hr.1
  have m1 : p * D ≤ 320 := Int.le_trans (Int.mul_le_mul (show (p : Int) ≤ 16 by omega) (show D ≤ 20 by omega) (by omega) (by omega)) (by omega)
  have m2 : 1 ≤ p * D := by have := Int.mul_le_mul (show (1 : Int) ≤ p by omega) hD1 (by omega) (by omega); omega
  have m3 : (s : Int) * D ≤ 400 := Int.le_trans (Int.mul_le_mul (show (s : Int) ≤ 20 by omega) (show D ≤ 20 by omega) (by omega) (by omega)) (by omega)
  have m4 : 1 ≤ (s : Int) * D := by have := Int.mul_le_mul (show (1 : Int) ≤ s by omega) hD1 (by omega) (by omega); omega
  have m5 : -200 ≤ N * s ∧ N * s ≤ 200 := by
    have := mul_bd (x := N) (y := (s : Int)) (m := 10) (k := 20) (by omega) (by omega) (by omega) (by omega)
    omega
  have e3 : p * D - N * s = ((p : Int) - resid p s) * D := by rw [hcc, Int.sub_mul]
  have e4 : p * D - N * s = (s * D) * q := by rw [e3, hq, Int.mul_assoc, Int.mul_comm q D, ← Int.mul_assoc]
  refine ⟨hD1, hD2, b1, b2, by omega, by omega, hgcd, ?_, by omega, m4, m3, ?_, m2, m1, m5.1, m5.2⟩
  · rw [e3]; exact Int.mul_nonneg hp (by omega)
  · rw [e4]; exact Int.mul_emod_right _ _

/-- The rates in numbers, as the law asks. -/
theorem drate_facts {n d p s N D : Int} (n0 : -44 ≤ n) (n1 : n ≤ 44) (d0 : 1 ≤ d) (d1 : d ≤ 20) (p1 : 1 ≤ p) (p2 : p ≤ 16) (s1 : 1 ≤ s) (s2 : s ≤ 20) (N0 : -10 ≤ N) (N1 : N ≤ 10) (D0 : 1 ≤ D) (D1 : D ≤ 20) :
    ∃ x y u v : Int, fullV (n * s) d = .tuple #[fr x y, .int .i64 0] ∧ fullV (n * (N * s)) (d * (D * p)) = .tuple #[fr u v, .int .i64 0] ∧ 1 ≤ y ∧ 1 ≤ v ∧ x * d = n * s * y ∧ u * y * D * p = x * N * v ∧
      -880 ≤ n * s ∧ n * s ≤ 880 ∧ -17600 ≤ x * d ∧ x * d ≤ 17600 ∧ -176000 ≤ u * y ∧ u * y ≤ 176000 ∧ -3520000 ≤ u * y * D ∧ u * y * D ≤ 3520000 ∧ -56320000 ≤ u * y * D * p ∧ u * y * D * p ≤ 56320000 ∧ -8800 ≤ x * N ∧ x * N ≤ 8800 := by
  have a1 := mul_bd (x := n) (y := s) (m := 44) (k := 20) (by omega) (by omega) (by omega) (by omega)
  have a2 := mul_bd (x := N) (y := s) (m := 10) (k := 20) (by omega) (by omega) (by omega) (by omega)
  have a3 := mul_bd (x := n) (y := N * s) (m := 44) (k := 200) (by omega) (by omega) (by omega) (by omega)
  have a4 := mul_bd (x := D) (y := p) (m := 20) (k := 16) (by omega) (by omega) (by omega) (by omega)
  have a5 : 0 < D * p := Int.mul_pos (by omega) (by omega)
  have a6 := mul_bd (x := d) (y := D * p) (m := 20) (k := 320) (by omega) (by omega) (by omega) (by omega)
  have a7 : 0 < d * (D * p) := Int.mul_pos (by omega) a5
  have ok1 := lowest_small (n := n * s) (d := d) (by omega) (by omega) (by omega) (by omega)
  have ok2 := lowest_small (n := n * (N * s)) (d := d * (D * p)) (by omega) (by omega) (by omega) (by omega)
  have F1 : fullV (n * s) d = _ := fullV_yes (n := n * s) (d := d) ok1
  have F2 : fullV (n * (N * s)) (d * (D * p)) = _ := fullV_yes (n := n * (N * s)) (d := d * (D * p)) ok2
  have c1 := lowest_cross (n * s) d
  have c2 := lowest_cross (n * (N * s)) (d * (D * p))
  have t1 := tdivI_le (n * s) d
  have t2 := tdivI_le (n * (N * s)) (d * (D * p))
  have q1 := tdiv_divI_pos (n := n * s) (show 0 < d by omega)
  have q2 := tdiv_divI_pos (n := n * (N * s)) a7
  rw [F1, F2]
  generalize (n * s).tdiv (divI (n * s) d) = x at *
  generalize d.tdiv (divI (n * s) d) = y at *
  generalize (n * (N * s)).tdiv (divI (n * (N * s)) (d * (D * p))) = u at *
  generalize (d * (D * p)).tdiv (divI (n * (N * s)) (d * (D * p))) = v at *
  have b1 := mul_bd (x := x) (y := d) (m := 880) (k := 20) (by omega) (by omega) (by omega) (by omega)
  have b2 := mul_bd (x := u) (y := y) (m := 8800) (k := 20) (by omega) (by omega) (by omega) (by omega)
  have b3 := mul_bd (x := u * y) (y := D) (m := 176000) (k := 20) (by omega) (by omega) (by omega) (by omega)
  have b4 := mul_bd (x := u * y * D) (y := p) (m := 3520000) (k := 16) (by omega) (by omega) (by omega) (by omega)
  have b5 := mul_bd (x := x) (y := N) (m := 880) (k := 10) (by omega) (by omega) (by omega) (by omega)
  have e : u * y * D * p = x * N * v := by
    refine Int.eq_of_mul_eq_mul_right (a := d) (by omega) ?_
    calc u * y * D * p * d = y * (u * (d * (D * p))) := by ac_rfl
      _ = y * (n * (N * s) * v) := by rw [c2]
      _ = N * v * (n * s * y) := by ac_rfl
      _ = N * v * (x * d) := by rw [c1]
      _ = x * N * v * d := by ac_rfl
  exact ⟨x, y, u, v, rfl, rfl, by omega, by omega, c1, e, by omega, by omega, by omega, by omega, by omega, by omega, by omega, by omega, by omega, by omega, by omega, by omega⟩

/-- The list of slits for a drift: each has it, and they rise. -/
theorem slTo_mem (p x y : Int) (k j : Nat) (h : j < (slTo p x y k).length) : hasDr p x y ((slTo p x y k).getD j 0) = true ∧ 1 ≤ (slTo p x y k).getD j 0 ∧ (slTo p x y k).getD j 0 ≤ k := by
  have hm := List.getElem_mem h
  rw [List.getD_eq_getElem?_getD, List.getElem?_eq_getElem h, Option.getD_some]
  generalize (slTo p x y k)[j] = z at *
  unfold slTo at hm
  rw [List.mem_filter, List.mem_map] at hm
  obtain ⟨⟨i, hi, rfl⟩, h2⟩ := hm
  rw [List.mem_range] at hi
  exact ⟨h2, by omega, by omega⟩
theorem slTo_rises (p x y : Int) (k j : Nat) (h : j + 1 < (slTo p x y k).length) : (slTo p x y k).getD j 0 < (slTo p x y k).getD (j + 1) 0 := by
  have hp : (slTo p x y k).Pairwise (· < ·) := by
    unfold slTo
    refine List.Pairwise.filter _ ?_
    rw [List.pairwise_map]
    exact List.Pairwise.imp (fun h => by omega) (List.pairwise_lt_range)
  have := List.pairwise_iff_getElem.1 hp j (j + 1) (by omega) h (by omega)
  rw [List.getD_eq_getElem?_getD, List.getElem?_eq_getElem (by omega), List.getD_eq_getElem?_getD, List.getElem?_eq_getElem h]
  exact this
theorem slTo_this {p s : Nat} (s1 : 1 ≤ s) (s2 : s ≤ 48) : hasI (slTo p (drN p s) (drD p s) 48) s = true := by
  unfold hasI
  rw [List.any_eq_true]
  refine ⟨s, ?_, by simp⟩
  unfold slTo
  rw [List.mem_filter, List.mem_map]
  refine ⟨⟨s - 1, List.mem_range.2 (by omega), by omega⟩, ?_⟩
  simp [hasDr]

end Go.Proofs.Ytmgkoijnjhfinaa
