/- What the law of fractions asks, in numbers. -/
import Derived.Test.YtmgkoijnjhfinaaDoorSmall
import Derived.Test.YtmgkoijnjhfinaaDoorNum
import Derived.Test.YtmgkoijnjhfinaaDoorMake
import Derived.Test.YtmgkoijnjhfinaaDoorTwo
namespace Go.Proofs.YtmgkoijnjhfinaaDoor
set_option linter.unusedSimpArgs false
set_option linter.unusedVariables false

theorem ok_coprime {n d : Int} (h : okB n d = true) : Nat.gcd n.natAbs d.natAbs = 1 := by
  simp [okB] at h
  exact h.2

/-- A small fraction in lowest terms: what it is, and how large. -/
theorem small_facts {x y m k : Int} (x1 : -m ≤ x) (x2 : x ≤ m) (y1 : 1 ≤ y) (y2 : y ≤ k) (hm : m ≤ 1000000) (hk : k ≤ 1000000) :
    ∃ X Y : Int, fullV x y = .tuple #[fr X Y, .int .i64 0] ∧ okB X Y = true ∧ X * y = x * Y ∧ -m ≤ X ∧ X ≤ m ∧ 1 ≤ Y ∧ Y ≤ k ∧ (0 ≤ x → 0 ≤ X) ∧ (X = 0 ↔ x = 0) := by
  have ok := lowest_small (n := x) (d := y) (by omega) (by omega) (by omega) (by omega)
  obtain ⟨t1, t2⟩ := tdivI_le x y
  have cr := lowest_cross x y
  have pos := tdiv_divI_pos (n := x) (show 0 < y by omega)
  have F : fullV x y = _ := fullV_yes (n := x) (d := y) ok
  have hsg : 0 ≤ x → 0 ≤ x.tdiv (divI x y) := fun h => Int.tdiv_nonneg h (Int.le_of_lt (divI_pos (by omega)))
  rw [F]
  generalize x.tdiv (divI x y) = X at *
  generalize y.tdiv (divI x y) = Y at *
  refine ⟨X, Y, rfl, ok, cr, by omega, by omega, by omega, by omega, hsg, ?_⟩
  constructor
  · rintro rfl
    rw [Int.zero_mul] at cr
    rcases Int.mul_eq_zero.1 cr.symm with h | h
    · exact h
    · omega
  · rintro rfl
    rw [Int.zero_mul] at cr
    rcases Int.mul_eq_zero.1 cr with h | h
    · exact h
    · omega

/-- Sums, products, orders, beats, and the fraction itself read back, as the law asks. -/
theorem fractions_facts {n d p q : Int} (h1 : okB n d = true) (h2 : okB p q = true) (n0 : -44 ≤ n) (n1 : n ≤ 44) (d0 : 1 ≤ d) (d1 : d ≤ 20) (p0 : -44 ≤ p) (p1 : p ≤ 44) (q0 : 1 ≤ q) (q1 : q ≤ 20) :
    ∃ X Y U V E F r : Int, fullV (n * q + p * d) (d * q) = .tuple #[fr X Y, .int .i64 0] ∧ fullV (p * d + n * q) (q * d) = .tuple #[fr X Y, .int .i64 0] ∧ okB X Y = true ∧ X * d * q = (n * q + p * d) * Y ∧
      fullV (n * p) (d * q) = .tuple #[fr U V, .int .i64 0] ∧ okB U V = true ∧ U * d * q = n * p * V ∧
      fullV (((n * q - p * d).natAbs : Nat) : Int) (d * q) = .tuple #[fr E F, .int .i64 0] ∧ 0 ≤ E ∧ (E = 0 ↔ r = 0) ∧ -1 ≤ r ∧ r ≤ 1 ∧ (r = 0 ↔ n = p ∧ d = q) ∧
      ((n * q < p * d ∧ r = -1) ∨ (p * d < n * q ∧ r = 1) ∨ (n * q = p * d ∧ r = 0)) ∧ ((p * d < n * q ∧ -r = -1) ∨ (n * q < p * d ∧ -r = 1) ∨ (p * d = n * q ∧ -r = 0)) ∧
      fullV (-3 * n) (-3 * d) = .tuple #[fr n d, .int .i64 0] ∧ giveB (-3 * n) (-3 * d) = true ∧
      -1760 ≤ X ∧ X ≤ 1760 ∧ 1 ≤ Y ∧ Y ≤ 400 ∧ -35200 ≤ X * d ∧ X * d ≤ 35200 ∧ -704000 ≤ X * d * q ∧ X * d * q ≤ 704000 ∧
      -880 ≤ n * q ∧ n * q ≤ 880 ∧ -880 ≤ p * d ∧ p * d ≤ 880 ∧ -1936 ≤ n * p ∧ n * p ≤ 1936 ∧ -1936 ≤ U ∧ U ≤ 1936 ∧ 1 ≤ V ∧ V ≤ 400 ∧ -38720 ≤ U * d ∧ U * d ≤ 38720 ∧ -774400 ≤ U * d * q ∧ U * d * q ≤ 774400 ∧ E ≤ 1760 ∧ 1 ≤ F ∧ F ≤ 400 := by
  have a1 := mul_bd (x := n) (y := q) (m := 44) (k := 20) (by omega) (by omega) (by omega) (by omega)
  have a2 := mul_bd (x := p) (y := d) (m := 44) (k := 20) (by omega) (by omega) (by omega) (by omega)
  have a3 := mul_bd (x := n) (y := p) (m := 44) (k := 44) (by omega) (by omega) (by omega) (by omega)
  have a4 := mul_bd (x := d) (y := q) (m := 20) (k := 20) (by omega) (by omega) (by omega) (by omega)
  have a5 : 0 < d * q := Int.mul_pos (by omega) (by omega)
  obtain ⟨X, Y, F1, ok1, c1, X0, X1, Y0, Y1, _, _⟩ := small_facts (x := n * q + p * d) (y := d * q) (m := 1760) (k := 400) (by omega) (by omega) (by omega) (by omega) (by omega) (by omega)
  obtain ⟨U, V, F2, ok2, c2, U0, U1, V0, V1, _, _⟩ := small_facts (x := n * p) (y := d * q) (m := 1936) (k := 400) (by omega) (by omega) (by omega) (by omega) (by omega) (by omega)
  obtain ⟨E, F, F3, ok3, c3, E0, E1, G0, G1, sg, ez⟩ := small_facts (x := (((n * q - p * d).natAbs : Nat) : Int)) (y := d * q) (m := 1760) (k := 400) (by omega) (by omega) (by omega) (by omega) (by omega) (by omega)
  have b1 := mul_bd (x := X) (y := d) (m := 1760) (k := 20) (by omega) (by omega) (by omega) (by omega)
  have b2 := mul_bd (x := X * d) (y := q) (m := 35200) (k := 20) (by omega) (by omega) (by omega) (by omega)
  have b3 := mul_bd (x := U) (y := d) (m := 1936) (k := 20) (by omega) (by omega) (by omega) (by omega)
  have b4 := mul_bd (x := U * d) (y := q) (m := 38720) (k := 20) (by omega) (by omega) (by omega) (by omega)
  have e1 : fullV (p * d + n * q) (q * d) = .tuple #[fr X Y, .int .i64 0] := by rw [Int.add_comm, Int.mul_comm q d]; exact F1
  have e2 : fullV (-3 * n) (-3 * d) = .tuple #[fr n d, .int .i64 0] := by
    have ok := lowest_small (n := 3 * n) (d := 3 * d) (by omega) (by omega) (by omega) (by omega)
    have G : fullV (3 * n) (3 * d) = _ := fullV_yes (n := 3 * n) (d := 3 * d) ok
    obtain ⟨g1, g2⟩ := lowest_of_cross (n := n) (d := d) (x := 3 * n) (y := 3 * d) (by omega) (by omega) (ok_coprime h1) (by rw [Int.mul_comm 3 d, Int.mul_comm 3 n, ← Int.mul_assoc, Int.mul_assoc n 3 d, Int.mul_comm 3 d, Int.mul_assoc])
    rw [g1, g2] at G
    have N := fullV_neg (-3 * n) (-3 * d) (by omega)
    rw [show -(-3 * n) = 3 * n by omega, show -(-3 * d) = 3 * d by omega] at N
    rw [← N, G]
  have e3 : giveB (-3 * n) (-3 * d) = true := by
    unfold giveB
    rw [inB_iff.2 (by omega), inB_iff.2 (by omega)]
    simp
    omega
  have e4 : n * q = p * d ↔ n = p ∧ d = q := by
    constructor
    · intro h
      exact lowest_unique (by omega) (by omega) (ok_coprime h1) (ok_coprime h2) h
    · rintro ⟨rfl, rfl⟩; rfl
  obtain ⟨r, r0⟩ : ∃ r : Int, (n * q < p * d ∧ r = -1) ∨ (p * d < n * q ∧ r = 1) ∨ (n * q = p * d ∧ r = 0) := by
    rcases Int.lt_trichotomy (n * q) (p * d) with h | h | h
    · exact ⟨-1, .inl ⟨h, rfl⟩⟩
    · exact ⟨0, .inr (.inr ⟨h, rfl⟩)⟩
    · exact ⟨1, .inr (.inl ⟨h, rfl⟩)⟩
  refine ⟨X, Y, U, V, E, F, r, F1, e1, ok1, by rw [Int.mul_assoc]; exact c1, F2, ok2, by rw [Int.mul_assoc]; exact c2, F3, sg (by omega), by rw [ez]; omega, by omega, by omega, by rw [← e4]; omega, r0, by omega, e2, e3, by omega, by omega, by omega, by omega, by omega, by omega, by omega, by omega, by omega, by omega, by omega, by omega, by omega, by omega, by omega, by omega, by omega, by omega, by omega, by omega, by omega, by omega, by omega, by omega, by omega⟩

end Go.Proofs.YtmgkoijnjhfinaaDoor
