/- What the law of pictures that are seen asks, in numbers. -/
import Derived.Test.YtmgkoijnjhfinaaDriftFacts
namespace Go.Proofs.Ytmgkoijnjhfinaa
set_option linter.unusedSimpArgs false
set_option linter.unusedVariables false

theorem near_turn {x s c : Int} (h : 1 ≤ s) : near (x + s * c) s = near x s + c := by
  unfold near
  rw [show 2 * (x + s * c) + s = (2 * x + s) + (2 * s) * c by rw [Int.mul_add, Int.mul_assoc]; omega, Int.add_mul_ediv_left _ _ (by omega)]
theorem off_turn {x s c : Int} (hx : 0 ≤ x) (hc : 0 ≤ c) (h : 1 ≤ s) : offN s (x + s * c) = offN s x := by
  have h1 : 0 ≤ s * c := Int.mul_nonneg (by omega) hc
  unfold offN
  rw [resid_neg (by omega) h, resid_neg hx h, near_turn h, Int.add_mul, Int.mul_comm c s]
  omega
theorem seen_turn {x s c p : Int} (h : 1 ≤ s) : seenN p s (x + s * (c * p)) = seenN p s x := by
  unfold seenN
  rw [near_turn h, Int.add_mul_emod_self_right]

/-- What the law asks of a flash some turns later. -/
theorem flash_facts {p s k t : Int} (p1 : 1 ≤ p) (p2 : p ≤ 16) (s1 : 1 ≤ s) (s2 : s ≤ 20) (k0 : 0 ≤ k) (k1 : k < s) (t0 : 0 ≤ t) (t1 : t < 9) :
    ∃ q N D : Int, seenV p s ((k + t * s) * p) = .tuple #[.int .i64 q, fr N D, .int .i64 0] ∧ flashB p s (k + t * s) = true ∧ q = seenN p s (k * p) ∧ 0 ≤ q ∧ q < p ∧ 1 ≤ D ∧ D ≤ s ∧ 2 * N ≤ D ∧ -D < 2 * N ∧
      0 ≤ k * p ∧ k * p ≤ 320 ∧ 0 ≤ t * s ∧ t * s ≤ 180 ∧ -10 ≤ N ∧ N ≤ 10 ∧ 0 ≤ k * p * D ∧ k * p * D ≤ 6400 ∧ -200 ≤ N * s ∧ N * s ≤ 200 ∧ 1 ≤ s * D ∧ s * D ≤ 400 ∧ 0 ≤ k * p * D + N * s ∧ (k * p * D + N * s) % (s * D) = 0 ∧ 0 ≤ (k * p * D + N * s) / (s * D) ∧ (k * p * D + N * s) / (s * D) ≤ 48000001 ∧ (k * p * D + N * s) / (s * D) % p = q := by
  have a1 := mul_bd (x := k) (y := p) (m := 20) (k := 16) (by omega) (by omega) (by omega) (by omega)
  have a2 := mul_bd (x := t) (y := s) (m := 9) (k := 20) (by omega) (by omega) (by omega) (by omega)
  have a3 : 0 ≤ k * p := Int.mul_nonneg k0 (by omega)
  have a4 : 0 ≤ t * s := Int.mul_nonneg t0 (by omega)
  have a5 : t * s ≤ 160 := by have := Int.mul_le_mul (show t ≤ 8 by omega) s2 (by omega) (by omega); omega
  have hdB : discB p s = true := by unfold discB; rw [inB_iff.2 (by omega), inB_iff.2 (by omega)]; rfl
  have hfB : flashB p s (k + t * s) = true := by unfold flashB; rw [hdB, inB_iff.2 (by omega)]; rfl
  have a6 : 0 ≤ t * p := Int.mul_nonneg t0 (by omega)
  have e1 : (k + t * s) * p = k * p + s * (t * p) := by rw [Int.add_mul, Int.mul_comm t s, Int.mul_assoc]
  have e2 : seenN p s ((k + t * s) * p) = seenN p s (k * p) := by rw [e1]; exact seen_turn s1
  have e3 : offN s ((k + t * s) * p) = offN s (k * p) := by rw [e1]; exact off_turn a3 a6 s1
  obtain ⟨o1, o2, o3, o4, o5, o6, o7, o8⟩ := seen_facts hdB a3 (by omega)
  have hb := resid_bd (-(k * p)) s1
  have hoff : resid (-(k * p)) s = offN s (k * p) := rfl
  rw [hoff] at hb
  have hn : k * p + offN s (k * p) = near (k * p) s * s := by
    have := resid_neg a3 s1
    rw [hoff] at this
    omega
  have hs : seenN p s (k * p) = near (k * p) s % p := rfl
  have hd : divI (offN s (k * p)) s = (Nat.gcd (offN s (k * p)).natAbs s.natAbs : Nat) := if_neg (by omega)
  obtain ⟨g1, g2⟩ := gcd_le_right' (offN s (k * p)).natAbs s.natAbs (by omega)
  obtain ⟨d1, d2⟩ := divI_dvd (offN s (k * p)) s
  have q1 := (Int.tdiv_mul_cancel d1).symm
  have q2 := (Int.tdiv_mul_cancel d2).symm
  have cr := lowest_cross (offN s (k * p)) s
  have V : seenV p s ((k + t * s) * p) = .tuple #[.int .i64 (seenN p s (k * p)), fr ((offN s (k * p)).tdiv (divI (offN s (k * p)) s)) (s.tdiv (divI (offN s (k * p)) s)), .int .i64 0] := by
    unfold seenV
    rw [e2, e3]
  have pos := tdiv_divI_pos (n := offN s (k * p)) (show 0 < s by omega)
  rw [V]
  clear V e1 e2 e3
  refine ⟨_, _, _, rfl, hfB, rfl, o7, o8, ?_⟩
  clear o7 o8
  rw [hs]
  clear hs
  rw [hd] at *
  generalize Nat.gcd (offN s (k * p)).natAbs s.natAbs = g at *
  generalize (offN s (k * p)).tdiv g = N at *
  generalize s.tdiv (g : Int) = D at *
  generalize offN s (k * p) = o at *
  generalize near (k * p) s = y at *
  have b0 : D ≤ s := by
    have := Int.mul_le_mul_of_nonneg_left (show (1 : Int) ≤ g by omega) (show 0 ≤ D by omega)
    omega
  have b1 : 2 * N ≤ D := by
    refine Int.le_of_mul_le_mul_right (a := (g : Int)) ?_ (by omega)
    rw [Int.mul_assoc, ← q1, ← q2]; omega
  have b2 : -D < 2 * N := by
    refine Int.lt_of_mul_lt_mul_right (a := (g : Int)) ?_ (by omega)
    rw [Int.mul_assoc, ← q1, Int.neg_mul, ← q2]; omega
  have b3 := mul_bd (x := k * p) (y := D) (m := 320) (k := 20) (by omega) (by omega) (by omega) (by omega)
  have b4 : 0 ≤ k * p * D := Int.mul_nonneg a3 (by omega)
  have b5 := mul_bd (x := N) (y := s) (m := 10) (k := 20) (by omega) (by omega) (by omega) (by omega)
  have b6 := mul_bd (x := s) (y := D) (m := 20) (k := 20) (by omega) (by omega) (by omega) (by omega)
  have b7 : 0 < s * D := Int.mul_pos (by omega) (by omega)
  have e : k * p * D + N * s = (s * D) * y := by
    rw [cr, ← Int.add_mul, hn, Int.mul_comm y s, Int.mul_assoc, Int.mul_comm y D, ← Int.mul_assoc]
  have b8 : 0 ≤ (s * D) * y := Int.mul_nonneg (by omega) (by omega)
  have b9 : (k * p * D + N * s) / (s * D) = y := by rw [e]; exact Int.mul_ediv_cancel_left _ (by omega)
  refine ⟨by omega, b0, b1, b2, a3, by omega, a4, by omega, by omega, by omega, b4, by omega, by omega, by omega, by omega, by omega, by omega, ?_, ?_, ?_, ?_⟩
  · rw [e]; exact Int.mul_emod_right _ _
  · rw [b9]; omega
  · rw [b9]; omega
  · rw [b9]

/-- The missed pictures: within bounds, rising, and those that are not seen. -/
theorem missTo_mem (zs : List Int) (n j : Nat) (h : j < (missTo zs n).length) : 0 ≤ (missTo zs n).getD j 0 ∧ (missTo zs n).getD j 0 < n := by
  have hm := List.getElem_mem h
  rw [List.getD_eq_getElem?_getD, List.getElem?_eq_getElem h, Option.getD_some]
  generalize (missTo zs n)[j] = z at *
  unfold missTo at hm
  rw [List.mem_filter, List.mem_map] at hm
  obtain ⟨⟨i, hi, rfl⟩, h2⟩ := hm
  rw [List.mem_range] at hi
  omega
theorem missTo_rises (zs : List Int) (n j : Nat) (h : j + 1 < (missTo zs n).length) : (missTo zs n).getD j 0 < (missTo zs n).getD (j + 1) 0 := by
  have hp : (missTo zs n).Pairwise (· < ·) := by
    unfold missTo
    refine List.Pairwise.filter _ ?_
    rw [List.pairwise_map]
    exact List.Pairwise.imp (fun h => by omega) (List.pairwise_lt_range)
  have := List.pairwise_iff_getElem.1 hp j (j + 1) (by omega) h (by omega)
  rw [List.getD_eq_getElem?_getD, List.getElem?_eq_getElem (by omega), List.getD_eq_getElem?_getD, List.getElem?_eq_getElem h]
  exact this
theorem missTo_iff (zs : List Int) (n q : Nat) (h : q < n) : hasI (missTo zs n) q = !hasI zs q := by
  rw [Bool.eq_iff_iff]
  unfold missTo
  constructor
  · intro h1
    unfold hasI at h1
    rw [List.any_eq_true] at h1
    obtain ⟨z, hz, e⟩ := h1
    simp only [decide_eq_true_eq] at e
    subst e
    exact (List.mem_filter.1 hz).2
  · intro h1
    conv => lhs; unfold hasI
    rw [List.any_eq_true]
    refine ⟨q, List.mem_filter.2 ⟨List.mem_map.2 ⟨q, List.mem_range.2 h, rfl⟩, h1⟩, by simp⟩

end Go.Proofs.Ytmgkoijnjhfinaa
