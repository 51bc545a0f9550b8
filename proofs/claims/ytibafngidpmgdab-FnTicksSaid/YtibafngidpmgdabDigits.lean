/- Decimal digits: plain mathematics. -/
namespace Go.Proofs.Ytibafngidpmgdab
set_option linter.unusedSimpArgs false
set_option linter.unusedVariables false

/-- A digit as a byte. -/
def dig (n : Nat) : UInt8 := UInt8.ofNat (48 + n % 10)
/-- The decimal digits of a number, the first one first. -/
def digs (n : Nat) : List UInt8 := if h : 9 < n then digs (n / 10) ++ [dig n] else [dig n]
termination_by n
decreasing_by omega

theorem digs_big {n : Nat} (h : 9 < n) : digs n = digs (n / 10) ++ [dig n] := by rw [digs, dif_pos h]
theorem digs_small {n : Nat} (h : ¬ 9 < n) : digs n = [dig n] := by rw [digs, dif_neg h]
theorem dig_toNat (n : Nat) : (dig n).toNat = 48 + n % 10 := by
  unfold dig
  rw [UInt8.toNat_ofNat']
  omega
theorem digs_length_pos (n : Nat) : 1 ≤ (digs n).length := by
  by_cases h : 9 < n
  · rw [digs_big h]; simp
  · rw [digs_small h]; simp
theorem digs_length (k : Nat) : ∀ n, n < 10 ^ (k + 1) → (digs n).length ≤ k + 1 := by
  induction k with
  | zero =>
    intro n h
    rw [digs_small (by omega)]
    simp
  | succ k ih =>
    intro n h
    by_cases h9 : 9 < n
    · rw [digs_big h9]
      have h2 : n / 10 < 10 ^ (k + 1) := by
        rw [Nat.pow_succ] at h
        omega
      have h3 := ih _ h2
      simp
      omega
    · rw [digs_small h9]
      simp

/-- The decimal form of a number. -/
def decText (n : Int) : List UInt8 := if n < 0 then 45 :: digs n.natAbs else digs n.natAbs
theorem decText_neg {n : Int} (h : n < 0) : decText n = 45 :: digs n.natAbs := if_pos h
theorem decText_pos {n : Int} (h : ¬ n < 0) : decText n = digs n.natAbs := if_neg h

/-- The digits, none of them for 0. -/
def digs0 (n : Nat) : List UInt8 := if n = 0 then [] else digs n
theorem digs0_zero : digs0 0 = [] := rfl
theorem digs0_step {n : Nat} (h : n ≠ 0) : digs0 n = digs0 (n / 10) ++ [dig n] := by
  rw [digs0, if_neg h]
  by_cases h9 : 9 < n
  · rw [digs0, if_neg (by omega), digs_big h9]
  · rw [digs0, if_pos (by omega), digs_small h9]
    rfl
theorem digs0_of {n : Nat} (h : n ≠ 0) : digs0 n = digs n := if_neg h
theorem digs0_length {n : Nat} (h : n ≤ 9223372036854775808) : (digs0 n).length ≤ 20 := by
  unfold digs0
  split
  · simp
  · exact digs_length 19 n (by omega)

end Go.Proofs.Ytibafngidpmgdab
