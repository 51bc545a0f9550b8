/- A set of parts of a turn, as words of 64 bits: what its words are, and how many parts two sets share. -/
import Derived.Test.YtflgjohknjgdcaaPopMath
namespace Go.Proofs.Ytflgjohknjgdcaa
set_option linter.unusedSimpArgs false
set_option linter.unusedVariables false

/-- Word i of the set of the parts below k that have a property. -/
def wd (P : Nat → Bool) (k i : Nat) : Nat := bitsN (fun j => P (64 * i + j)) (min 64 (k - 64 * i))
theorem wd_lt (P : Nat → Bool) (k i : Nat) : wd P k i < 18446744073709551616 := by
  have h := bitsN_lt (fun j => P (64 * i + j)) (min 64 (k - 64 * i))
  have h2 : 2 ^ (min 64 (k - 64 * i)) ≤ 2 ^ 64 := Nat.pow_le_pow_right (by decide) (Nat.min_le_left _ _)
  exact Nat.lt_of_lt_of_le h h2
theorem wd_zero (P : Nat → Bool) (i : Nat) : wd P 0 i = 0 := by simp [wd, bitsN]
theorem wd_other {P : Nat → Bool} {k i : Nat} (h : ¬ i = k / 64) : wd P (k + 1) i = wd P k i := by
  have : min 64 (k + 1 - 64 * i) = min 64 (k - 64 * i) := by omega
  rw [wd, wd, this]
theorem wd_at (P : Nat → Bool) (k : Nat) : wd P k (k / 64) = bitsN (fun j => P (64 * (k / 64) + j)) (k % 64) := by
  have : min 64 (k - 64 * (k / 64)) = k % 64 := by omega
  rw [wd, this]
theorem wd_next (P : Nat → Bool) (k : Nat) : wd P (k + 1) (k / 64) = bitsN (fun j => P (64 * (k / 64) + j)) (k % 64 + 1) := by
  have : min 64 (k + 1 - 64 * (k / 64)) = k % 64 + 1 := by omega
  rw [wd, this]
theorem wd_skip {P : Nat → Bool} {k : Nat} (h : P k = false) (i : Nat) : wd P (k + 1) i = wd P k i := by
  by_cases e : i = k / 64
  · subst e
    rw [wd_at, wd_next]
    exact bitsN_skip (P := fun j => P (64 * (k / 64) + j)) (by rw [← h]; exact congrArg P (by omega))
  · exact wd_other e
theorem wd_put {P : Nat → Bool} {k : Nat} (h : P k = true) : wd P k (k / 64) ||| 2 ^ (k % 64) = wd P (k + 1) (k / 64) := by
  rw [wd_at, wd_next]
  exact bitsN_or (P := fun j => P (64 * (k / 64) + j)) (by rw [← h]; exact congrArg P (by omega))

theorem pop_upto {R : Nat → Bool} {n : Nat} (hn : n ≤ 64) : pop64 (bitsN R n) = cnt R n := by
  have e1 : bitsN R n = bitsN (fun j => decide (j < n) && R j) 64 := by
    refine Nat.eq_of_testBit_eq fun j => ?_
    rw [bitsN_test, bitsN_test]
    by_cases h : j < n
    · have : j < 64 := by omega
      simp [h, this]
    · simp [h]
  have e2 : ∀ m, n ≤ m → cnt (fun j => decide (j < n) && R j) m = cnt R n := by
    intro m hm
    obtain ⟨d, rfl⟩ := Nat.exists_eq_add_of_le hm
    rw [cnt_cut]
    have z : ∀ d, cnt (fun j => decide (n + j < n) && R (n + j)) d = 0 := by
      intro d
      induction d with
      | zero => rfl
      | succ d ih =>
        have : ¬ n + d < n := by omega
        rw [cnt, ih]
        simp [this]
    rw [z, cnt_congr (Q := R) n (fun j hj => by simp [hj]), Nat.add_zero]
  rw [e1, pop_bits, e2 64 hn]

/-- How many parts of the first i words are in both sets. -/
def both (P Q : Nat → Bool) (i : Nat) : Nat := cnt (fun j => P j && Q j) (min 1000 (64 * i))
theorem both_zero (P Q : Nat → Bool) : both P Q 0 = 0 := by simp [both, cnt]
theorem both_step (P Q : Nat → Bool) {i : Nat} (hi : i < 16) : both P Q i + pop64 (wd P 1000 i &&& wd Q 1000 i) = both P Q (i + 1) := by
  have h64 : min 64 (1000 - 64 * i) ≤ 64 := Nat.min_le_left _ _
  rw [wd, wd, bitsN_and, pop_upto h64, both, both]
  have e1 : min 1000 (64 * i) = 64 * i := by omega
  have e2 : min 1000 (64 * (i + 1)) = 64 * i + min 64 (1000 - 64 * i) := by omega
  rw [e1, e2, cnt_cut]
theorem both_all (P Q : Nat → Bool) : both P Q 16 = cnt (fun j => P j && Q j) 1000 := rfl
theorem both_le (P Q : Nat → Bool) (i : Nat) : both P Q i ≤ 1000 := Nat.le_trans (cnt_le _ _) (Nat.min_le_left _ _)

end Go.Proofs.Ytflgjohknjgdcaa
