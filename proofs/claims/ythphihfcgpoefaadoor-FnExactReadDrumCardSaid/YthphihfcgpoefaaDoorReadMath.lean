/- Decimal forms read back: plain mathematics. -/
import Derived.Test.YthphihfcgpoefaaDoorDigits
import Derived.Lib.ParseIntBCases
namespace Go.Proofs.YthphihfcgpoefaaDoor
set_option linter.unusedSimpArgs false
set_option linter.unusedVariables false

/-- A byte that is a digit. -/
def isDig (c : UInt8) : Bool := decide (48 ≤ c.toNat) && decide (c.toNat ≤ 57)
theorem isDig_iff {c : UInt8} : isDig c = true ↔ 48 ≤ c.toNat ∧ c.toNat ≤ 57 := by simp [isDig]

/-- One digit more. -/
def step (acc : Nat) (c : UInt8) : Nat := acc * 10 + (c.toNat - 48)
theorem step_eq (acc : Nat) (c : UInt8) : step acc c = acc * 10 + (c.toNat - 48) := rfl
attribute [local irreducible] step
/-- The number that digits spell, behind those that spell 'acc'. -/
def val (acc : Nat) (l : List UInt8) : Nat := l.foldl step acc
theorem val_nil (acc : Nat) : val acc [] = acc := rfl
theorem val_cons (acc : Nat) (c : UInt8) (r : List UInt8) : val acc (c :: r) = val (step acc c) r := rfl

theorem val_append (l : List UInt8) (c : UInt8) (acc : Nat) : val acc (l ++ [c]) = val acc l * 10 + (c.toNat - 48) := by
  rw [val, List.foldl_append, ← step_eq]
  rfl

theorem le_val (l : List UInt8) : ∀ acc, acc ≤ val acc l := by
  induction l with
  | nil => intro acc; exact Nat.le_refl _
  | cons x r ih => intro acc; have := ih (step acc x); rw [val_cons]; rw [step_eq] at *; omega

theorem val_digs (n : Nat) : val 0 (digs n) = n := by
  induction n using Nat.strongRecOn with
  | _ n ih =>
    by_cases h : 9 < n
    · rw [digs_big h, val_append, ih (n / 10) (by omega), dig_toNat]
      omega
    · rw [digs_small h]
      rw [val_cons, val_nil, step_eq, dig_toNat]
      omega

theorem isDig_dig (n : Nat) : isDig (dig n) = true := by
  rw [isDig_iff, dig_toNat]
  omega

theorem all_digs (n : Nat) : ∀ c ∈ digs n, isDig c = true := by
  induction n using Nat.strongRecOn with
  | _ n ih =>
    by_cases h : 9 < n
    · rw [digs_big h]
      intro c hc
      rcases List.mem_append.1 hc with hc | hc
      · exact ih (n / 10) (by omega) c hc
      · rw [List.mem_singleton.1 hc]; exact isDig_dig n
    · rw [digs_small h]
      intro c hc
      rw [List.mem_singleton.1 hc]; exact isDig_dig n

theorem val_lt (l : List UInt8) (h : ∀ c ∈ l, isDig c = true) : ∀ acc, val acc l < (acc + 1) * 10 ^ l.length := by
  induction l with
  | nil => intro acc; rw [val_nil]; simp
  | cons x r ih =>
    intro acc
    have hx := isDig_iff.1 (h x (List.mem_cons_self ..))
    have := ih (fun c hc => h c (List.mem_cons_of_mem _ hc)) (step acc x)
    rw [val_cons]
    rw [step_eq] at *
    simp only [List.length_cons, Nat.pow_succ]
    have h2 : (acc * 10 + (x.toNat - 48) + 1) * 10 ^ r.length ≤ ((acc + 1) * 10) * 10 ^ r.length := Nat.mul_le_mul_right _ (by omega)
    rw [Nat.mul_comm (10 ^ r.length) 10, ← Nat.mul_assoc]
    omega

theorem val_take {l : List UInt8} {i : Nat} (h : i < l.length) : val 0 (l.take (i + 1)) = val 0 (l.take i) * 10 + ((l[i]'h).toNat - 48) := by
  rw [List.take_succ_eq_append_getElem h, val_append]

theorem val_take_lt {l : List UInt8} {i : Nat} (h : i ≤ l.length) (hd : ∀ c ∈ l.take i, isDig c = true) : val 0 (l.take i) < 10 ^ i := by
  have := val_lt _ hd 0
  rw [List.length_take, Nat.min_eq_left h] at this
  omega

theorem digits_take {l : List UInt8} {i : Nat} (h : i < l.length) (hd : ∀ c ∈ l.take i, isDig c = true) (hc : isDig (l[i]'h) = true) : ∀ c ∈ l.take (i + 1), isDig c = true := by
  intro c hm
  rw [List.take_succ_eq_append_getElem h] at hm
  rcases List.mem_append.1 hm with hm | hm
  · exact hd c hm
  · rw [List.mem_singleton.1 hm]; exact hc

theorem parseM_val (l : List UInt8) (h : ∀ c ∈ l, isDig c = true) : ∀ acc, val acc l < 10 ^ 18 → Lib.parseUintM (2 ^ 64 - 1) acc l = .ok (val acc l) := by
  induction l with
  | nil => intro acc _; rw [val_nil, Lib.parseUintM]
  | cons x r ih =>
    intro acc hv
    have hx := isDig_iff.1 (h x (List.mem_cons_self ..))
    have m := le_val r (step acc x)
    rw [val_cons] at hv ⊢
    rw [step_eq] at *
    have hp : (10 : Nat) ^ 18 = 1000000000000000000 := by decide
    have hq : (2 : Nat) ^ 64 - 1 = 18446744073709551615 := by decide
    rw [Lib.parseUintM, if_pos hx, if_neg (by omega), if_neg (by omega)]
    exact ih (fun c hc => h c (List.mem_cons_of_mem _ hc)) _ hv

/-- A decimal form is read back. -/
theorem parse_dec {n : Int} (h : n.natAbs < 10 ^ 18) : Lib.parseIntB 64 (decText n) = .ok n := by
  have hp : (10 : Nat) ^ 18 = 1000000000000000000 := by decide
  have hq : (2 : Nat) ^ (64 - 1) = 9223372036854775808 := by decide
  have hl := digs_length_pos n.natAbs
  have hv := val_digs n.natAbs
  have hM := parseM_val (digs n.natAbs) (all_digs _) 0 (by rw [hv]; exact h)
  rw [hv] at hM
  have hU : Lib.parseUintB 64 (digs n.natAbs) = .ok n.natAbs := by
    rw [Lib.parseUintB, if_neg (by intro e; rw [e] at hl; simp at hl)]
    exact hM
  by_cases hn : n < 0
  · rw [decText_neg hn, Lib.parseIntB_minus, hU, hq]
    simp only [Lib.signedC]
    rw [if_neg (by omega)]
    congr 1
    omega
  · rw [decText_pos hn]
    have ha := all_digs n.natAbs
    cases hd : digs n.natAbs with
    | nil => rw [hd] at hl; simp at hl
    | cons c r =>
      rw [hd] at ha hU
      have hc := isDig_iff.1 (ha c (List.mem_cons_self ..))
      rw [Lib.parseIntB_plain 64 c r (by omega) (by omega), hU, hq]
      simp only [Lib.signlessC]
      rw [if_neg (by omega)]
      congr 1
      omega

end Go.Proofs.YthphihfcgpoefaaDoor
