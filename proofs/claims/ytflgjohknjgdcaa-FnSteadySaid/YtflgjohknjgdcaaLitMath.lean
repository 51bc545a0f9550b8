/- How many parts are open before a part; the light of two wheels begins again after the greatest common divisor of their sectors; the first greatest light. -/
import Derived.Test.YtflgjohknjgdcaaPopMath
namespace Go.Proofs.Ytflgjohknjgdcaa
set_option linter.unusedSimpArgs false
set_option linter.unusedVariables false

theorem before_eq (S G : Nat) (hS : 0 < S) (hG : G ≤ S) : ∀ x : Nat, x / S * G + min (x % S) G = cnt (fun k => decide (k % S < G)) x
  | 0 => by simp [cnt]
  | x + 1 => by
    have ih := before_eq S G hS hG x
    have hx := Nat.div_add_mod x S
    have hr := Nat.mod_lt x hS
    rw [cnt, ← ih]
    generalize x / S = q at *
    generalize x % S = r at *
    subst hx
    by_cases h : r + 1 < S
    · have e1 : (S * q + r + 1) / S = q := by
        rw [Nat.add_assoc, Nat.add_comm, Nat.add_mul_div_left _ _ hS, Nat.div_eq_of_lt h, Nat.zero_add]
      have e2 : (S * q + r + 1) % S = r + 1 := by
        rw [Nat.add_assoc, Nat.add_comm, Nat.add_mul_mod_self_left, Nat.mod_eq_of_lt h]
      rw [e1, e2]
      by_cases g : r < G
      · simp only [g, decide_true, if_true]; omega
      · simp only [g, decide_false]; simp; omega
    · have e0 : r + 1 = S := by omega
      have e1 : (S * q + r + 1) / S = q + 1 := by
        rw [Nat.add_assoc, e0, ← Nat.mul_succ, Nat.mul_div_cancel_left _ hS]
      have e2 : (S * q + r + 1) % S = 0 := by
        rw [Nat.add_assoc, e0, ← Nat.mul_succ, Nat.mul_mod_right]
      rw [e1, e2, Nat.succ_mul]
      by_cases g : r < G
      · simp only [g, decide_true, if_true]
        omega
      · simp only [g, decide_false]; simp; omega

def Per (f : Nat → Nat) (a : Nat) : Prop := ∀ x, f (x + a) = f x
theorem Per.mul {f : Nat → Nat} {a : Nat} (h : Per f a) : ∀ k x, f (x + a * k) = f x
  | 0, x => by simp
  | k + 1, x => by rw [Nat.mul_succ, ← Nat.add_assoc, h, Per.mul h k x]
theorem Per.gcd {f : Nat → Nat} (a b : Nat) : Per f a → Per f b → Per f (Nat.gcd a b) := by
  induction a, b using Nat.gcd.induction with
  | H0 n => intro _ h; simpa using h
  | H1 m n hm ih =>
    intro h1 h2
    rw [Nat.gcd_rec]
    refine ih (fun x => ?_) h1
    rw [← h1.mul (n / m) (x + n % m), Nat.add_assoc, Nat.mod_add_div, h2]
theorem Per.mod {f : Nat → Nat} {g : Nat} (h : Per f g) (i : Nat) : f (i % g) = f i := by
  have e := Nat.mod_add_div i g
  conv => rhs; rw [← e]
  rw [h.mul]

/-- b is the first place below n at which f is greatest, m its value there. -/
structure IsTop (f : Nat → Nat) (n b m : Nat) : Prop where
  lt : b < n
  at_ : f b = m
  le : ∀ i, i < n → f i ≤ m
  first : ∀ i, i < b → f i < m
theorem IsTop.unique {f : Nat → Nat} {n b m b2 m2 : Nat} (h : IsTop f n b m) (k : IsTop f n b2 m2) : b = b2 ∧ m = m2 := by
  have e1 := h.le b2 k.lt
  rw [k.at_] at e1
  have e2 := k.le b h.lt
  rw [h.at_] at e2
  have e3 : m = m2 := by omega
  subst e3
  refine ⟨?_, rfl⟩
  rcases Nat.lt_trichotomy b b2 with l | l | l
  · have := k.first b l; rw [h.at_] at this; omega
  · exact l
  · have := h.first b2 l; rw [k.at_] at this; omega
theorem IsTop.more {f : Nat → Nat} {g n b m : Nat} (h : IsTop f g b m) (hp : Per f g) (hg : g ≤ n) : IsTop f n b m := by
  have h0 : 0 < g := Nat.lt_of_le_of_lt (Nat.zero_le _) h.lt
  exact ⟨Nat.lt_of_lt_of_le h.lt hg, h.at_, fun i _ => by rw [← hp.mod i]; exact h.le _ (Nat.mod_lt i h0), h.first⟩
theorem IsTop.one (f : Nat → Nat) : IsTop f 1 0 (f 0) :=
  ⟨by omega, rfl, fun i hi => (by
    have e : i = 0 := by omega
    subst e
    exact Nat.le_refl _), fun i hi => by omega⟩
theorem IsTop.greater {f : Nat → Nat} {n b m : Nat} (h : IsTop f n b m) (hl : m < f n) : IsTop f (n + 1) n (f n) :=
  ⟨by omega, rfl, fun i hi => (by
    by_cases e : i = n
    · subst e; exact Nat.le_refl _
    · have := h.le i (by omega); omega), fun i hi => by have := h.le i hi; omega⟩
theorem IsTop.same {f : Nat → Nat} {n b m : Nat} (h : IsTop f n b m) (hl : ¬ m < f n) : IsTop f (n + 1) b m :=
  ⟨by have := h.lt; omega, h.at_, fun i hi => (by
    by_cases e : i = n
    · subst e; omega
    · exact h.le i (by omega)), h.first⟩
theorem IsTop.exists (f : Nat → Nat) : ∀ n, ∃ b m, IsTop f (n + 1) b m
  | 0 => ⟨_, _, IsTop.one f⟩
  | n + 1 => by
    obtain ⟨b, m, h⟩ := IsTop.exists f n
    by_cases hl : m < f (n + 1)
    · exact ⟨_, _, h.greater hl⟩
    · exact ⟨_, _, h.same hl⟩

/-- At how many parts light passes two wheels, the second one turned. -/
def litN (Sa Ga Sb Gb y : Nat) : Nat := cnt (fun k => decide (k % Sa < Ga) && decide ((k + y) % Sb < Gb)) 1000
theorem lit_second (Sa Ga Sb Gb : Nat) : Per (litN Sa Ga Sb Gb) Sb := fun y => by
  unfold litN
  refine cnt_congr _ fun k _ => ?_
  rw [← Nat.add_assoc, Nat.add_mod_right]
theorem lit_first (Sa Ga Sb Gb : Nat) {Ma Mb : Nat} (ha : Ma * Sa = 1000) (hb : Mb * Sb = 1000) : Per (litN Sa Ga Sb Gb) Sa := fun y => by
  have hH : ∀ j, (fun k => decide (k % Sa < Ga) && decide ((k + y) % Sb < Gb)) (1000 + j) = (fun k => decide (k % Sa < Ga) && decide ((k + y) % Sb < Gb)) j := fun j => by
    have e1 : (1000 + j) % Sa = j % Sa := by rw [← ha, Nat.mul_comm, Nat.add_comm, Nat.add_mul_mod_self_left]
    have e2 : (1000 + j + y) % Sb = (j + y) % Sb := by rw [← hb, Nat.mul_comm, Nat.add_assoc, Nat.add_comm, Nat.add_mul_mod_self_left]
    simp only [e1, e2]
  have hF : ∀ j, (fun k => decide (k % Sa < Ga) && decide ((k + (y + Sa)) % Sb < Gb)) j = (fun k => decide (k % Sa < Ga) && decide ((k + y) % Sb < Gb)) (Sa + j) := fun j => by
    have e1 : (Sa + j) % Sa = j % Sa := Nat.add_mod_left _ _
    have e2 : Sa + j + y = j + (y + Sa) := by omega
    simp only [e1, e2]
  unfold litN
  rw [cnt_congr 1000 (fun j _ => hF j)]
  generalize (fun k => decide (k % Sa < Ga) && decide ((k + y) % Sb < Gb)) = H at *
  have c1 := cnt_cut H Sa 1000
  have c2 := cnt_cut H 1000 Sa
  rw [cnt_congr (P := fun j => H (1000 + j)) (Q := H) Sa (fun j _ => hH j), Nat.add_comm 1000 Sa] at c2
  omega
theorem lit_per (Sa Ga Sb Gb : Nat) {Ma Mb : Nat} (ha : Ma * Sa = 1000) (hb : Mb * Sb = 1000) : Per (litN Sa Ga Sb Gb) (Nat.gcd Sa Sb) :=
  Per.gcd Sa Sb (lit_first Sa Ga Sb Gb ha hb) (lit_second Sa Ga Sb Gb)
theorem lit_le (Sa Ga Sb Gb y : Nat) : litN Sa Ga Sb Gb y ≤ 1000 := cnt_le _ _

end Go.Proofs.Ytflgjohknjgdcaa
