/- Facts of steady wheels. -/
import Derived.Test.YtflgjohknjgdcaaProg
import Derived.Test.YtflgjohknjgdcaaLitImpl
import Derived.Test.YtflgjohknjgdcaaWheelF
import Derived.Test.YtflgjohknjgdcaaBldLaws2
import Derived.Test.YtflgjohknjgdcaaFew9
import Derived.Test.YtflgjohknjgdcaaBldLaws1
import Derived.Laws.Cover1
import Derived.Deep.RegionWith
import Derived.Deep.DrawnRows
import Derived.Deep.RegionHeld3
import Derived.Deep.DeepCutAuto
import Derived.Laws.StructEq
import Derived.Tactics
import Derived.Tactics2
import Derived.WalkKit
import Derived.LoopTactic
import Derived.BigQuiet
import Derived.RegionTactic
import Derived.Deep.QuietTactic
import Derived.Outline
import Derived.Lib.Hide
import Derived.Below
import Derived.KernelRfl
namespace Go.Proofs.Ytflgjohknjgdcaa
set_option linter.unusedSimpArgs false
set_option linter.unusedVariables false
open Go.RowKit


theorem inB9_no {x a b : Int} (h : ¬ (a ≤ x ∧ x ≤ b)) : inB x a b = false := by
  rw [← Bool.not_eq_true, inB_iff]
  exact h

theorem steady_same {n m d l : Int} (hd : 0 < d) : (n * m ≥ l * d) ↔ ((n * m).tdiv (divI (n * m) d) ≥ l * d.tdiv (divI (n * m) d)) := by
  obtain ⟨h1, h2⟩ := divI_dvd (n * m) d
  have e1 := Int.tdiv_mul_cancel h1
  have e2 := Int.tdiv_mul_cancel h2
  have g := divI_pos (n := n * m) hd
  generalize (n * m).tdiv (divI (n * m) d) = p at *
  generalize d.tdiv (divI (n * m) d) = q at *
  generalize divI (n * m) d = c at *
  have e3 : l * d = (l * q) * c := by rw [← e2, Int.mul_assoc]
  rw [e3, ← e1]
  constructor
  · intro h
    exact Int.le_of_mul_le_mul_right h g
  · intro h
    exact Int.mul_le_mul_of_nonneg_right h (by omega)

theorem flick_facts (m o n d : Int) (hn : I64 n) (h : ¬ (bladesB m o = true ∧ okB n d = true ∧ rateB n d = true)) : ∃ p q z2 : Int, (∀ w : World, Calls Try.prog 31 #[fr m o, fr n d] w fun e w' => e = .returned (.tuple #[fr p q, .int .i64 z2]) ∧ Below w.heap.size w w') ∧ (∀ w : World, Calls Try.prog 30 #[fr m o, fr n d] w fun e w' => e = .returned (.tuple #[fr p q, .int .i64 z2]) ∧ Below w.heap.size w w') := by
  cases h1 : bladesB m o
  · exact ⟨0, 0, 1, fun w => specFlick_bad m o n d w hn (by simp [h1]), fun w => implFlick_bad1 m o n d w h1⟩
  · cases h2 : okB n d
    · exact ⟨0, 0, 1, fun w => specFlick_bad m o n d w hn (by simp [h2]), fun w => implFlick_bad2 m o n d w h1 h2⟩
    · cases h3 : rateB n d
      · exact ⟨0, 0, 2, fun w => specFlick_off m o n d w hn (by simp [h1, h2]) (by simp [h3]), fun w => implFlick_off m o n d w h1 h2 h3⟩
      · exact absurd ⟨h1, h2, h3⟩ h

theorem steady_facts (m o n d l : Int) (hn : I64 n) : ∃ (t : Bool) (z p q z2 : Int), (∀ w : World, Calls Try.prog 20 #[fr m o, fr n d, .int .i64 l] w fun e w' => e = .returned (.tuple #[.bool t, .int .i64 z]) ∧ Below w.heap.size w w') ∧ (∀ w : World, Calls Try.prog 19 #[fr m o, fr n d, .int .i64 l] w fun e w' => e = .returned (.tuple #[.bool t, .int .i64 z]) ∧ Below w.heap.size w w') ∧ (∀ w : World, Calls Try.prog 31 #[fr m o, fr n d] w fun e w' => e = .returned (.tuple #[fr p q, .int .i64 z2]) ∧ Below w.heap.size w w') ∧ (∀ w : World, Calls Try.prog 30 #[fr m o, fr n d] w fun e w' => e = .returned (.tuple #[fr p q, .int .i64 z2]) ∧ Below w.heap.size w w') ∧
    (¬ z = 0 ∨ (z = 0 ∧ t = decide (p ≥ l * q) ∧ (0 ≤ l * q ∧ l * q ≤ 200 * 1000))) := by
  by_cases h : bladesB m o = true ∧ okB n d = true ∧ rateB n d = true
  · obtain ⟨h1, h2, h3⟩ := h
    have rb := rateB_bd h3
    cases h4 : inB l 1 200
    · exact ⟨_, 2, _, _, 0, fun w => specSteady_off2 m o n d l w hn (by simp [h1, h2]) (by simp [h3]) h4, fun w => implSteady_off2 m o n d l w h1 h2 h3 h4, fun w => specFlick_yes m o n d w hn h1 h2 h3, fun w => implFlick_yes m o n d w h1 h2 h3, .inl (by decide)⟩
    · obtain ⟨l1, l2⟩ := inB_iff.1 h4
      have q0 := tdiv_divI_pos (n := n * m) (d := d) (by omega)
      have q1 := (tdivI_le (n * m) d).2
      exact ⟨_, 0, _, _, 0, fun w => specSteady_yes m o n d l w hn h1 h2 h3 h4, fun w => implSteady_yes m o n d l w h1 h2 h3 h4, fun w => specFlick_yes m o n d w hn h1 h2 h3, fun w => implFlick_yes m o n d w h1 h2 h3, .inr ⟨rfl, decide_eq_decide.2 (steady_same (by omega)), mulBd 200 1000 (by omega) (by omega) (by omega) (by omega)⟩⟩
  · obtain ⟨p, q, z2, hf, hg⟩ := flick_facts m o n d hn h
    cases h1 : bladesB m o
    · exact ⟨_, 1, p, q, z2, fun w => specSteady_bad m o n d l w hn (by simp [h1]), fun w => implSteady_bad1 m o n d l w h1, hf, hg, .inl (by decide)⟩
    · cases h2 : okB n d
      · exact ⟨_, 1, p, q, z2, fun w => specSteady_bad m o n d l w hn (by simp [h2]), fun w => implSteady_bad2 m o n d l w h1 h2, hf, hg, .inl (by decide)⟩
      · cases h3 : rateB n d
        · exact ⟨_, 2, p, q, z2, fun w => specSteady_off1 m o n d l w hn (by simp [h1, h2]) (by simp [h3]), fun w => implSteady_off1 m o n d l w h1 h2 h3, hf, hg, .inl (by decide)⟩
        · exact absurd ⟨h1, h2, h3⟩ h

theorem numN_mem (P : Nat → Bool) : ∀ (k : Nat) (x : Int), x ∈ numN P k → ∃ j : Nat, x = j ∧ 1 ≤ j ∧ j ≤ k ∧ P j = true
  | 0, x, h => by simp [numN] at h
  | k + 1, x, h => by
    by_cases hP : P (k + 1) = true
    · rw [numN_yes hP, List.mem_append, List.mem_singleton] at h
      rcases h with h | rfl
      · obtain ⟨j, h1, h2, h3, h4⟩ := numN_mem P k x h
        exact ⟨j, h1, h2, by omega, h4⟩
      · exact ⟨k + 1, rfl, by omega, Nat.le_refl _, hP⟩
    · rw [numN_no (by simpa using hP)] at h
      obtain ⟨j, h1, h2, h3, h4⟩ := numN_mem P k x h
      exact ⟨j, h1, h2, by omega, h4⟩

theorem few_facts (n d l : Int) (hn : I64 n) : ∃ f z : Int, (∀ w : World, Calls Try.prog 23 #[fr n d, .int .i64 l] w fun e w' => e = .returned (.tuple #[.int .i64 f, .int .i64 z]) ∧ Below w.heap.size w w') ∧ (∀ w : World, Calls Try.prog 22 #[fr n d, .int .i64 l] w fun e w' => e = .returned (.tuple #[.int .i64 f, .int .i64 z]) ∧ Below w.heap.size w w') ∧ (¬ z = 0 ∨ (z = 0 ∧ (∀ w : World, Calls Try.prog 19 #[fr f f, fr n d, .int .i64 l] w fun e w' => e = .returned (.tuple #[.bool true, .int .i64 0]) ∧ Below w.heap.size w w'))) := by
  cases h2 : okB n d
  · exact ⟨0, 1, fun w => specFew_bad n d l w hn h2, fun w => implFew_bad n d l w h2, .inl (by decide)⟩
  · cases h3 : rateB n d && inB l 1 200
    · exact ⟨0, 2, fun w => specFew_off n d l w hn h2 h3, fun w => implFew_off n d l w h2 h3, .inl (by decide)⟩
    · rw [Bool.and_eq_true] at h3
      have hs := fun w => specFew_yes n d l w hn h2 h3.1 h3.2
      have hi := fun w => implFew_yes n d l w h2 h3.1 h3.2
      cases hN : numN (fewP n d l) 12 with
      | nil =>
        rw [fewV, hN] at hs hi
        exact ⟨0, 3, hs, hi, .inl (by decide)⟩
      | cons x r =>
        obtain ⟨j, rfl, j1, j2, hj⟩ := numN_mem (fewP n d l) 12 x (by rw [hN]; exact List.mem_cons_self)
        rw [fewV, hN] at hs hi
        refine ⟨j, 0, hs, hi, .inr ⟨rfl, fun w => ?_⟩⟩
        rw [fewP_eq n d l j1 j2, Bool.and_eq_true, decide_eq_true_eq, decide_eq_true_eq] at hj
        have i1 : inB (j : Int) 1 12 = true := inB_iff.2 (by omega)
        have i2 : inB (j : Int) 1 999 = true := inB_iff.2 (by omega)
        have hb : bladesB (j : Int) (j : Int) = true := by simp [bladesB, i1, i2, hj.1]
        have h := implSteady_yes (j : Int) (j : Int) n d l w hb h2 h3.1 h3.2
        rw [decide_eq_true hj.2] at h
        exact h

theorem slow_facts (m o l : Int) : ∃ p q z : Int, (∀ w : World, Calls Try.prog 26 #[fr m o, .int .i64 l] w fun e w' => e = .returned (.tuple #[fr p q, .int .i64 z]) ∧ Below w.heap.size w w') ∧ (∀ w : World, Calls Try.prog 25 #[fr m o, .int .i64 l] w fun e w' => e = .returned (.tuple #[fr p q, .int .i64 z]) ∧ Below w.heap.size w w') ∧ (¬ z = 0 ∨ (z = 0 ∧ l ≤ 200 ∧ (p ≤ 1000 → (∀ w : World, Calls Try.prog 19 #[fr m o, fr p q, .int .i64 l] w fun e w' => e = .returned (.tuple #[.bool true, .int .i64 0]) ∧ Below w.heap.size w w')))) := by
  cases h1 : bladesB m o
  · exact ⟨0, 0, 1, fun w => specSlow_bad m o l w h1, fun w => implSlow_bad m o l w h1, .inl (by decide)⟩
  · cases h4 : inB l 1 200
    · exact ⟨0, 0, 2, fun w => specSlow_off m o l w h1 h4, fun w => implSlow_off m o l w h1 h4, .inl (by decide)⟩
    · obtain ⟨M, S, G, W⟩ := Wh.of h1
      have sb := W.sb
      obtain ⟨l1, l2⟩ := inB_iff.1 h4
      refine ⟨_, _, 0, fun w => specSlow_yes m o l w h1 h4, fun w => implSlow_yes m o l w h1 h4, .inr ⟨rfl, l2, fun hp w => ?_⟩⟩
      have q0 := tdiv_divI_pos (n := l) (d := m) (by omega)
      obtain ⟨a1, a2⟩ := tdivI_le l m
      have g := divI_pos (n := l) (d := m) (by omega)
      have e1 := Int.tdiv_mul_cancel (divI_dvd l m).1
      have p0 : 0 < l.tdiv (divI l m) := by
        rcases Int.lt_or_le 0 (l.tdiv (divI l m)) with h | h
        · exact h
        · have := Int.mul_le_mul_of_nonneg_right h (Int.le_of_lt g)
          omega
      have ok : okB (l.tdiv (divI l m)) (m.tdiv (divI l m)) = true := lowest_small (by omega) (by omega) (by omega) (by omega)
      have hr : rateB (l.tdiv (divI l m)) (m.tdiv (divI l m)) = true := by
        have i1 : inB (m.tdiv (divI l m)) 1 1000 = true := inB_iff.2 (by omega)
        have i2 : inB (l.tdiv (divI l m)) 1 1000 = true := inB_iff.2 (by omega)
        simp [rateB, i1, i2]
      have h := implSteady_yes m o _ _ l w h1 ok hr h4
      rw [decide_eq_true (show l.tdiv (divI l m) * m ≥ l * m.tdiv (divI l m) from by rw [lowest_cross l m]; exact Int.le_refl _)] at h
      exact h

theorem parts_facts (m o p q : Int) : ∃ x z : Int, (∀ w : World, Calls Try.prog 29 #[fr m o, .int .i64 p, .int .i64 q] w fun e w' => e = .returned (.tuple #[.int .i64 x, .int .i64 z]) ∧ Below w.heap.size w w') ∧ (∀ w : World, Calls Try.prog 28 #[fr m o, .int .i64 p, .int .i64 q] w fun e w' => e = .returned (.tuple #[.int .i64 x, .int .i64 z]) ∧ Below w.heap.size w w') ∧
    (¬ z = 0 ∨ (z = 0 ∧ ∃ (S G P Q : Nat), p = P ∧ q = Q ∧ P ≤ Q ∧ Q ≤ 1000 ∧ x = ((beforeN S G Q - beforeN S G P : Nat) : Int) ∧ ∀ k : Nat, k < 1000 → (∀ w : World, Calls Try.prog 34 #[fr m o, .int .i64 k] w fun e w' => e = .returned (.tuple #[.bool (openB S G k), .int .i64 0]) ∧ Below w.heap.size w w'))) := by
  cases h1 : bladesB m o
  · exact ⟨_, 1, fun w => specParts_bad m o p q w h1, fun w => implParts_bad m o p q w h1, .inl (by decide)⟩
  · by_cases hp : p < 0
    · exact ⟨_, 2, fun w => specParts_off1 m o p q w h1 (inB9_no (by omega)), fun w => implParts_off1 m o p q w h1 hp, .inl (by decide)⟩
    · by_cases hq : q < p
      · by_cases h5 : p ≤ 1000
        · exact ⟨_, 2, fun w => specParts_off2 m o p q w h1 (inB_iff.2 (by omega)) (inB9_no (by omega)), fun w => implParts_off2 m o p q w h1 hp hq, .inl (by decide)⟩
        · exact ⟨_, 2, fun w => specParts_off1 m o p q w h1 (inB9_no (by omega)), fun w => implParts_off2 m o p q w h1 hp hq, .inl (by decide)⟩
      · by_cases h6 : 1000 < q
        · by_cases h5 : p ≤ 1000
          · exact ⟨_, 2, fun w => specParts_off2 m o p q w h1 (inB_iff.2 (by omega)) (inB9_no (by omega)), fun w => implParts_off3 m o p q w h1 hp hq h6, .inl (by decide)⟩
          · exact ⟨_, 2, fun w => specParts_off1 m o p q w h1 (inB9_no (by omega)), fun w => implParts_off3 m o p q w h1 hp hq h6, .inl (by decide)⟩
        · obtain ⟨M, S, G, W⟩ := Wh.of h1
          obtain ⟨P, rfl⟩ := Int.eq_ofNat_of_zero_le (show 0 ≤ p by omega)
          obtain ⟨Q, rfl⟩ := Int.eq_ofNat_of_zero_le (show 0 ≤ q by omega)
          exact ⟨_, 0, fun w => specParts_yes m o W h1 P Q (by omega) (by omega) w, fun w => implParts_yes m o W h1 P Q (by omega) (by omega) w, .inr ⟨rfl, S, G, P, Q, rfl, rfl, by omega, by omega, rfl, fun k hk w => implOpen_yes m o W h1 k (inB_iff.2 (by omega)) w⟩⟩

theorem beforeN_succ9 (S G k : Nat) : beforeN S G (k + 1) = beforeN S G k + (if openB S G k = true then 1 else 0) := rfl

end Go.Proofs.Ytflgjohknjgdcaa
