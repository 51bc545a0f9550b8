/- The law of loops: steps, turns, common lengths. -/
import Derived.Test.YtfbdeeobmjndlaaProg
import Derived.Test.YtfbdeeobmjndlaaLoopMath
import Derived.Test.YtfbdeeobmjndlaaInts
import Derived.Test.YtfbdeeobmjndlaaLoop
import Derived.Test.YtfbdeeobmjndlaaLoop2
import Derived.Test.YtfbdeeobmjndlaaLoop3
import Derived.Test.YtfbdeeobmjndlaaLoopDraw
import Derived.Test.YtfbdeeobmjndlaaF6
import Derived.Test.YtfbdeeobmjndlaaLoopLaw
import Derived.Test.YtfbdeeobmjndlaaLoopLaw2
import Derived.Test.YtfbdeeobmjndlaaBest2
import Derived.Deep.AppendLies
import Derived.Deep.DrawnRows
import Derived.Test.YtfbdeeobmjndlaaHold
import Derived.IntWalk
import Derived.WalkSpells
import Derived.OwnWalk
import Derived.Laws.AppendOwn
import Derived.Laws.OwnMore
import Derived.Deep.RegionWith
import Derived.Deep.DrawnRows
import Derived.Deep.RegionHeld3
import Derived.Tactics
import Derived.Tactics2
import Derived.WalkKit
import Derived.LoopTactic
import Derived.BigQuiet
import Derived.RegionTactic
import Derived.Deep.QuietTactic
import Derived.Outline
import Derived.Lib.Hide
import Derived.Below
import Derived.KernelRfl
namespace Go.Proofs.Ytfbdeeobmjndlaa
set_option linter.unusedSimpArgs false
set_option linter.unusedVariables false
open Go.RowKit

/-- What both StepsOfLoop tell. -/
theorem steps_both (n : Nat) (zs : List Int) : ∃ z qs, (∀ (E : Option Addr) (f : Nat) (u : World), RdI u E n zs → Calls Try.prog 28 #[.slice E n f] u fun e w' => ∃ v, e = .returned (.tuple #[v, .int .i64 z]) ∧ Ints w' u.heap.size v qs ∧ Below u.heap.size u w') ∧
    (∀ (E : Option Addr) (f : Nat) (u : World), RdI u E n zs → Calls Try.prog 27 #[.slice E n f] u fun e w' => ∃ v, e = .returned (.tuple #[v, .int .i64 z]) ∧ Ints w' u.heap.size v qs ∧ Below u.heap.size u w') ∧
    qs.length ≤ 60 ∧ (∀ j, -1000000 ≤ qs.getD j 0 ∧ qs.getD j 0 ≤ 1000000) ∧ (z = 0 → totI qs = 0 ∧ qs.length = zs.length) := by
  cases hz : loopB zs
  · exact ⟨1, [], fun E f u h => implSteps_bad E n f zs u h hz, fun E f u h => specSteps_bad E n f zs u h hz, by simp, fun j => by simp, fun h => by cases h⟩
  · have hl := loopB_len hz
    exact ⟨0, stepsL zs, fun E f u h => implSteps_ok E n f zs u h hz, fun E f u h => specSteps_ok E n f zs u h hz, by rw [stepsL_length]; omega, stepsL_bd2 hz, fun _ => ⟨steps_tot hl.1, stepsL_length zs⟩⟩

/-- What both BestTurn tell. -/
theorem best_both (n n' : Nat) (xs ys : List Int) : ∃ k d z, (∀ (E : Option Addr) (f : Nat) (E' : Option Addr) (f' : Nat) (u : World), RdI u E n xs → RdI u E' n' ys → Calls Try.prog 45 #[.slice E n f, .slice E' n' f'] u fun e w' => e = .returned (.tuple #[.int .i64 k, .int .i64 d, .int .i64 z]) ∧ Below u.heap.size u w') ∧
    (∀ (E : Option Addr) (f : Nat) (E' : Option Addr) (f' : Nat) (u : World), RdI u E n xs → RdI u E' n' ys → Calls Try.prog 44 #[.slice E n f, .slice E' n' f'] u fun e w' => e = .returned (.tuple #[.int .i64 k, .int .i64 d, .int .i64 z]) ∧ Below u.heap.size u w') ∧
    (z = 0 → n = n' ∧ loopB xs = true ∧ loopB ys = true ∧ (xs.length = n → ∃ j : Nat, k = j ∧ j < n ∧ d = distI xs ys j ∧ ∀ i, i < n → d ≤ distI xs ys i)) := by
  cases hz : loopB xs && loopB ys
  · exact ⟨0, 0, 1, fun E f E' f' u h h' => implBest_bad E E' n f n' f' xs ys u h h' hz, fun E f E' f' u h h' => specBest_bad E E' n f n' f' xs ys u h h' hz, fun h => by cases h⟩
  · have hz2 := hz
    simp only [Bool.and_eq_true] at hz2
    obtain ⟨hx, hy⟩ := hz2
    by_cases hn : n = n'
    · subst hn
      have hl := loopB_len hx
      obtain ⟨m, hm⟩ : ∃ m, xs.length = m + 1 := ⟨xs.length - 1, by omega⟩
      obtain ⟨j, hj, e, hle⟩ := lowI_facts (distI xs ys) (fun d => (distI_bd hx hy d).1) m
      refine ⟨_, _, 0, fun E f E' f' u h h' => implBest_ok E E' n f f' xs ys u h h' hx hy, fun E f E' f' u h h' => specBest_ok E E' n f f' xs ys u h h' hx hy, fun _ => ⟨rfl, hx, hy, fun hxn => ⟨j, ?_, by omega, ?_, fun i hi => ?_⟩⟩⟩
      · rw [hm, e]
      · rw [hm, e]
      · rw [hm, e]
        exact hle i (by omega)
    · exact ⟨0, 0, 8, fun E f E' f' u h h' => implBest_format E E' n f n' f' xs ys u h h' hz hn, fun E f E' f' u h h' => specBest_format E E' n f n' f' xs ys u h h' hx hy hn, fun h => by cases h⟩

/-- What both CommonLength tell. -/
theorem common_both (c d : Int) : ∃ m z, (∀ u : World, Calls Try.prog 36 #[.int .i64 c, .int .i64 d] u fun e w' => e = .returned (.tuple #[.int .i64 m, .int .i64 z]) ∧ Below u.heap.size u w') ∧
    (∀ u : World, Calls Try.prog 35 #[.int .i64 c, .int .i64 d] u fun e w' => e = .returned (.tuple #[.int .i64 m, .int .i64 z]) ∧ Below u.heap.size u w') ∧
    (z = 0 → 1 ≤ c ∧ c ≤ 60 ∧ 1 ≤ d ∧ d ≤ 60 ∧ m % c = 0 ∧ m % d = 0 ∧ 1 ≤ m ∧ m ≤ c * d ∧ c * d ≤ 3600) := by
  cases h : lenB c && lenB d
  · exact ⟨0, 2, fun u => implCommon_bad c d u h, fun u => specCommon_bad c d u h, fun h => by cases h⟩
  · simp only [Bool.and_eq_true] at h
    obtain ⟨h1, h2⟩ := h
    have a1 := lenB_iff.1 h1
    have b1 := lenB_iff.1 h2
    obtain ⟨x, rfl⟩ := Int.eq_ofNat_of_zero_le (show 0 ≤ c by omega)
    obtain ⟨y, rfl⟩ := Int.eq_ofNat_of_zero_le (show 0 ≤ d by omega)
    refine ⟨_, 0, fun u => implCommon_ok x y u h1 h2, fun u => specCommon_ok x y u h1 h2, fun _ => ?_⟩
    have hg : 1 ≤ Nat.gcd x y := Nat.gcd_pos_of_pos_left y (by omega)
    have e1 : x / Nat.gcd x y * Nat.gcd x y = x := Nat.div_mul_cancel (Nat.gcd_dvd_left x y)
    have e2 : y / Nat.gcd x y * Nat.gcd x y = y := Nat.div_mul_cancel (Nat.gcd_dvd_right x y)
    have d1 : x / Nat.gcd x y * y = x * (y / Nat.gcd x y) := by
      have h0 : ∀ a b g : Nat, a * g = x → b * g = y → a * y = x * b := fun a b g q1 q2 => by rw [← q1, ← q2, Nat.mul_assoc, Nat.mul_comm g b]
      exact h0 _ _ _ e1 e2
    have d2 : x / Nat.gcd x y * y % x = 0 := by rw [d1]; exact Nat.mul_mod_right _ _
    have d3 : x / Nat.gcd x y * y % y = 0 := Nat.mul_mod_left _ _
    have d4 : x / Nat.gcd x y * y ≤ x * y := Nat.mul_le_mul_right y (Nat.div_le_self _ _)
    have d5 : 1 ≤ x / Nat.gcd x y := by
      rcases Nat.eq_zero_or_pos (x / Nat.gcd x y) with h0 | h0
      · rw [h0, Nat.zero_mul] at e1
        omega
      · exact h0
    have d6 : 1 * 1 ≤ x / Nat.gcd x y * y := Nat.mul_le_mul d5 (by omega)
    have d7 : x * y ≤ 60 * 60 := Nat.mul_le_mul (by omega) (by omega)
    refine ⟨by omega, by omega, by omega, by omega, ?_, ?_, by omega, ?_, ?_⟩
    · rw [← Int.natCast_emod, d2]; rfl
    · rw [← Int.natCast_emod, d3]; rfl
    · rw [← Int.natCast_mul]; exact Int.ofNat_le.2 d4
    · rw [← Int.natCast_mul]; exact Int.ofNat_le.2 d7

/-- What both RoughestStep tell. -/
theorem rough_both (n : Nat) (zs : List Int) : ∃ a b z, (∀ (E : Option Addr) (f : Nat) (u : World), RdI u E n zs → Calls Try.prog 32 #[.slice E n f] u fun e w' => e = .returned (.tuple #[.int .i64 a, .int .i64 b, .int .i64 z]) ∧ Below u.heap.size u w') ∧
    (∀ (E : Option Addr) (f : Nat) (u : World), RdI u E n zs → Calls Try.prog 31 #[.slice E n f] u fun e w' => e = .returned (.tuple #[.int .i64 a, .int .i64 b, .int .i64 z]) ∧ Below u.heap.size u w') := by
  cases hz : loopB zs
  · exact ⟨0, 0, 1, fun E f u h => implRough_bad E n f zs u h hz, fun E f u h => specRough_bad E n f zs u h hz⟩
  · exact ⟨_, _, 0, fun E f u h => implRough_ok E n f zs u h hz, fun E f u h => specRough_ok E n f zs u h hz⟩

end Go.Proofs.Ytfbdeeobmjndlaa
