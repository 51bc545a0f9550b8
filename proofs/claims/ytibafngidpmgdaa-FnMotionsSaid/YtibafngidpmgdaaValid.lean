/- Whether a fraction is valid, in the program and in the model. -/
import Derived.Test.YtibafngidpmgdaaProg
import Derived.Test.YtibafngidpmgdaaLow
import Derived.Test.YtibafngidpmgdaaOk
import Derived.Deep.RegionWith
import Derived.Deep.DrawnRows
import Derived.Laws.StructEq
import Derived.Tactics
import Derived.Tactics2
import Derived.WalkKit
import Derived.LoopTactic
import Derived.BigQuiet
import Derived.RegionTactic
import Derived.BigRegion
import Derived.ChangeAlike
import Derived.Deep.QuietTactic
import Derived.Deep.RegionHeld3
import Derived.Deep.DeepCutAuto
import Derived.Outline
import Derived.Lib.Hide
import Derived.Below
import Derived.KernelRfl
namespace Go.Proofs.Ytibafngidpmgdaa
set_option linter.unusedSimpArgs false
set_option linter.unusedVariables false
open Go.RowKit
attribute [local go_sem ↓] Go.wp_at_zero Go.wp_at_succ

theorem ok_of_terms {n d : Int} (h : termsB n d = false) : okB n d = false := by
  simp only [termsB] at h
  simp [okB, h]

theorem tdiv_self_iff {d : Int} {G : Nat} (h : 1 ≤ d) (hG : 1 ≤ G) : d.tdiv G = d ↔ G = 1 := by
  constructor
  · intro e
    by_cases g : G = 1
    · exact g
    · have h3 := Int.natAbs_tdiv d (G : Int)
      have h2 : d.natAbs / G < d.natAbs := Nat.div_lt_self (by omega) (by omega)
      rw [e, Int.natAbs_natCast] at h3
      have h4 : d.natAbs.div G = d.natAbs / G := rfl
      omega
  · rintro rfl; simp

theorem ok_of_lowest {n d : Int} (h : termsB n d = true) : (n == n.tdiv (divI n d) && d == d.tdiv (divI n d)) = okB n d := by
  have hh := h
  simp only [termsB, Bool.and_eq_true] at hh
  obtain ⟨h1, h2⟩ := hh
  obtain ⟨d1, d2⟩ := inB_iff.1 h1
  have hg := gcd_le_right' n.natAbs d.natAbs (by omega)
  have hd : divI n d = (Nat.gcd n.natAbs d.natAbs : Nat) := if_neg (by omega)
  rw [okB, h1, h2, Bool.true_and, Bool.true_and, hd, Bool.eq_iff_iff, decide_eq_true_eq, Bool.and_eq_true, beq_iff_eq, beq_iff_eq]
  generalize Nat.gcd n.natAbs d.natAbs = G at *
  constructor
  · rintro ⟨_, e⟩
    exact (tdiv_self_iff d1 hg.1).1 e.symm
  · rintro rfl
    simp

end Go.Proofs.Ytibafngidpmgdaa
