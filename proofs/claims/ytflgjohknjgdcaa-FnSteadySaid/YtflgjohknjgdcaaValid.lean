/- Whether a fraction is valid, in the program and in the model. -/
import Derived.Test.YtflgjohknjgdcaaProg
import Derived.Test.YtflgjohknjgdcaaLow
import Derived.Test.YtflgjohknjgdcaaOk
import Derived.Deep.RegionWith
import Derived.Deep.DrawnRows
import Derived.Laws.StructEq
import Derived.Tactics
import Derived.Tactics2
import Derived.WalkKit
import Derived.LoopTactic
import Derived.BigQuiet
import Derived.RegionTactic
import Derived.BigRegion
import Derived.ChangeAlike
import Derived.Deep.QuietTactic
import Derived.Deep.RegionHeld3
import Derived.Deep.DeepCutAuto
import Derived.Outline
import Derived.Lib.Hide
import Derived.Below
import Derived.KernelRfl
namespace Go.Proofs.Ytflgjohknjgdcaa
set_option linter.unusedSimpArgs false
set_option linter.unusedVariables false
open Go.RowKit
attribute [local go_sem ↓] Go.wp_at_zero Go.wp_at_succ

theorem ok_of_terms {n d : Int} (h : termsB n d = false) : okB n d = false := by
  simp only [termsB] at h
  simp [okB, h]

theorem tdiv_self_iff {d : Int} {G : Nat} (h : 1 ≤ d) (hG : 1 ≤ G) : d.tdiv G = d ↔ G = 1 := by
  constructor
  · intro e
    by_cases g : G = 1
    · exact g
    · have h3 := Int.natAbs_tdiv d (G : Int)
      have h2 : d.natAbs / G < d.natAbs := Nat.div_lt_self (by omega) (by omega)
      rw [e, Int.natAbs_natCast] at h3
      have h4 : d.natAbs.div G = d.natAbs / G := rfl
      omega
  · rintro rfl; simp

/-- impl.ValidFraction. -/
theorem validFraction_no (n d : Int) (w : World) (h : termsB n d = false) :
    Calls Try.prog 56 #[fr n d] w fun e w' => e = .returned (.bool (okB n d)) ∧ Below w.heap.size w w' := by
  rw [ok_of_terms h]
  go_enter Try.func56, Try.ntmps56
  go_wp2
  go_region_with (first | (go_at_call 90; refine (hasValidTerms_any _ _ _).mono ?_; rintro e w1 ⟨rfl, hb1⟩))
  all_goals go_wp2
  all_goals go_ret
  all_goals exact ⟨rfl, bTrans (Below.drew (bAlloc (Below.refl _ _) _)) hb1⟩

/-- Two fractions compared. -/
theorem equalIn_fr (a b c d : Int) (w : World) : (Op.equalIn 10000 27 (.agg #[.int .i64 a, .int .i64 b]) (.agg #[.int .i64 c, .int .i64 d])).run Try.prog w = .ok (a == c && b == d) w := by
  have u2 := Try.underlying2
  have h1 : Try.prog.underlying 27 = some (.struct (Try.prog.fieldsOf 27)) := by kernel_rfl
  have h2 : Try.prog.stoodInHeld 27 = false := by kernel_rfl
  rw [show (10000 : Nat) = 9999 + 1 from rfl, run_equalIn_agg w 9999 27 _ _ h1 h2]
  simp only [Program.fieldsOf, Try.underlying27]
  go_simp
  by_cases e1 : a = c <;> by_cases e2 : b = d <;> simp [e1, e2]
theorem eql_fr (a b c d : Int) (w : World) : (binOp .eql 27 (.agg #[.int .i64 a, .int .i64 b]) (.agg #[.int .i64 c, .int .i64 d])).run Try.prog w = .ok (.bool (a == c && b == d)) w := by
  rw [run_eql_struct, equalIn_fr]; rfl
attribute [local go_sem ↓] eql_fr

theorem ok_of_lowest {n d : Int} (h : termsB n d = true) : (n == n.tdiv (divI n d) && d == d.tdiv (divI n d)) = okB n d := by
  have hh := h
  simp only [termsB, Bool.and_eq_true] at hh
  obtain ⟨h1, h2⟩ := hh
  obtain ⟨d1, d2⟩ := inB_iff.1 h1
  have hg := gcd_le_right' n.natAbs d.natAbs (by omega)
  have hd : divI n d = (Nat.gcd n.natAbs d.natAbs : Nat) := if_neg (by omega)
  rw [okB, h1, h2, Bool.true_and, Bool.true_and, hd, Bool.eq_iff_iff, decide_eq_true_eq, Bool.and_eq_true, beq_iff_eq, beq_iff_eq]
  generalize Nat.gcd n.natAbs d.natAbs = G at *
  constructor
  · rintro ⟨_, e⟩
    exact (tdiv_self_iff d1 hg.1).1 e.symm
  · rintro rfl
    simp

theorem validFraction_yes (n d : Int) (w : World) (h : termsB n d = true) :
    Calls Try.prog 56 #[fr n d] w fun e w' => e = .returned (.bool (okB n d)) ∧ Below w.heap.size w w' := by
  have hh := h
  simp only [termsB, Bool.and_eq_true] at hh
  obtain ⟨h1, h2⟩ := hh
  obtain ⟨d1, d2⟩ := inB_iff.1 h1
  obtain ⟨n1, n2⟩ := inB_iff.1 h2
  clear h1 h2
  go_enter Try.func56, Try.ntmps56
  go_wp2
  go_region_held3 (fun w' => w'.cell? ⟨w.heap.size, 0, none⟩ = some (.int .i64 n) ∧ w'.cell? ⟨w.heap.size, 1, none⟩ = some (.int .i64 d)) (go_keep)
    (first | (go_at_call 90; refine (hasValidTerms_any _ _ _).mono ?_; rintro e w1 ⟨rfl, hb1⟩; obtain ⟨hc1, hf1⟩ := bCells hb1; have hz1 : w.heap.size < w1.heap.size := by (have := hb1.size; simp at this; omega)) | (go_at_call 67; refine (lowest_any _ _ _ (by omega) (by omega) (by omega) (by omega) (by omega)).mono ?_; rintro e w2 ⟨rfl, hb2⟩; obtain ⟨hc2, hf2⟩ := bCells hb2))
  all_goals go_wp2
  all_goals go_ret
  exact ⟨ret_bool (ok_of_lowest h), bTrans (bTrans (Below.drew (bAlloc (Below.refl _ _) _)) hb1) hb2⟩

/-- impl.ValidFraction. -/
theorem validFraction_any (n d : Int) (w : World) :
    Calls Try.prog 56 #[fr n d] w fun e w' => e = .returned (.bool (okB n d)) ∧ Below w.heap.size w w' := by
  cases h : termsB n d
  · exact validFraction_no n d w h
  · exact validFraction_yes n d w h

end Go.Proofs.Ytflgjohknjgdcaa
