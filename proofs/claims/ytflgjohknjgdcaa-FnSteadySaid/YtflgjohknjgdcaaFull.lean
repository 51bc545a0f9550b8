/- Fractions as results, in the program and in the model: lowest terms, and the code where they are not valid. -/
import Derived.Test.YtflgjohknjgdcaaProg
import Derived.Test.YtflgjohknjgdcaaValid
import Derived.Deep.RegionWith
import Derived.Deep.DrawnRows
import Derived.Laws.StructEq
import Derived.Tactics
import Derived.Tactics2
import Derived.WalkKit
import Derived.LoopTactic
import Derived.BigQuiet
import Derived.RegionTactic
import Derived.BigRegion
import Derived.ChangeAlike
import Derived.Deep.QuietTactic
import Derived.Deep.RegionHeld3
import Derived.Deep.DeepCutAuto
import Derived.Outline
import Derived.Lib.Hide
import Derived.Below
import Derived.KernelRfl
namespace Go.Proofs.Ytflgjohknjgdcaa
set_option linter.unusedSimpArgs false
set_option linter.unusedVariables false
open Go.RowKit

/-- The fraction n/d in lowest terms is valid. -/
def fullB (n d : Int) : Bool := okB (n.tdiv (divI n d)) (d.tdiv (divI n d))
/-- The result of a function: a fraction and a code. -/
def res (b : Bool) (n d c : Int) : Value := if b then .tuple #[fr n d, .int .i64 0] else .tuple #[fr 0 0, .int .i64 c]
def fullV (n d : Int) : Value := res (fullB n d) (n.tdiv (divI n d)) (d.tdiv (divI n d)) 5
theorem fullV_yes {n d : Int} (h : fullB n d = true) : fullV n d = .tuple #[fr (n.tdiv (divI n d)) (d.tdiv (divI n d)), .int .i64 0] := by rw [fullV, h]; rfl
theorem fullV_no {n d : Int} (h : fullB n d = false) : fullV n d = .tuple #[fr 0 0, .int .i64 5] := by rw [fullV, h]; rfl

theorem tdivI_le (n d : Int) : (n.tdiv (divI n d)).natAbs ≤ n.natAbs ∧ (d.tdiv (divI n d)).natAbs ≤ d.natAbs := by
  unfold divI
  split
  · rw [Int.tdiv_neg, Int.tdiv_neg, Int.natAbs_neg, Int.natAbs_neg]
    exact ⟨tdiv_le _ _, tdiv_le _ _⟩
  · exact ⟨tdiv_le _ _, tdiv_le _ _⟩

theorem w64div (k G : Nat) (h : k ≤ 9223372036854775807) : wrap64 ((k : Int) / (G : Int)) = (k : Int).tdiv (G : Int) := by
  rw [Int.tdiv_eq_ediv_of_nonneg (by omega), ← Int.natCast_ediv]
  have h2 := Nat.div_le_self k G
  generalize k / G = q at *
  unfold wrap64
  omega

/-- spec.l02Make. -/
theorem l02Make_any (n d : Int) (w : World) (n1 : -9223372036854775807 ≤ n) (n2 : n ≤ 9223372036854775807) (d1 : 1 ≤ d) (d2 : d ≤ 9223372036854775807) :
    Calls Try.prog 69 #[.int .i64 n, .int .i64 d] w fun e w' => e = .returned (fr (n.tdiv (divI n d)) (d.tdiv (divI n d))) ∧ Below w.heap.size w w' := by
  have hgi : divI n d = (Nat.gcd n.natAbs d.natAbs : Nat) := if_neg (by omega)
  rw [hgi]
  clear hgi
  obtain ⟨g1, g2⟩ := gcd_le_right' n.natAbs d.natAbs (by omega)
  obtain ⟨k, rfl⟩ := Int.eq_ofNat_of_zero_le (show 0 ≤ d by omega)
  rw [show ((k : Int)).natAbs = k from by omega] at *
  go_enter Try.func69, Try.ntmps69
  go_wp2_with (first | (go_at_call 93; refine (l00Size_any _ _ (by omega) (by omega)).mono ?_; rintro e u ⟨rfl, rfl⟩) | (go_at_call 92; refine (l00Gcd_any _ _ _ (by omega) (by omega)).mono ?_; rintro e u ⟨rfl, rfl⟩))
  have t1 := tdiv_le n (Nat.gcd n.natAbs k)
  have t2 := tdiv_le k (Nat.gcd n.natAbs k)
  go_region
  go_wp2
  refine bodyPost_ret (v := _) (by simp [results, Try.results69, go_sem]) rfl ⟨ret_fr rfl (w64div k _ (by omega)), ?_⟩
  exact Below.drew (bAlloc (Below.refl _ _) _)

theorem okB_bd {n d : Int} (h : okB n d = true) : 1 ≤ d ∧ d ≤ 1000000 ∧ -1000000 ≤ n ∧ n ≤ 1000000 := by
  simp only [okB, Bool.and_eq_true] at h
  have h1 := inB_iff.1 h.1.1
  have h2 := inB_iff.1 h.1.2
  omega

/-- laws.eqFraction. -/
theorem eqFraction_same (a b : Int) (w : World) :
    Calls Try.prog 51 #[fr a b, fr a b] w fun e w' => e = .returned (.bool true) ∧ Below w.heap.size w w' := by
  go_enter Try.func51, Try.ntmps51
  go_wp2
  go_ret
  exact ⟨rfl, bAlloc (bAlloc (Below.refl _ _) _) _⟩

end Go.Proofs.Ytflgjohknjgdcaa
