/- Fractions as results, in the program and in the model: lowest terms, and the code where they are not valid. -/
import Derived.Test.YtmgkoijnjhfinaaDoorProg
import Derived.Test.YtmgkoijnjhfinaaDoorValid
import Derived.Deep.RegionWith
import Derived.Deep.DrawnRows
import Derived.Laws.StructEq
import Derived.Tactics
import Derived.Tactics2
import Derived.WalkKit
import Derived.LoopTactic
import Derived.BigQuiet
import Derived.RegionTactic
import Derived.BigRegion
import Derived.ChangeAlike
import Derived.Deep.QuietTactic
import Derived.Deep.RegionHeld3
import Derived.Deep.DeepCutAuto
import Derived.Outline
import Derived.Lib.Hide
import Derived.Below
import Derived.KernelRfl
namespace Go.Proofs.YtmgkoijnjhfinaaDoor
set_option linter.unusedSimpArgs false
set_option linter.unusedVariables false
open Go.RowKit

/-- The fraction n/d in lowest terms is valid. -/
def fullB (n d : Int) : Bool := okB (n.tdiv (divI n d)) (d.tdiv (divI n d))
/-- The result of a function: a fraction and a code. -/
def res (b : Bool) (n d c : Int) : Value := if b then .tuple #[fr n d, .int .i64 0] else .tuple #[fr 0 0, .int .i64 c]
def fullV (n d : Int) : Value := res (fullB n d) (n.tdiv (divI n d)) (d.tdiv (divI n d)) 5
theorem fullV_yes {n d : Int} (h : fullB n d = true) : fullV n d = .tuple #[fr (n.tdiv (divI n d)) (d.tdiv (divI n d)), .int .i64 0] := by rw [fullV, h]; rfl
theorem fullV_no {n d : Int} (h : fullB n d = false) : fullV n d = .tuple #[fr 0 0, .int .i64 5] := by rw [fullV, h]; rfl

theorem tdivI_le (n d : Int) : (n.tdiv (divI n d)).natAbs ≤ n.natAbs ∧ (d.tdiv (divI n d)).natAbs ≤ d.natAbs := by
  unfold divI
  split
  · rw [Int.tdiv_neg, Int.tdiv_neg, Int.natAbs_neg, Int.natAbs_neg]
    exact ⟨tdiv_le _ _, tdiv_le _ _⟩
  · exact ⟨tdiv_le _ _, tdiv_le _ _⟩

/-- impl.fitted. -/
theorem fitted_any (n d : Int) (w : World) (n1 : -9223372036854775807 ≤ n) (n2 : n ≤ 9223372036854775807) (d1 : -9223372036854775807 ≤ d) (d2 : d ≤ 9223372036854775807) (d0 : d ≠ 0) :
    Calls Tryd.prog 28 #[fr n d] w fun e w' => e = .returned (fullV n d) ∧ Below w.heap.size w w' := by
  cases h : fullB n d
  all_goals
    first | rw [fullV_no h] | rw [fullV_yes h]
    unfold fullB at h
    go_enter Tryd.func28, Tryd.ntmps28
    go_wp2_with fail
    refine (lowest_any _ _ _ n1 n2 d1 d2 d0).mono ?_
    rintro e u1 ⟨rfl, hb1⟩
    have B1 : Bk u1 w.heap.size n d := bkOf hb1 (by refine ⟨?_, ?_, ?_, ?_, ?_⟩ <;> go_simp)
    have B2 : Bk u1 (w.heap.size + 1) 0 0 := bkOf hb1 (by refine ⟨?_, ?_, ?_, ?_, ?_⟩ <;> go_simp)
    have hB1 := B1
    have hB2 := B2
    obtain ⟨c0, c1, f0, f1, z1⟩ := B1
    obtain ⟨c2, c3, f2, f3, z2⟩ := B2
    go_wp2_with fail
    refine (validFraction_any _ _ _).mono ?_
    rintro e u2 ⟨rfl, hb2⟩
    have B1 : Bk u2 w.heap.size (n.tdiv (divI n d)) (d.tdiv (divI n d)) := bkOf hb2 (by refine ⟨?_, ?_, ?_, ?_, ?_⟩ <;> go_simp)
    have B2 : Bk u2 (w.heap.size + 1) 0 0 := bkOf hb2 (by refine ⟨?_, ?_, ?_, ?_, ?_⟩ <;> go_simp)
    clear c0 c1 f0 f1 z1 c2 c3 f2 f3 z2 hB1 hB2
    obtain ⟨c0, c1, f0, f1, z1⟩ := B1
    obtain ⟨c2, c3, f2, f3, z2⟩ := B2
    go_wp2_with fail
    refine bodyPost_ret (v := _) (by simp [results, Tryd.results28, go_sem, c0, c1, c2, c3]) rfl ⟨rfl, ?_⟩
    repeat (first | exact Below.refl _ _ | refine bSet ?_ (by simp) _ | refine bAlloc ?_ _ | refine bTrans ?_ hb2 | refine bTrans ?_ hb1)

theorem w64div (k G : Nat) (h : k ≤ 9223372036854775807) : wrap64 ((k : Int) / (G : Int)) = (k : Int).tdiv (G : Int) := by
  rw [Int.tdiv_eq_ediv_of_nonneg (by omega), ← Int.natCast_ediv]
  have h2 := Nat.div_le_self k G
  generalize k / G = q at *
  unfold wrap64
  omega

/-- spec.l02Make. -/
theorem l02Make_any (n d : Int) (w : World) (n1 : -9223372036854775807 ≤ n) (n2 : n ≤ 9223372036854775807) (d1 : 1 ≤ d) (d2 : d ≤ 9223372036854775807) :
    Calls Tryd.prog 35 #[.int .i64 n, .int .i64 d] w fun e w' => e = .returned (fr (n.tdiv (divI n d)) (d.tdiv (divI n d))) ∧ Below w.heap.size w w' := by
  have hgi : divI n d = (Nat.gcd n.natAbs d.natAbs : Nat) := if_neg (by omega)
  rw [hgi]
  clear hgi
  obtain ⟨g1, g2⟩ := gcd_le_right' n.natAbs d.natAbs (by omega)
  obtain ⟨k, rfl⟩ := Int.eq_ofNat_of_zero_le (show 0 ≤ d by omega)
  rw [show ((k : Int)).natAbs = k from by omega] at *
  go_enter Tryd.func35, Tryd.ntmps35
  go_wp2_with (first | (go_at_call 38; refine (l00Size_any _ _ (by omega) (by omega)).mono ?_; rintro e u ⟨rfl, rfl⟩) | (go_at_call 37; refine (l00Gcd_any _ _ _ (by omega) (by omega)).mono ?_; rintro e u ⟨rfl, rfl⟩))
  have t1 := tdiv_le n (Nat.gcd n.natAbs k)
  have t2 := tdiv_le k (Nat.gcd n.natAbs k)
  go_region
  go_wp2
  refine bodyPost_ret (v := _) (by simp [results, Tryd.results35, go_sem]) rfl ⟨ret_fr rfl (w64div k _ (by omega)), ?_⟩
  exact Below.drew (bAlloc (Below.refl _ _) _)

theorem okB_bd {n d : Int} (h : okB n d = true) : 1 ≤ d ∧ d ≤ 1000000 ∧ -1000000 ≤ n ∧ n ≤ 1000000 := by
  simp only [okB, Bool.and_eq_true] at h
  have h1 := inB_iff.1 h.1.1
  have h2 := inB_iff.1 h.1.2
  omega

/-- laws.eqFraction. -/
theorem eqFraction_same (a b : Int) (w : World) :
    Calls Tryd.prog 19 #[fr a b, fr a b] w fun e w' => e = .returned (.bool true) ∧ Below w.heap.size w w' := by
  go_enter Tryd.func19, Tryd.ntmps19
  go_wp2
  go_ret
  exact ⟨rfl, bAlloc (bAlloc (Below.refl _ _) _) _⟩

end Go.Proofs.YtmgkoijnjhfinaaDoor
