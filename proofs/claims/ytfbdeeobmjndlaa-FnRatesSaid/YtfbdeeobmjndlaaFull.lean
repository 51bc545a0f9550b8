/- Fractions as results, in the program and in the model: lowest terms, and the code where they are not valid. -/
import Derived.Test.YtfbdeeobmjndlaaProg
import Derived.Test.YtfbdeeobmjndlaaValid
import Derived.Deep.RegionWith
import Derived.Deep.DrawnRows
import Derived.Laws.StructEq
import Derived.Tactics
import Derived.Tactics2
import Derived.WalkKit
import Derived.LoopTactic
import Derived.BigQuiet
import Derived.RegionTactic
import Derived.BigRegion
import Derived.ChangeAlike
import Derived.Deep.QuietTactic
import Derived.Deep.RegionHeld3
import Derived.Deep.DeepCutAuto
import Derived.Outline
import Derived.Lib.Hide
import Derived.Below
import Derived.KernelRfl
namespace Go.Proofs.Ytfbdeeobmjndlaa
set_option linter.unusedSimpArgs false
set_option linter.unusedVariables false
open Go.RowKit

/-- The fraction n/d in lowest terms is valid. -/
def fullB (n d : Int) : Bool := okB (n.tdiv (divI n d)) (d.tdiv (divI n d))
/-- The result of a function: a fraction and a code. -/
def res (b : Bool) (n d c : Int) : Value := if b then .tuple #[fr n d, .int .i64 0] else .tuple #[fr 0 0, .int .i64 c]
def fullV (n d : Int) : Value := res (fullB n d) (n.tdiv (divI n d)) (d.tdiv (divI n d)) 5
theorem fullV_yes {n d : Int} (h : fullB n d = true) : fullV n d = .tuple #[fr (n.tdiv (divI n d)) (d.tdiv (divI n d)), .int .i64 0] := by rw [fullV, h]; rfl
theorem fullV_no {n d : Int} (h : fullB n d = false) : fullV n d = .tuple #[fr 0 0, .int .i64 5] := by rw [fullV, h]; rfl

theorem tdivI_le (n d : Int) : (n.tdiv (divI n d)).natAbs ≤ n.natAbs ∧ (d.tdiv (divI n d)).natAbs ≤ d.natAbs := by
  unfold divI
  split
  · rw [Int.tdiv_neg, Int.tdiv_neg, Int.natAbs_neg, Int.natAbs_neg]
    exact ⟨tdiv_le _ _, tdiv_le _ _⟩
  · exact ⟨tdiv_le _ _, tdiv_le _ _⟩

/-- impl.fitted. -/
theorem fitted_any (n d : Int) (w : World) (n1 : -9223372036854775807 ≤ n) (n2 : n ≤ 9223372036854775807) (d1 : -9223372036854775807 ≤ d) (d2 : d ≤ 9223372036854775807) (d0 : d ≠ 0) :
    Calls Try.prog 173 #[fr n d] w fun e w' => e = .returned (fullV n d) ∧ Below w.heap.size w w' := by
  cases h : fullB n d
  all_goals
    first | rw [fullV_no h] | rw [fullV_yes h]
    unfold fullB at h
    go_enter Try.func173, Try.ntmps173
    go_wp2_with fail
    refine (lowest_any _ _ _ n1 n2 d1 d2 d0).mono ?_
    rintro e u1 ⟨rfl, hb1⟩
    have B1 : Bk u1 w.heap.size n d := bkOf hb1 (by refine ⟨?_, ?_, ?_, ?_, ?_⟩ <;> go_simp)
    have B2 : Bk u1 (w.heap.size + 1) 0 0 := bkOf hb1 (by refine ⟨?_, ?_, ?_, ?_, ?_⟩ <;> go_simp)
    have hB1 := B1
    have hB2 := B2
    obtain ⟨c0, c1, f0, f1, z1⟩ := B1
    obtain ⟨c2, c3, f2, f3, z2⟩ := B2
    go_wp2_with fail
    refine (validFraction_any _ _ _).mono ?_
    rintro e u2 ⟨rfl, hb2⟩
    have B1 : Bk u2 w.heap.size (n.tdiv (divI n d)) (d.tdiv (divI n d)) := bkOf hb2 (by refine ⟨?_, ?_, ?_, ?_, ?_⟩ <;> go_simp)
    have B2 : Bk u2 (w.heap.size + 1) 0 0 := bkOf hb2 (by refine ⟨?_, ?_, ?_, ?_, ?_⟩ <;> go_simp)
    clear c0 c1 f0 f1 z1 c2 c3 f2 f3 z2 hB1 hB2
    obtain ⟨c0, c1, f0, f1, z1⟩ := B1
    obtain ⟨c2, c3, f2, f3, z2⟩ := B2
    go_wp2_with fail
    refine bodyPost_ret (v := _) (by simp [results, Try.results173, go_sem, c0, c1, c2, c3]) rfl ⟨rfl, ?_⟩
    repeat (first | exact Below.refl _ _ | refine bSet ?_ (by simp) _ | refine bAlloc ?_ _ | refine bTrans ?_ hb2 | refine bTrans ?_ hb1)

theorem w64div (k G : Nat) (h : k ≤ 9223372036854775807) : wrap64 ((k : Int) / (G : Int)) = (k : Int).tdiv (G : Int) := by
  rw [Int.tdiv_eq_ediv_of_nonneg (by omega), ← Int.natCast_ediv]
  have h2 := Nat.div_le_self k G
  generalize k / G = q at *
  unfold wrap64
  omega

/-- spec.l02Make. -/
theorem l02Make_any (n d : Int) (w : World) (n1 : -9223372036854775807 ≤ n) (n2 : n ≤ 9223372036854775807) (d1 : 1 ≤ d) (d2 : d ≤ 9223372036854775807) :
    Calls Try.prog 186 #[.int .i64 n, .int .i64 d] w fun e w' => e = .returned (fr (n.tdiv (divI n d)) (d.tdiv (divI n d))) ∧ Below w.heap.size w w' := by
  have hgi : divI n d = (Nat.gcd n.natAbs d.natAbs : Nat) := if_neg (by omega)
  rw [hgi]
  clear hgi
  obtain ⟨g1, g2⟩ := gcd_le_right' n.natAbs d.natAbs (by omega)
  obtain ⟨k, rfl⟩ := Int.eq_ofNat_of_zero_le (show 0 ≤ d by omega)
  rw [show ((k : Int)).natAbs = k from by omega] at *
  go_enter Try.func186, Try.ntmps186
  go_wp2_with (first | (go_at_call 113; refine (l00Size_any _ _ (by omega) (by omega)).mono ?_; rintro e u ⟨rfl, rfl⟩) | (go_at_call 168; refine (l00Gcd_any _ _ _ (by omega) (by omega)).mono ?_; rintro e u ⟨rfl, rfl⟩))
  have t1 := tdiv_le n (Nat.gcd n.natAbs k)
  have t2 := tdiv_le k (Nat.gcd n.natAbs k)
  go_region
  go_wp2
  refine bodyPost_ret (v := _) (by simp [results, Try.results186, go_sem]) rfl ⟨ret_fr rfl (w64div k _ (by omega)), ?_⟩
  exact Below.drew (bAlloc (Below.refl _ _) _)

/-- spec.l02Full. -/
theorem l02Full_any (n d : Int) (w : World) (n1 : -9223372036854775807 ≤ n) (n2 : n ≤ 9223372036854775807) (d1 : 1 ≤ d) (d2 : d ≤ 9223372036854775807) :
    Calls Try.prog 167 #[.int .i64 n, .int .i64 d] w fun e w' => e = .returned (fullV n d) ∧ Below w.heap.size w w' := by
  obtain ⟨t1, t2⟩ := tdivI_le n d
  cases h : fullB n d
  all_goals
    first | rw [fullV_no h] | rw [fullV_yes h]
    unfold fullB at h
    go_enter Try.func167, Try.ntmps167
    go_wp2_with fail
    refine (l02Make_any _ _ _ n1 n2 d1 d2).mono ?_
    rintro e u1 ⟨rfl, hb1⟩
    have B2 : Bk u1 w.heap.size 0 0 := bkOf hb1 (by refine ⟨?_, ?_, ?_, ?_, ?_⟩ <;> go_simp)
    obtain ⟨c2, c3, f2, f3, z2⟩ := B2
    go_wp2_with fail
    refine (l02Ok_any _ _ _ (by omega) (by omega)).mono ?_
    rintro e u2 ⟨rfl, hb2⟩
    have B1 : Bk u2 u1.heap.size (n.tdiv (divI n d)) (d.tdiv (divI n d)) := bkOf hb2 (by refine ⟨?_, ?_, ?_, ?_, ?_⟩ <;> go_simp)
    have B2 : Bk u2 w.heap.size 0 0 := bkOf hb2 (by refine ⟨?_, ?_, ?_, ?_, ?_⟩ <;> go_simp)
    clear c2 c3 f2 f3
    obtain ⟨c0, c1, f0, f1, z1⟩ := B1
    obtain ⟨c2, c3, f2, f3, z3⟩ := B2
    go_wp2_with fail
    refine bodyPost_ret (v := _) (by simp [results, Try.results167, go_sem, c2, c3]) rfl ⟨rfl, ?_⟩
    repeat (first | exact Below.refl _ _ | refine bSet ?_ (by simp) _ | refine bAlloc ?_ _ | refine bTrans ?_ hb2 | refine bTrans ?_ hb1)

theorem okB_bd {n d : Int} (h : okB n d = true) : 1 ≤ d ∧ d ≤ 1000000 ∧ -1000000 ≤ n ∧ n ≤ 1000000 := by
  simp only [okB, Bool.and_eq_true] at h
  have h1 := inB_iff.1 h.1.1
  have h2 := inB_iff.1 h.1.2
  omega

/-- spec.l02Two. -/
theorem l02Two_yes (a b c d : Int) (w : World) (h1 : okB a b = true) (h2 : okB c d = true) :
    Calls Try.prog 166 #[fr a b, fr c d] w fun e w' => e = .returned (.int .i64 0) ∧ Below w.heap.size w w' := by
  have k1 := okB_bd h1
  have k2 := okB_bd h2
  go_enter Try.func166, Try.ntmps166
  go_wp2_with fail
  refine (l02Ok_any _ _ _ (by omega) (by omega)).mono ?_
  rintro e u1 ⟨rfl, hb1⟩
  have B1 : Bk u1 (w.heap.size + 1) c d := bkOf hb1 (by refine ⟨?_, ?_, ?_, ?_, ?_⟩ <;> go_simp)
  obtain ⟨c0, c1, f0, f1, z1⟩ := B1
  go_wp2_with fail
  refine (l02Ok_any _ _ _ (by omega) (by omega)).mono ?_
  rintro e u2 ⟨rfl, hb2⟩
  go_wp2_with fail
  go_ret
  exact ⟨rfl, bTrans (bTrans (bAlloc (bAlloc (Below.refl _ _) _) _) hb1) hb2⟩

theorem l02Two_no (a b c d : Int) (w : World) (ha : I64 a) (hc : I64 c) (h : (okB a b && okB c d) = false) :
    Calls Try.prog 166 #[fr a b, fr c d] w fun e w' => e = .returned (.int .i64 1) ∧ Below w.heap.size w w' := by
  obtain ⟨a1, a2⟩ := ha
  obtain ⟨c1, c2⟩ := hc
  cases h1 : okB a b
  · clear h
    go_enter Try.func166, Try.ntmps166
    go_wp2_with fail
    refine (l02Ok_any _ _ _ (by omega) (by omega)).mono ?_
    rintro e u1 ⟨rfl, hb1⟩
    go_wp2_with fail
    go_ret
    exact ⟨rfl, bTrans (bAlloc (bAlloc (Below.refl _ _) _) _) hb1⟩
  · rw [h1, Bool.true_and] at h
    go_enter Try.func166, Try.ntmps166
    go_wp2_with fail
    refine (l02Ok_any _ _ _ (by omega) (by omega)).mono ?_
    rintro e u1 ⟨rfl, hb1⟩
    have B1 : Bk u1 (w.heap.size + 1) c d := bkOf hb1 (by refine ⟨?_, ?_, ?_, ?_, ?_⟩ <;> go_simp)
    obtain ⟨c0, c1, f0, f1, z1⟩ := B1
    go_wp2_with fail
    refine (l02Ok_any _ _ _ (by omega) (by omega)).mono ?_
    rintro e u2 ⟨rfl, hb2⟩
    go_wp2_with fail
    go_ret
    exact ⟨rfl, bTrans (bTrans (bAlloc (bAlloc (Below.refl _ _) _) _) hb1) hb2⟩

/-- laws.eqFraction. -/
theorem eqFraction_same (a b : Int) (w : World) :
    Calls Try.prog 103 #[fr a b, fr a b] w fun e w' => e = .returned (.bool true) ∧ Below w.heap.size w w' := by
  go_enter Try.func103, Try.ntmps103
  go_wp2
  go_ret
  exact ⟨rfl, bAlloc (bAlloc (Below.refl _ _) _) _⟩

end Go.Proofs.Ytfbdeeobmjndlaa
