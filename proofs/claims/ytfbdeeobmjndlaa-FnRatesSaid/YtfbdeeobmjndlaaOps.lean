/- The operations on two fractions, in the program and in the model. -/
import Derived.Test.YtfbdeeobmjndlaaProg
import Derived.Test.YtfbdeeobmjndlaaFull
import Derived.Test.YtfbdeeobmjndlaaLcm
import Derived.Deep.RegionWith
import Derived.Deep.DrawnRows
import Derived.Laws.StructEq
import Derived.Tactics
import Derived.Tactics2
import Derived.WalkKit
import Derived.LoopTactic
import Derived.BigQuiet
import Derived.RegionTactic
import Derived.BigRegion
import Derived.ChangeAlike
import Derived.Deep.QuietTactic
import Derived.Deep.RegionHeld3
import Derived.Deep.DeepCutAuto
import Derived.Outline
import Derived.Lib.Hide
import Derived.Below
import Derived.KernelRfl
namespace Go.Proofs.Ytfbdeeobmjndlaa
set_option linter.unusedSimpArgs false
set_option linter.unusedVariables false
open Go.RowKit

theorem mul_bd {x y m k : Int} (h1 : -m ≤ x) (h2 : x ≤ m) (h3 : -k ≤ y) (h4 : y ≤ k) : -(m * k) ≤ x * y ∧ x * y ≤ m * k := by
  have e : (x * y).natAbs = x.natAbs * y.natAbs := Int.natAbs_mul x y
  have f : x.natAbs * y.natAbs ≤ m.natAbs * k.natAbs := Nat.mul_le_mul (by omega) (by omega)
  have g : (m * k).natAbs = m.natAbs * k.natAbs := Int.natAbs_mul m k
  have h : 0 ≤ m * k := Int.mul_nonneg (by omega) (by omega)
  omega

theorem times_any (a b c d : Int) (w : World) (h1 : -1000000 ≤ a) (h2 : a ≤ 1000000) (h3 : -1000000 ≤ b) (h4 : b ≤ 1000000) (h5 : -1000000 ≤ c) (h6 : c ≤ 1000000) (h7 : -1000000 ≤ d) (h8 : d ≤ 1000000) :
    Calls Try.prog 174 #[fr a b, fr c d] w fun e w' => e = .returned (fr (a * c) (b * d)) ∧ Below w.heap.size w w' := by
  have m1 := mul_bd (x := a) (y := c) (m := 1000000) (k := 1000000) (by omega) (by omega) (by omega) (by omega)
  have m3 := mul_bd (x := b) (y := d) (m := 1000000) (k := 1000000) (by omega) (by omega) (by omega) (by omega)
  go_enter Try.func174, Try.ntmps174
  go_wp2
  refine bodyPost_ret (v := _) (by simp [results, Try.results174, go_sem]) rfl ⟨rfl, ?_⟩
  repeat (first | exact Below.refl _ _ | refine bSet ?_ (by simp) _ | refine bAlloc ?_ _ | refine Below.drew ?_ | refine bDrewN ?_ _)

theorem w64quo (b G d : Nat) (q1 : b / G ≤ b) (q2 : b / G * d ≤ 1000000 * 1000000) (hb : b ≤ 1000000) : ((b / G * d : Nat) : Int) = wrap64 (wrap64 ((b : Int) / (G : Int)) * (d : Int)) := by
  rw [← Int.natCast_ediv]
  generalize b / G = q at *
  have e1 : wrap64 (q : Int) = q := by unfold wrap64; omega
  rw [e1, ← Int.natCast_mul]
  generalize q * d = r at *
  unfold wrap64
  omega

set_option maxHeartbeats 1000000 in
theorem meeting_any (a b c d : Nat) (w : World) (h1 : 1 ≤ a) (h2 : a ≤ 1000000) (h3 : 1 ≤ b) (h4 : b ≤ 1000000) (h5 : 1 ≤ c) (h6 : c ≤ 1000000) (h7 : 1 ≤ d) (h8 : d ≤ 1000000) :
    Calls Try.prog 171 #[fr a b, fr c d] w fun e w' => e = .returned (fr ((b / Nat.gcd b d * d : Nat) : Int) (Nat.gcd a c : Nat)) ∧ Below w.heap.size w w' := by
  have L := Lib.hid (fun u => leastMultiple_any b d u h3 h4 h7 h8)
  have G := Lib.hid (fun u => greatestDivisor_any a c u (by omega) (by omega))
  generalize b / Nat.gcd b d * d = q at *
  generalize Nat.gcd a c = r at *
  have ne1 : ¬ w.heap.size = w.heap.size + 1 + 1 := by omega
  have ne2 : ¬ w.heap.size + 1 + 1 = w.heap.size := by omega
  go_enter Try.func171, Try.ntmps171
  go_wp2
  go_region_held3 (fun w' => w'.cell? ⟨w.heap.size, 0, none⟩ = some (.int .i64 a) ∧ w'.cell? ⟨w.heap.size, 1, none⟩ = some (.int .i64 b) ∧ w'.cell? ⟨w.heap.size + 1, 0, none⟩ = some (.int .i64 c) ∧ w'.cell? ⟨w.heap.size + 1, 1, none⟩ = some (.int .i64 d)) (go_keep)
    (first | (go_at_call 125; refine (L.out _).mono ?_; rintro e u ⟨rfl, m, rfl⟩) | (go_at_call 176; refine (G.out _).mono ?_; rintro e u ⟨rfl, k, rfl⟩))
  all_goals go_wp2
  all_goals
    refine bodyPost_ret (v := fr (q : Int) (r : Int)) (by simp [results, Try.results171, go_sem]) rfl ⟨rfl, ?_⟩
    repeat (first | exact Below.refl _ _ | refine bSet ?_ (by simp; omega) _ | refine bAlloc ?_ _ | refine bDrewN ?_ _ | refine Below.drew ?_)

/-- impl.combined where a fraction is not valid. -/
theorem combined_no (F : Nat) (a b c d : Int) (w : World) (h : (okB a b && okB c d) = false) :
    Calls Try.prog 170 #[fr a b, fr c d, .func (.func F) #[fr a b] #[]] w fun e w' => e = .returned (.tuple #[fr 0 0, .int .i64 1]) ∧ Below w.heap.size w w' := by
  cases h1 : okB a b
  · clear h
    go_enter Try.func170, Try.ntmps170
    go_wp2_with fail
    refine (validFraction_any _ _ _).mono ?_
    rintro e u1 ⟨rfl, hb1⟩
    have B2 : Bk u1 (w.heap.size + 1 + 1) 0 0 := bkOf hb1 (by refine ⟨?_, ?_, ?_, ?_, ?_⟩ <;> go_simp)
    obtain ⟨c2, c3, f2, f3, z2⟩ := B2
    go_wp2_with fail
    refine bodyPost_ret (v := _) (by simp [results, Try.results170, go_sem, c2, c3]) rfl ⟨rfl, ?_⟩
    repeat (first | exact Below.refl _ _ | refine bSet ?_ (by simp; omega) _ | refine bAlloc ?_ _ | refine bTrans ?_ hb1)
  · rw [h1, Bool.true_and] at h
    go_enter Try.func170, Try.ntmps170
    go_wp2_with fail
    refine (validFraction_any _ _ _).mono ?_
    rintro e u1 ⟨rfl, hb1⟩
    have B1 : Bk u1 (w.heap.size + 1) c d := bkOf hb1 (by refine ⟨?_, ?_, ?_, ?_, ?_⟩ <;> go_simp)
    have B2 : Bk u1 (w.heap.size + 1 + 1) 0 0 := bkOf hb1 (by refine ⟨?_, ?_, ?_, ?_, ?_⟩ <;> go_simp)
    obtain ⟨c0, c1, f0, f1, z1⟩ := B1
    have B2' := B2
    obtain ⟨c2, c3, f2, f3, z2⟩ := B2
    go_wp2_with fail
    refine (validFraction_any _ _ _).mono ?_
    rintro e u2 ⟨rfl, hb2⟩
    have B2 : Bk u2 (w.heap.size + 1 + 1) 0 0 := bkOf hb2 B2'
    clear c0 c1 f0 f1 z1 c2 c3 f2 f3 z2
    obtain ⟨c2, c3, f2, f3, z2⟩ := B2
    go_wp2_with fail
    refine bodyPost_ret (v := _) (by simp [results, Try.results170, go_sem, c2, c3]) rfl ⟨rfl, ?_⟩
    repeat (first | exact Below.refl _ _ | refine bSet ?_ (by simp; omega) _ | refine bAlloc ?_ _ | refine bTrans ?_ hb2 | refine bTrans ?_ hb1)

/-- impl.combined, of a method that is bound to the first fraction. -/
theorem combined_times (a b c d n m : Int) (w : World) (h1 : okB a b = true) (h2 : okB c d = true)
    (hop : ∀ w : World, Calls Try.prog 174 #[fr a b, fr c d] w fun e w' => e = .returned (fr n m) ∧ Below w.heap.size w w')
    (n1 : -9223372036854775807 ≤ n) (n2 : n ≤ 9223372036854775807) (m1 : -9223372036854775807 ≤ m) (m2 : m ≤ 9223372036854775807) (m0 : m ≠ 0) :
    Calls Try.prog 170 #[fr a b, fr c d, .func (.func 174) #[fr a b] #[]] w fun e w' => e = .returned (fullV n m) ∧ Below w.heap.size w w' := by
  have H := Lib.hid hop
  clear hop
  obtain ⟨vc, hvc⟩ : ∃ b, b = fullB n m := ⟨_, rfl⟩
  obtain ⟨x, y, z, hV⟩ : ∃ x y z : Int, fullV n m = .tuple #[fr x y, .int .i64 z] := by
    cases h : fullB n m
    · exact ⟨_, _, _, fullV_no h⟩
    · exact ⟨_, _, _, fullV_yes h⟩
  rw [hV]
  have HV := Lib.hid hV
  clear hV hvc
  go_enter Try.func170, Try.ntmps170
  go_wp2_with fail
  refine (validFraction_any _ _ _).mono ?_
  rintro e u1 ⟨rfl, hb1⟩
  have B1 : Bk u1 (w.heap.size + 1) c d := bkOf hb1 (by refine ⟨?_, ?_, ?_, ?_, ?_⟩ <;> go_simp)
  have B2 : Bk u1 (w.heap.size + 1 + 1) 0 0 := bkOf hb1 (by refine ⟨?_, ?_, ?_, ?_, ?_⟩ <;> go_simp)
  obtain ⟨c0, c1, f0, f1, z1⟩ := B1
  obtain ⟨c2, c3, f2, f3, z2⟩ := B2
  go_wp2_with fail
  refine (validFraction_any _ _ _).mono ?_
  rintro e u2 ⟨rfl, hb2⟩
  have B1 : Bk u2 (w.heap.size + 1) c d := bkOf hb2 ⟨c0, c1, f0, f1, z1⟩
  have B2 : Bk u2 (w.heap.size + 1 + 1) 0 0 := bkOf hb2 ⟨c2, c3, f2, f3, z2⟩
  clear c0 c1 f0 f1 z1 c2 c3 f2 f3 z2
  obtain ⟨c0, c1, f0, f1, z1⟩ := B1
  have B2' := B2
  obtain ⟨c2, c3, f2, f3, z2⟩ := B2
  go_wp2_with fail
  refine (H.out _).mono ?_
  rintro e u3 ⟨rfl, hb3⟩
  go_wp2_with fail
  refine (fitted_any _ _ _ n1 n2 m1 m2 m0).mono ?_
  rw [HV.out]
  rintro e u4 ⟨rfl, hb4⟩
  have B2 := bkOf hb4 (bkOf hb3 B2')
  clear c0 c1 f0 f1 z1 c2 c3 f2 f3 z2
  obtain ⟨c2, c3, f2, f3, z2⟩ := B2
  go_wp2_with fail
  refine bodyPost_ret (v := _) (by simp [results, Try.results170, go_sem, c2, c3]) rfl ⟨rfl, ?_⟩
  repeat (first | exact Below.refl _ _ | refine bSet ?_ (by simp; omega) _ | refine bAlloc ?_ _ | refine bTrans ?_ hb4 | refine bTrans ?_ hb3 | refine bTrans ?_ hb2 | refine bTrans ?_ hb1)

/-- impl.combined, of a method that is bound to the first fraction. -/
theorem combined_meeting (a b c d n m : Int) (w : World) (h1 : okB a b = true) (h2 : okB c d = true)
    (hop : ∀ w : World, Calls Try.prog 171 #[fr a b, fr c d] w fun e w' => e = .returned (fr n m) ∧ Below w.heap.size w w')
    (n1 : -9223372036854775807 ≤ n) (n2 : n ≤ 9223372036854775807) (m1 : -9223372036854775807 ≤ m) (m2 : m ≤ 9223372036854775807) (m0 : m ≠ 0) :
    Calls Try.prog 170 #[fr a b, fr c d, .func (.func 171) #[fr a b] #[]] w fun e w' => e = .returned (fullV n m) ∧ Below w.heap.size w w' := by
  have H := Lib.hid hop
  clear hop
  obtain ⟨vc, hvc⟩ : ∃ b, b = fullB n m := ⟨_, rfl⟩
  obtain ⟨x, y, z, hV⟩ : ∃ x y z : Int, fullV n m = .tuple #[fr x y, .int .i64 z] := by
    cases h : fullB n m
    · exact ⟨_, _, _, fullV_no h⟩
    · exact ⟨_, _, _, fullV_yes h⟩
  rw [hV]
  have HV := Lib.hid hV
  clear hV hvc
  go_enter Try.func170, Try.ntmps170
  go_wp2_with fail
  refine (validFraction_any _ _ _).mono ?_
  rintro e u1 ⟨rfl, hb1⟩
  have B1 : Bk u1 (w.heap.size + 1) c d := bkOf hb1 (by refine ⟨?_, ?_, ?_, ?_, ?_⟩ <;> go_simp)
  have B2 : Bk u1 (w.heap.size + 1 + 1) 0 0 := bkOf hb1 (by refine ⟨?_, ?_, ?_, ?_, ?_⟩ <;> go_simp)
  obtain ⟨c0, c1, f0, f1, z1⟩ := B1
  obtain ⟨c2, c3, f2, f3, z2⟩ := B2
  go_wp2_with fail
  refine (validFraction_any _ _ _).mono ?_
  rintro e u2 ⟨rfl, hb2⟩
  have B1 : Bk u2 (w.heap.size + 1) c d := bkOf hb2 ⟨c0, c1, f0, f1, z1⟩
  have B2 : Bk u2 (w.heap.size + 1 + 1) 0 0 := bkOf hb2 ⟨c2, c3, f2, f3, z2⟩
  clear c0 c1 f0 f1 z1 c2 c3 f2 f3 z2
  obtain ⟨c0, c1, f0, f1, z1⟩ := B1
  have B2' := B2
  obtain ⟨c2, c3, f2, f3, z2⟩ := B2
  go_wp2_with fail
  refine (H.out _).mono ?_
  rintro e u3 ⟨rfl, hb3⟩
  go_wp2_with fail
  refine (fitted_any _ _ _ n1 n2 m1 m2 m0).mono ?_
  rw [HV.out]
  rintro e u4 ⟨rfl, hb4⟩
  have B2 := bkOf hb4 (bkOf hb3 B2')
  clear c0 c1 f0 f1 z1 c2 c3 f2 f3 z2
  obtain ⟨c2, c3, f2, f3, z2⟩ := B2
  go_wp2_with fail
  refine bodyPost_ret (v := _) (by simp [results, Try.results170, go_sem, c2, c3]) rfl ⟨rfl, ?_⟩
  repeat (first | exact Below.refl _ _ | refine bSet ?_ (by simp; omega) _ | refine bAlloc ?_ _ | refine bTrans ?_ hb4 | refine bTrans ?_ hb3 | refine bTrans ?_ hb2 | refine bTrans ?_ hb1)

end Go.Proofs.Ytfbdeeobmjndlaa
