/- The least time in which two rates have done whole turns: in the program and in the model; and its statement's walk. -/
import Derived.Test.YtfbdeeobmjndlaaProg
import Derived.Test.YtfbdeeobmjndlaaLaws2
import Derived.Deep.RegionWith
import Derived.Deep.DrawnRows
import Derived.Laws.StructEq
import Derived.Deep.DeepCutAuto
import Derived.Tactics
import Derived.Tactics2
import Derived.WalkKit
import Derived.LoopTactic
import Derived.BigQuiet
import Derived.RegionTactic
import Derived.BigRegion
import Derived.ChangeAlike
import Derived.Deep.QuietTactic
import Derived.Deep.RegionHeld3
import Derived.Deep.DeepCutAuto
import Derived.Outline
import Derived.Lib.Hide
import Derived.Below
import Derived.KernelRfl
namespace Go.Proofs.Ytfbdeeobmjndlaa
set_option linter.unusedSimpArgs false
set_option linter.unusedVariables false
open Go.RowKit
attribute [local go_sem ↓] Go.wp_at_zero Go.wp_at_succ

theorem implCommonTime_no (a b c d : Int) (w : World) (h : (okB a b && okB c d) = false) :
    Calls Try.prog 102 #[fr a b, fr c d] w fun e w' => e = .returned (.tuple #[fr 0 0, .int .i64 1]) ∧ Below w.heap.size w w' := by
  have hh := Lib.hid h
  cases h1 : okB a b
  all_goals (try rw [h1, Bool.true_and] at h)
  all_goals
    go_enter Try.func102, Try.ntmps102
    go_wp2_with fail
    refine (validFraction_any _ _ _).mono ?_
    rintro e u1 ⟨rfl, hb1⟩
    have B1 : Bk u1 w.heap.size a b := bkOf hb1 (by refine ⟨?_, ?_, ?_, ?_, ?_⟩ <;> go_simp)
    have B2 : Bk u1 (w.heap.size + 1) c d := bkOf hb1 (by refine ⟨?_, ?_, ?_, ?_, ?_⟩ <;> go_simp)
    have B3 : Bk u1 (w.heap.size + 1 + 1) 0 0 := bkOf hb1 (by refine ⟨?_, ?_, ?_, ?_, ?_⟩ <;> go_simp)
    have B1' := B1
    have B2' := B2
    have B3' := B3
    obtain ⟨c0, c1, f0, f1, z1⟩ := B1
    obtain ⟨c2, c3, f2, f3, z2⟩ := B2
    obtain ⟨c4, c5, f4, f5, z3⟩ := B3
    go_wp2_with fail
  · refine (combined_no _ _ _ _ _ _ hh.out).mono ?_
    rintro e u2 ⟨rfl, hb2⟩
    have B3' := bkOf hb2 B3'
    clear c0 c1 f0 f1 z1 c2 c3 f2 f3 z2 c4 c5 f4 f5 z3 B1' B2'
    obtain ⟨c2, c3, f2, f3, z2⟩ := B3'
    go_wp2_with fail
    refine bodyPost_ret (v := _) (by simp [results, Try.results102, go_sem, c2, c3, z2, Nat.ne_of_lt z2]) rfl ⟨rfl, ?_⟩
    repeat (first | exact Below.refl _ _ | refine bSet ?_ (by first | (simp; done) | (simp; omega)) _ | refine bAlloc ?_ _ | refine Below.drew ?_ | refine bDrewN ?_ _ | assumption | refine bTrans ?_ hb2 | refine bTrans ?_ hb1)
  · refine (validFraction_any _ _ _).mono ?_
    rintro e u2 ⟨rfl, hb2⟩
    have B1' := bkOf hb2 B1'
    have B2' := bkOf hb2 B2'
    have B3' := bkOf hb2 B3'
    have B4' := B3'
    clear c0 c1 f0 f1 z1 c2 c3 f2 f3 z2 c4 c5 f4 f5 z3
    obtain ⟨c0, c1, f0, f1, z1⟩ := B1'
    obtain ⟨c2, c3, f2, f3, z2⟩ := B2'
    obtain ⟨c4, c5, f4, f5, z3⟩ := B3'
    go_wp2_with fail
    refine (combined_no _ _ _ _ _ _ hh.out).mono ?_
    rintro e u3 ⟨rfl, hb3⟩
    have B4' := bkOf hb3 B4'
    clear c0 c1 f0 f1 z1 c2 c3 f2 f3 z2 c4 c5 f4 f5 z3
    obtain ⟨c2, c3, f2, f3, z2⟩ := B4'
    go_wp2_with fail
    refine bodyPost_ret (v := _) (by simp [results, Try.results102, go_sem, c2, c3, z2, Nat.ne_of_lt z2]) rfl ⟨rfl, ?_⟩
    repeat (first | exact Below.refl _ _ | refine bSet ?_ (by first | (simp; done) | (simp; omega)) _ | refine bAlloc ?_ _ | refine Below.drew ?_ | refine bDrewN ?_ _ | assumption | refine bTrans ?_ hb3 | refine bTrans ?_ hb2 | refine bTrans ?_ hb1)

theorem implCommonTime_state (a b c d : Int) (w : World) (h1 : okB a b = true) (h2 : okB c d = true) (h : a ≤ 0 ∨ c ≤ 0) :
    Calls Try.prog 102 #[fr a b, fr c d] w fun e w' => e = .returned (.tuple #[fr 0 0, .int .i64 6]) ∧ Below w.heap.size w w' := by
  have h' : a ≤ 0 ∨ (0 < a ∧ c ≤ 0) := by omega
  clear h
  rcases h' with h3 | ⟨h3, h4⟩
  all_goals
    go_enter Try.func102, Try.ntmps102
    go_wp2_with fail
    refine (validFraction_any _ _ _).mono ?_
    rintro e u1 ⟨rfl, hb1⟩
    have B1 : Bk u1 w.heap.size a b := bkOf hb1 (by refine ⟨?_, ?_, ?_, ?_, ?_⟩ <;> go_simp)
    have B2 : Bk u1 (w.heap.size + 1) c d := bkOf hb1 (by refine ⟨?_, ?_, ?_, ?_, ?_⟩ <;> go_simp)
    have B3 : Bk u1 (w.heap.size + 1 + 1) 0 0 := bkOf hb1 (by refine ⟨?_, ?_, ?_, ?_, ?_⟩ <;> go_simp)
    have B1' := B1
    have B3' := B3
    have B2' := B2
    obtain ⟨c0, c1, f0, f1, z1⟩ := B1
    obtain ⟨c2, c3, f2, f3, z2⟩ := B2
    obtain ⟨c4, c5, f4, f5, z3⟩ := B3
    go_wp2_with fail
    refine (validFraction_any _ _ _).mono ?_
    rintro e u2 ⟨rfl, hb2⟩
    have B1' := bkOf hb2 B1'
    have B2' := bkOf hb2 B2'
    have B3' := bkOf hb2 B3'
    clear c0 c1 f0 f1 z1 c2 c3 f2 f3 z2 c4 c5 f4 f5 z3
    obtain ⟨c0, c1, f0, f1, z1⟩ := B1'
    obtain ⟨c4, c5, f4, f5, z4⟩ := B2'
    obtain ⟨c2, c3, f2, f3, z2⟩ := B3'
    go_wp2_with fail
    refine bodyPost_ret (v := _) (by simp [results, Try.results102, go_sem, c2, c3, z2, Nat.ne_of_lt z2]) rfl ⟨rfl, ?_⟩
    repeat (first | exact Below.refl _ _ | refine bSet ?_ (by first | (simp; done) | (simp; omega)) _ | refine bAlloc ?_ _ | refine Below.drew ?_ | refine bDrewN ?_ _ | assumption | refine bTrans ?_ hb2 | refine bTrans ?_ hb1)

theorem implCommonTime_yes (a b c d : Nat) (w : World) (h1 : okB a b = true) (h2 : okB c d = true) (h3 : 1 ≤ a) (h4 : 1 ≤ c) :
    Calls Try.prog 102 #[fr a b, fr c d] w fun e w' => e = .returned (fullV ((b / Nat.gcd b d * d : Nat) : Int) (Nat.gcd a c : Nat)) ∧ Below w.heap.size w w' := by
  have k1 := okB_bd h1
  have k2 := okB_bd h2
  have q1 : b / Nat.gcd b d ≤ b := Nat.div_le_self _ _
  have q2 : b / Nat.gcd b d * d ≤ 1000000 * 1000000 := Nat.mul_le_mul (by omega) (by omega)
  obtain ⟨g1, g2⟩ := gcd_le_right' a c (by omega)
  obtain ⟨x, y, z, hV⟩ := fullV_form ((b / Nat.gcd b d * d : Nat) : Int) (Nat.gcd a c : Nat)
  have C := Lib.hid (fun w => combined_meeting a b c d ((b / Nat.gcd b d * d : Nat) : Int) (Nat.gcd a c : Nat) w h1 h2 (fun w => meeting_any a b c d w h3 (by omega) (by omega) (by omega) h4 (by omega) (by omega) (by omega)) (by omega) (by omega) (by omega) (by omega) (by omega))
  rw [hV] at C ⊢
  clear hV q1 q2 g1 g2
  have h5 : (0 : Int) < a := by omega
  have h6 : (0 : Int) < c := by omega
  go_enter Try.func102, Try.ntmps102
  go_wp2_with fail
  refine (validFraction_any _ _ _).mono ?_
  rintro e u1 ⟨rfl, hb1⟩
  have B1 : Bk u1 w.heap.size a b := bkOf hb1 (by refine ⟨?_, ?_, ?_, ?_, ?_⟩ <;> go_simp)
  have B2 : Bk u1 (w.heap.size + 1) c d := bkOf hb1 (by refine ⟨?_, ?_, ?_, ?_, ?_⟩ <;> go_simp)
  have B3 : Bk u1 (w.heap.size + 1 + 1) 0 0 := bkOf hb1 (by refine ⟨?_, ?_, ?_, ?_, ?_⟩ <;> go_simp)
  have B1' := B1
  have B3' := B3
  have B2' := B2
  obtain ⟨c0, c1, f0, f1, z1⟩ := B1
  obtain ⟨c2, c3, f2, f3, z2⟩ := B2
  obtain ⟨c4, c5, f4, f5, z3⟩ := B3
  go_wp2_with fail
  refine (validFraction_any _ _ _).mono ?_
  rintro e u2 ⟨rfl, hb2⟩
  have B1' := bkOf hb2 B1'
  have B2' := bkOf hb2 B2'
  have B3' := bkOf hb2 B3'
  have B4' := B3'
  clear c0 c1 f0 f1 z1 c2 c3 f2 f3 z2 c4 c5 f4 f5 z3
  obtain ⟨c0, c1, f0, f1, z1⟩ := B1'
  obtain ⟨c4, c5, f4, f5, z4⟩ := B2'
  obtain ⟨c2, c3, f2, f3, z2⟩ := B3'
  go_wp2_with fail
  refine (C.out _).mono ?_
  rintro e u3 ⟨rfl, hb3⟩
  have B4' := bkOf hb3 B4'
  clear c0 c1 f0 f1 z1 c2 c3 f2 f3 z2 c4 c5 f4 f5 z4
  obtain ⟨c2, c3, f2, f3, z2⟩ := B4'
  go_wp2_with fail
  refine bodyPost_ret (v := _) (by simp [results, Try.results102, go_sem, c2, c3, z2, Nat.ne_of_lt z2]) rfl ⟨rfl, ?_⟩
  repeat (first | exact Below.refl _ _ | refine bSet ?_ (by first | (simp; done) | (simp; omega)) _ | refine bAlloc ?_ _ | refine Below.drew ?_ | refine bDrewN ?_ _ | assumption | refine bTrans ?_ hb3 | refine bTrans ?_ hb2 | refine bTrans ?_ hb1)

theorem specCommonTime_no (a b c d : Int) (w : World) (ha : I64 a) (hc : I64 c) (h : (okB a b && okB c d) = false) :
    Calls Try.prog 100 #[fr a b, fr c d] w fun e w' => e = .returned (.tuple #[fr 0 0, .int .i64 1]) ∧ Below w.heap.size w w' := by
  go_enter Try.func100, Try.ntmps100
  go_wp2_with fail
  refine (l02Two_no _ _ _ _ _ ha hc h).mono ?_
  rintro e u1 ⟨rfl, hb1⟩
  have B2 : Bk u1 (w.heap.size + 1 + 1) 0 0 := bkOf hb1 (by refine ⟨?_, ?_, ?_, ?_, ?_⟩ <;> go_simp)
  obtain ⟨c2, c3, f2, f3, z2⟩ := B2
  go_wp2_with fail
  refine bodyPost_ret (v := _) (by simp [results, Try.results100, go_sem, c2, c3]) rfl ⟨rfl, ?_⟩
  repeat (first | exact Below.refl _ _ | refine bSet ?_ (by first | (simp; done) | (simp; omega)) _ | refine bAlloc ?_ _ | refine Below.drew ?_ | refine bDrewN ?_ _ | assumption | refine bTrans ?_ hb1)

theorem specCommonTime_state (a b c d : Int) (w : World) (h1 : okB a b = true) (h2 : okB c d = true) (h : a ≤ 0 ∨ c ≤ 0) :
    Calls Try.prog 100 #[fr a b, fr c d] w fun e w' => e = .returned (.tuple #[fr 0 0, .int .i64 6]) ∧ Below w.heap.size w w' := by
  have h' : a ≤ 0 ∨ (0 < a ∧ c ≤ 0) := by omega
  clear h
  rcases h' with h3 | ⟨h3, h4⟩
  all_goals
    go_enter Try.func100, Try.ntmps100
    go_wp2_with fail
    refine (l02Two_yes _ _ _ _ _ h1 h2).mono ?_
    rintro e u1 ⟨rfl, hb1⟩
    have B1 : Bk u1 w.heap.size a b := bkOf hb1 (by refine ⟨?_, ?_, ?_, ?_, ?_⟩ <;> go_simp)
    have B2 : Bk u1 (w.heap.size + 1) c d := bkOf hb1 (by refine ⟨?_, ?_, ?_, ?_, ?_⟩ <;> go_simp)
    have B3 : Bk u1 (w.heap.size + 1 + 1) 0 0 := bkOf hb1 (by refine ⟨?_, ?_, ?_, ?_, ?_⟩ <;> go_simp)
    obtain ⟨c0, c1, f0, f1, z1⟩ := B1
    obtain ⟨c4, c5, f4, f5, z3⟩ := B2
    obtain ⟨c2, c3, f2, f3, z2⟩ := B3
    go_wp2_with fail
    refine bodyPost_ret (v := _) (by simp [results, Try.results100, go_sem, c2, c3, z2, Nat.ne_of_lt z2]) rfl ⟨rfl, ?_⟩
    repeat (first | exact Below.refl _ _ | refine bSet ?_ (by first | (simp; done) | (simp; omega)) _ | refine bAlloc ?_ _ | refine Below.drew ?_ | refine bDrewN ?_ _ | assumption | refine bTrans ?_ hb1)

end Go.Proofs.Ytfbdeeobmjndlaa
