/- The least common time in the model. -/
import Derived.Test.YtfbdeeobmjndlaaProg
import Derived.Test.YtfbdeeobmjndlaaCommon
import Derived.Deep.RegionWith
import Derived.Deep.DrawnRows
import Derived.Laws.StructEq
import Derived.Deep.DeepCutAuto
import Derived.Tactics
import Derived.Tactics2
import Derived.WalkKit
import Derived.LoopTactic
import Derived.BigQuiet
import Derived.RegionTactic
import Derived.BigRegion
import Derived.ChangeAlike
import Derived.Deep.QuietTactic
import Derived.Deep.RegionHeld3
import Derived.Deep.DeepCutAuto
import Derived.Outline
import Derived.Lib.Hide
import Derived.Below
import Derived.KernelRfl
namespace Go.Proofs.Ytfbdeeobmjndlaa
set_option linter.unusedSimpArgs false
set_option linter.unusedVariables false
open Go.RowKit
attribute [local go_sem ↓] Go.wp_at_zero Go.wp_at_succ

theorem wrapQuo (b G d : Nat) (q1 : b / G ≤ b) (q2 : b / G * d ≤ 1000000 * 1000000) (hb : b ≤ 1000000) :
    IntKind.i64.wrap (IntKind.i64.wrap ((b : Int) / (G : Int)) * (d : Int)) = ((b / G * d : Nat) : Int) := by
  rw [← Int.natCast_ediv]
  generalize b / G = q at *
  rw [IntWalk.i64_in (q : Int) (by omega), ← Int.natCast_mul]
  generalize q * d = r at *
  exact IntWalk.i64_in _ (by omega)

set_option maxHeartbeats 1000000 in
theorem specCommonTime_yes (a b c d : Nat) (w : World) (h1 : okB a b = true) (h2 : okB c d = true) (h3 : 1 ≤ a) (h4 : 1 ≤ c) :
    Calls Try.prog 100 #[fr a b, fr c d] w fun e w' => e = .returned (fullV ((b / Nat.gcd b d * d : Nat) : Int) (Nat.gcd a c : Nat)) ∧ Below w.heap.size w w' := by
  have k1 := okB_bd h1
  have k2 := okB_bd h2
  have q1 : b / Nat.gcd b d ≤ b := Nat.div_le_self _ _
  have q2 : b / Nat.gcd b d * d ≤ 1000000 * 1000000 := Nat.mul_le_mul (by omega) (by omega)
  obtain ⟨g1, g2⟩ := gcd_le_right' a c (by omega)
  obtain ⟨g3, g4⟩ := gcd_le_right' b d (by omega)
  have e1 := wrapQuo b (Nat.gcd b d) d q1 q2 (by omega)
  obtain ⟨x, y, z, hV⟩ := fullV_form ((b / Nat.gcd b d * d : Nat) : Int) (Nat.gcd a c : Nat)
  have C := Lib.hid (fun w => l02Full_any ((b / Nat.gcd b d * d : Nat) : Int) (Nat.gcd a c : Nat) w (by omega) (by omega) (by omega) (by omega))
  rw [hV] at C ⊢
  clear hV
  have h5 : (0 : Int) < a := by omega
  have h6 : (0 : Int) < c := by omega
  have E1 := Lib.hid e1
  clear e1 q1 q2
  have ne1 : ¬ w.heap.size = w.heap.size + 1 + 1 := by omega
  have ne2 : ¬ w.heap.size + 1 + 1 = w.heap.size := by omega
  have nb0 : ¬ b = 0 := by omega
  have nd0 : ¬ d = 0 := by omega
  go_enter Try.func100, Try.ntmps100
  go_wp2_with fail
  refine (l02Two_yes _ _ _ _ _ h1 h2).mono ?_
  rintro e u1 ⟨rfl, hb1⟩
  have B1 : Bk u1 w.heap.size a b := bkOf hb1 (by refine ⟨?_, ?_, ?_, ?_, ?_⟩ <;> go_simp)
  have B2 : Bk u1 (w.heap.size + 1) c d := bkOf hb1 (by refine ⟨?_, ?_, ?_, ?_, ?_⟩ <;> go_simp)
  have B3 : Bk u1 (w.heap.size + 1 + 1) 0 0 := bkOf hb1 (by refine ⟨?_, ?_, ?_, ?_, ?_⟩ <;> go_simp)
  obtain ⟨c0, c1, f0, f1, z1⟩ := B1
  obtain ⟨c4, c5, f4, f5, z3⟩ := B2
  obtain ⟨c2, c3, f2, f3, z2⟩ := B3
  go_wp2_with fail
  go_region_held3 (fun w' => w'.cell? ⟨w.heap.size, 0, none⟩ = some (.int .i64 a) ∧ w'.cell? ⟨w.heap.size, 1, none⟩ = some (.int .i64 b) ∧ w'.cell? ⟨w.heap.size + 1, 0, none⟩ = some (.int .i64 c) ∧ w'.cell? ⟨w.heap.size + 1, 1, none⟩ = some (.int .i64 d)) (go_keep)
    (first | (go_at_call 168; refine (l00Gcd_any _ _ _ (by omega) (by omega)).mono ?_; rintro e u ⟨rfl, rfl⟩) | (go_at_call 167; rw [E1.out]; refine (C.out _).mono ?_; rintro e u2 ⟨rfl, hb2⟩; have B1 : Bk u2 w.heap.size a b := bkOf hb2 (by refine ⟨?_, ?_, ?_, ?_, ?_⟩ <;> go_simp); have B2 : Bk u2 (w.heap.size + 1) c d := bkOf hb2 (by refine ⟨?_, ?_, ?_, ?_, ?_⟩ <;> go_simp); have B3 : Bk u2 (w.heap.size + 1 + 1) 0 0 := bkOf hb2 (by refine ⟨?_, ?_, ?_, ?_, ?_⟩ <;> go_simp); obtain ⟨i0, i1, j0, j1, l1⟩ := B1; obtain ⟨i2, i3, j2, j3, l2⟩ := B2; obtain ⟨i4, i5, j4, j5, l3⟩ := B3))
  all_goals go_wp2
  all_goals refine bodyPost_ret (v := _) (by simp [results, Try.results100, go_sem, i4, i5]) rfl ⟨rfl, ?_⟩
  all_goals repeat (first | exact Below.refl _ _ | refine bSet ?_ (by first | (simp; done) | (simp; omega)) _ | refine bAlloc ?_ _ | refine Below.drew ?_ | refine bDrewN ?_ _ | assumption | refine bTrans ?_ hb2 | refine bTrans ?_ hb1)

end Go.Proofs.Ytfbdeeobmjndlaa
