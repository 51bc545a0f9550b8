/- Whole turns and rates behind a pair of wheels: in the program and in the model; and the statements' own walks. -/
import Derived.Test.YtfbdeeobmjndlaaProg
import Derived.Test.YtfbdeeobmjndlaaMake
import Derived.Deep.RegionWith
import Derived.Deep.DrawnRows
import Derived.Laws.StructEq
import Derived.Tactics
import Derived.Tactics2
import Derived.WalkKit
import Derived.LoopTactic
import Derived.BigQuiet
import Derived.RegionTactic
import Derived.BigRegion
import Derived.ChangeAlike
import Derived.Deep.QuietTactic
import Derived.Deep.RegionHeld3
import Derived.Deep.DeepCutAuto
import Derived.Outline
import Derived.Lib.Hide
import Derived.Below
import Derived.KernelRfl
namespace Go.Proofs.Ytfbdeeobmjndlaa
set_option linter.unusedSimpArgs false
set_option linter.unusedVariables false
open Go.RowKit

theorem implTurns_bad (n d s : Int) (w : World) (hn : I64 n) (h : okB n d = false) :
    Calls Try.prog 107 #[fr n d, .int .i64 s] w fun e w' => e = .returned (.tuple #[.int .i64 0, .int .i64 1]) ∧ Below w.heap.size w w' := by
  obtain ⟨w1, w2⟩ := hn
  go_enter Try.func107, Try.ntmps107
  go_wp2_with fail
  refine (validFraction_any _ _ _).mono ?_
  rintro e u1 ⟨rfl, hb1⟩
  have B1 : Bk u1 w.heap.size n d := bkOf hb1 (by refine ⟨?_, ?_, ?_, ?_, ?_⟩ <;> go_simp)
  obtain ⟨c0, c1, f0, f1, z1⟩ := B1
  go_wp2_with fail
  go_ret2
  refine ⟨rfl, ?_⟩
  repeat (first | exact Below.refl _ _ | refine bSet ?_ (by first | (simp; done) | (simp; omega)) _ | refine bAlloc ?_ _ | refine Below.drew ?_ | refine bDrewN ?_ _ | refine bTrans ?_ hb1)

theorem implTurns_range (n d s : Int) (w : World) (h : okB n d = true) (hs : inB s 0 1000000 = false) :
    Calls Try.prog 107 #[fr n d, .int .i64 s] w fun e w' => e = .returned (.tuple #[.int .i64 0, .int .i64 2]) ∧ Below w.heap.size w w' := by
  have k1 := okB_bd h
  have hs2 := inB_not.1 hs
  by_cases s0 : s < 0
  · clear hs
    go_enter Try.func107, Try.ntmps107
    go_wp2_with fail
    refine (validFraction_any _ _ _).mono ?_
    rintro e u1 ⟨rfl, hb1⟩
    have B1 : Bk u1 w.heap.size n d := bkOf hb1 (by refine ⟨?_, ?_, ?_, ?_, ?_⟩ <;> go_simp)
    obtain ⟨c0, c1, f0, f1, z1⟩ := B1
    go_wp2_with fail
    go_ret2
    refine ⟨rfl, ?_⟩
    repeat (first | exact Below.refl _ _ | refine bSet ?_ (by first | (simp; done) | (simp; omega)) _ | refine bAlloc ?_ _ | refine Below.drew ?_ | refine bDrewN ?_ _ | refine bTrans ?_ hb1)
  · have s1 : 1000000 < s := by omega
    clear hs hs2
    go_enter Try.func107, Try.ntmps107
    go_wp2_with fail
    refine (validFraction_any _ _ _).mono ?_
    rintro e u1 ⟨rfl, hb1⟩
    have B1 : Bk u1 w.heap.size n d := bkOf hb1 (by refine ⟨?_, ?_, ?_, ?_, ?_⟩ <;> go_simp)
    obtain ⟨c0, c1, f0, f1, z1⟩ := B1
    go_wp2_with fail
    go_ret2
    refine ⟨rfl, ?_⟩
    repeat (first | exact Below.refl _ _ | refine bSet ?_ (by first | (simp; done) | (simp; omega)) _ | refine bAlloc ?_ _ | refine Below.drew ?_ | refine bDrewN ?_ _ | refine bTrans ?_ hb1)

theorem implTurns_state (n d s : Int) (w : World) (h : okB n d = true) (hs : inB s 0 1000000 = true) (hn : n < 0) :
    Calls Try.prog 107 #[fr n d, .int .i64 s] w fun e w' => e = .returned (.tuple #[.int .i64 0, .int .i64 6]) ∧ Below w.heap.size w w' := by
  have k1 := okB_bd h
  obtain ⟨s0, s1⟩ := inB_iff.1 hs
  go_enter Try.func107, Try.ntmps107
  go_wp2_with fail
  refine (validFraction_any _ _ _).mono ?_
  rintro e u1 ⟨rfl, hb1⟩
  have B1 : Bk u1 w.heap.size n d := bkOf hb1 (by refine ⟨?_, ?_, ?_, ?_, ?_⟩ <;> go_simp)
  obtain ⟨c0, c1, f0, f1, z1⟩ := B1
  go_wp2_with fail
  go_ret2
  refine ⟨rfl, ?_⟩
  repeat (first | exact Below.refl _ _ | refine bSet ?_ (by first | (simp; done) | (simp; omega)) _ | refine bAlloc ?_ _ | refine Below.drew ?_ | refine bDrewN ?_ _ | refine bTrans ?_ hb1)

theorem implTurns_yes (n d s : Int) (w : World) (h : okB n d = true) (hs : inB s 0 1000000 = true) (hn : 0 ≤ n) :
    Calls Try.prog 107 #[fr n d, .int .i64 s] w fun e w' => e = .returned (.tuple #[.int .i64 (n * s / d), .int .i64 0]) ∧ Below w.heap.size w w' := by
  have k1 := okB_bd h
  obtain ⟨s0, s1⟩ := inB_iff.1 hs
  have m1 := mul_bd (x := n) (y := s) (m := 1000000) (k := 1000000) (by omega) (by omega) (by omega) (by omega)
  have m2 : 0 ≤ n * s := Int.mul_nonneg hn s0
  have m3 := Int.ediv_le_self d m2
  have m4 : 0 ≤ n * s / d := Int.ediv_nonneg m2 (by omega)
  go_enter Try.func107, Try.ntmps107
  go_wp2_with fail
  refine (validFraction_any _ _ _).mono ?_
  rintro e u1 ⟨rfl, hb1⟩
  have B1 : Bk u1 w.heap.size n d := bkOf hb1 (by refine ⟨?_, ?_, ?_, ?_, ?_⟩ <;> go_simp)
  obtain ⟨c0, c1, f0, f1, z1⟩ := B1
  go_wp2_with fail
  go_ret2
  refine ⟨rfl, ?_⟩
  repeat (first | exact Below.refl _ _ | refine bSet ?_ (by first | (simp; done) | (simp; omega)) _ | refine bAlloc ?_ _ | refine Below.drew ?_ | refine bDrewN ?_ _ | refine bTrans ?_ hb1)

theorem implGeared_bad (n d a b : Int) (w : World) (hn : I64 n) (h : okB n d = false) :
    Calls Try.prog 108 #[fr n d, .int .i64 a, .int .i64 b] w fun e w' => e = .returned (.tuple #[fr 0 0, .int .i64 1]) ∧ Below w.heap.size w w' := by
  obtain ⟨w1, w2⟩ := hn
  go_enter Try.func108, Try.ntmps108
  go_wp2_with fail
  refine (validFraction_any _ _ _).mono ?_
  rintro e u1 ⟨rfl, hb1⟩
  have B1 : Bk u1 w.heap.size n d := bkOf hb1 (by refine ⟨?_, ?_, ?_, ?_, ?_⟩ <;> go_simp)
  have B2 : Bk u1 (w.heap.size + 1) 0 0 := bkOf hb1 (by refine ⟨?_, ?_, ?_, ?_, ?_⟩ <;> go_simp)
  have B2' := B2
  obtain ⟨c0, c1, f0, f1, z1⟩ := B1
  obtain ⟨c2, c3, f2, f3, z2⟩ := B2
  go_wp2_with fail
  refine bodyPost_ret (v := _) (by simp [results, Try.results108, go_sem, c2, c3, z2, Nat.ne_of_lt z2]) rfl ⟨rfl, ?_⟩
  repeat (first | exact Below.refl _ _ | refine bSet ?_ (by first | (simp; done) | (simp; omega)) _ | refine bAlloc ?_ _ | refine Below.drew ?_ | refine bDrewN ?_ _ | refine bTrans ?_ hb1)

theorem implGeared_range (n d a b : Int) (w : World) (h : okB n d = true) (hr : (inB a 1 1000 && inB b 1 1000) = false) :
    Calls Try.prog 108 #[fr n d, .int .i64 a, .int .i64 b] w fun e w' => e = .returned (.tuple #[fr 0 0, .int .i64 2]) ∧ Below w.heap.size w w' := by
  have k1 := okB_bd h
  have hc : a < 1 ∨ (1 ≤ a ∧ 1000 < a) ∨ (1 ≤ a ∧ a ≤ 1000 ∧ b < 1) ∨ (1 ≤ a ∧ a ≤ 1000 ∧ 1 ≤ b ∧ 1000 < b) := by
    simp [inB] at hr
    omega
  clear hr
  rcases hc with r1 | ⟨r1, r2⟩ | ⟨r1, r2, r3⟩ | ⟨r1, r2, r3, r4⟩
  all_goals
    go_enter Try.func108, Try.ntmps108
    go_wp2_with fail
    refine (validFraction_any _ _ _).mono ?_
    rintro e u1 ⟨rfl, hb1⟩
    have B1 : Bk u1 w.heap.size n d := bkOf hb1 (by refine ⟨?_, ?_, ?_, ?_, ?_⟩ <;> go_simp)
    have B2 : Bk u1 (w.heap.size + 1) 0 0 := bkOf hb1 (by refine ⟨?_, ?_, ?_, ?_, ?_⟩ <;> go_simp)
    have B2' := B2
    obtain ⟨c0, c1, f0, f1, z1⟩ := B1
    obtain ⟨c2, c3, f2, f3, z2⟩ := B2
    go_wp2_with fail
    refine bodyPost_ret (v := _) (by simp [results, Try.results108, go_sem, c2, c3, z2, Nat.ne_of_lt z2]) rfl ⟨rfl, ?_⟩
    repeat (first | exact Below.refl _ _ | refine bSet ?_ (by first | (simp; done) | (simp; omega)) _ | refine bAlloc ?_ _ | refine Below.drew ?_ | refine bDrewN ?_ _ | refine bTrans ?_ hb1)

theorem implGeared_yes (n d a b : Int) (w : World) (h : okB n d = true) (r1 : inB a 1 1000 = true) (r2 : inB b 1 1000 = true) :
    Calls Try.prog 108 #[fr n d, .int .i64 a, .int .i64 b] w fun e w' => e = .returned (fullV (n * a) (d * b)) ∧ Below w.heap.size w w' := by
  have k1 := okB_bd h
  obtain ⟨a0, a1⟩ := inB_iff.1 r1
  obtain ⟨b0, b1⟩ := inB_iff.1 r2
  have m1 := mul_bd (x := n) (y := a) (m := 1000000) (k := 1000) (by omega) (by omega) (by omega) (by omega)
  have m2 := mul_bd (x := d) (y := b) (m := 1000000) (k := 1000) (by omega) (by omega) (by omega) (by omega)
  have m3 : 0 < d * b := Int.mul_pos (by omega) (by omega)
  obtain ⟨x, y, z, hV⟩ := fullV_form (n * a) (d * b)
  have C := Lib.hid (fun w => fitted_any (n * a) (d * b) w (by omega) (by omega) (by omega) (by omega) (by omega))
  rw [hV] at C ⊢
  clear hV
  go_enter Try.func108, Try.ntmps108
  go_wp2_with fail
  refine (validFraction_any _ _ _).mono ?_
  rintro e u1 ⟨rfl, hb1⟩
  have B1 : Bk u1 w.heap.size n d := bkOf hb1 (by refine ⟨?_, ?_, ?_, ?_, ?_⟩ <;> go_simp)
  have B2 : Bk u1 (w.heap.size + 1) 0 0 := bkOf hb1 (by refine ⟨?_, ?_, ?_, ?_, ?_⟩ <;> go_simp)
  have B2' := B2
  obtain ⟨c0, c1, f0, f1, z1⟩ := B1
  obtain ⟨c2, c3, f2, f3, z2⟩ := B2
  go_wp2_with fail
  refine (times_any _ _ _ _ _ (by omega) (by omega) (by omega) (by omega) (by omega) (by omega) (by omega) (by omega)).mono ?_
  rintro e u2 ⟨rfl, hb2⟩
  have B2' := bkOf hb2 B2'
  clear c0 c1 f0 f1 z1 c2 c3 f2 f3 z2
  go_wp2_with fail
  refine (C.out _).mono ?_
  rintro e u3 ⟨rfl, hb3⟩
  have B2 := bkOf hb3 B2'
  obtain ⟨c2, c3, f2, f3, z2⟩ := B2
  go_wp2_with fail
  refine bodyPost_ret (v := _) (by simp [results, Try.results108, go_sem, c2, c3, z2, Nat.ne_of_lt z2]) rfl ⟨rfl, ?_⟩
  repeat (first | exact Below.refl _ _ | refine bSet ?_ (by first | (simp; done) | (simp; omega)) _ | refine bAlloc ?_ _ | refine Below.drew ?_ | refine bDrewN ?_ _ | refine bTrans ?_ hb3 | refine bTrans ?_ hb2 | refine bTrans ?_ hb1)

end Go.Proofs.Ytfbdeeobmjndlaa
