/- The functions on wheels with blades that reckon with fractions, in the program and in the model: the functions themselves. -/
import Derived.Test.YtflgjohknjgdcaaProg
import Derived.Test.YtflgjohknjgdcaaBld
import Derived.Test.YtflgjohknjgdcaaFull
import Derived.Test.YtflgjohknjgdcaaBldFn
import Derived.Test.YtflgjohknjgdcaaOps
import Derived.Test.YtflgjohknjgdcaaSmall
import Derived.Laws.Cover1
import Derived.Deep.RegionWith
import Derived.Deep.DrawnRows
import Derived.Deep.RegionHeld3
import Derived.Tactics
import Derived.Tactics2
import Derived.WalkKit
import Derived.LoopTactic
import Derived.BigQuiet
import Derived.RegionTactic
import Derived.Deep.QuietTactic
import Derived.Outline
import Derived.Lib.Hide
import Derived.Below
import Derived.KernelRfl
namespace Go.Proofs.Ytflgjohknjgdcaa
set_option linter.unusedSimpArgs false
set_option linter.unusedVariables false
open Go.RowKit

/-- impl.flickering. -/
theorem flickering_any (m n d : Int) (w : World) (h3 : rateB n d = true) (hm : 1 ≤ m ∧ m ≤ 12) :
    Calls Try.prog 77 #[.int .i64 m, fr n d] w fun e w' => e = .returned (fr (n * m) d) ∧ Below w.heap.size w w' := by
  have lb := rateB_bd h3
  have hd1 : d * 1 = d := Int.mul_one d
  have T := Lib.hid (fun w => times_any n d m 1 w (by omega) (by omega) (by omega) (by omega) (by omega) (by omega) (by omega) (by omega))
  rw [hd1] at T
  clear hd1
  go_enter Try.func77, Try.ntmps77
  go_wp2_with fail
  refine (T.out _).mono ?_
  rintro e u1 ⟨rfl, hb1⟩
  have Q0 : Bk u1 (w.heap.size + 1) 0 0 := by exact bkOf hb1 (by refine ⟨?_, ?_, ?_, ?_, ?_⟩ <;> go_simp)
  have P0 := Q0
  obtain ⟨a0, b0, f0, g0, z0⟩ := Q0
  go_wp2_with fail
  refine bodyPost_ret (v := _) (by simp [results, Try.results77, go_sem, a0, b0, z0, Nat.ne_of_lt z0]) rfl ⟨rfl, ?_⟩
  repeat (first | exact Below.refl _ _ | refine bSet ?_ (by first | (simp; done) | (simp; omega)) _ | refine bAlloc ?_ _ | refine Below.drew ?_ | refine bDrewN ?_ _ | refine bTrans ?_ hb1)

/-- impl.isSteady. -/
theorem isSteady_any (m n d l : Int) (w : World) (h3 : rateB n d = true) (hm : 1 ≤ m ∧ m ≤ 12) (hl : 1 ≤ l ∧ l ≤ 200) :
    Calls Try.prog 59 #[.int .i64 m, fr n d, .int .i64 l] w fun e w' => e = .returned (.bool (decide (n * m ≥ l * d))) ∧ Below w.heap.size w w' := by
  have lb := rateB_bd h3
  have ld := mulBd (x := l) (y := d) 200 1000 (by omega) (by omega) (by omega) (by omega)
  have nm := mulBd (x := n) (y := m) 1000 12 (by omega) (by omega) (by omega) (by omega)
  go_enter Try.func59, Try.ntmps59
  go_wp2_with fail
  refine (flickering_any m n d _ h3 hm).mono ?_
  rintro e u1 ⟨rfl, hb1⟩
  go_wp2_with fail
  go_ret
  refine ⟨rfl, ?_⟩
  repeat (first | exact Below.refl _ _ | refine bSet ?_ (by first | (simp; done) | (simp; omega)) _ | refine bAlloc ?_ _ | refine Below.drew ?_ | refine bDrewN ?_ _ | refine bTrans ?_ hb1)

theorem implFlick_bad1 (m o n d : Int) (w : World) (h1 : bladesB m o = false) :
    Calls Try.prog 30 #[fr m o, fr n d] w fun e w' => e = .returned (.tuple #[fr 0 0, .int .i64 1]) ∧ Below w.heap.size w w' := by
  go_enter Try.func30, Try.ntmps30
  go_wp2_with fail
  refine (validBlades_any m o _).mono ?_
  rintro e u1 ⟨rfl, hb1⟩
  have Q0 : Bk u1 (w.heap.size) m o := by exact bkOf hb1 (by refine ⟨?_, ?_, ?_, ?_, ?_⟩ <;> go_simp)
  have Q1 : Bk u1 (w.heap.size + 1) n d := by exact bkOf hb1 (by refine ⟨?_, ?_, ?_, ?_, ?_⟩ <;> go_simp)
  have Q2 : Bk u1 (w.heap.size + 1 + 1) 0 0 := by exact bkOf hb1 (by refine ⟨?_, ?_, ?_, ?_, ?_⟩ <;> go_simp)
  have P0 := Q0
  obtain ⟨a0, b0, f0, g0, z0⟩ := Q0
  have P1 := Q1
  obtain ⟨a1, b1, f1, g1, z1⟩ := Q1
  have P2 := Q2
  obtain ⟨a2, b2, f2, g2, z2⟩ := Q2
  go_wp2_with fail
  refine bodyPost_ret (v := _) (by simp [results, Try.results30, go_sem, a0, b0, a1, b1, a2, b2, z0, Nat.ne_of_lt z0, z1, Nat.ne_of_lt z1, z2, Nat.ne_of_lt z2]) rfl ⟨rfl, ?_⟩
  repeat (first | exact Below.refl _ _ | refine bSet ?_ (by first | (simp; done) | (simp; omega)) _ | refine bAlloc ?_ _ | refine Below.drew ?_ | refine bDrewN ?_ _ | refine bTrans ?_ hb1)

theorem implFlick_bad2 (m o n d : Int) (w : World) (h1 : bladesB m o = true) (h2 : okB n d = false) :
    Calls Try.prog 30 #[fr m o, fr n d] w fun e w' => e = .returned (.tuple #[fr 0 0, .int .i64 1]) ∧ Below w.heap.size w w' := by
  go_enter Try.func30, Try.ntmps30
  go_wp2_with fail
  refine (validBlades_any m o _).mono ?_
  rintro e u1 ⟨rfl, hb1⟩
  have Q0 : Bk u1 (w.heap.size) m o := by exact bkOf hb1 (by refine ⟨?_, ?_, ?_, ?_, ?_⟩ <;> go_simp)
  have Q1 : Bk u1 (w.heap.size + 1) n d := by exact bkOf hb1 (by refine ⟨?_, ?_, ?_, ?_, ?_⟩ <;> go_simp)
  have Q2 : Bk u1 (w.heap.size + 1 + 1) 0 0 := by exact bkOf hb1 (by refine ⟨?_, ?_, ?_, ?_, ?_⟩ <;> go_simp)
  have P0 := Q0
  obtain ⟨a0, b0, f0, g0, z0⟩ := Q0
  have P1 := Q1
  obtain ⟨a1, b1, f1, g1, z1⟩ := Q1
  have P2 := Q2
  obtain ⟨a2, b2, f2, g2, z2⟩ := Q2
  go_wp2_with fail
  refine (validFraction_any _ _ _).mono ?_
  rintro e u2 ⟨rfl, hb2⟩
  have Q0 : Bk u2 (w.heap.size) m o := bkOf hb2 P0
  have Q1 : Bk u2 (w.heap.size + 1) n d := bkOf hb2 P1
  have Q2 : Bk u2 (w.heap.size + 1 + 1) 0 0 := bkOf hb2 P2
  clear P0 a0 b0 f0 g0 z0 P1 a1 b1 f1 g1 z1 P2 a2 b2 f2 g2 z2
  have P0 := Q0
  obtain ⟨a0, b0, f0, g0, z0⟩ := Q0
  have P1 := Q1
  obtain ⟨a1, b1, f1, g1, z1⟩ := Q1
  have P2 := Q2
  obtain ⟨a2, b2, f2, g2, z2⟩ := Q2
  go_wp2_with fail
  refine bodyPost_ret (v := _) (by simp [results, Try.results30, go_sem, a0, b0, a1, b1, a2, b2, z0, Nat.ne_of_lt z0, z1, Nat.ne_of_lt z1, z2, Nat.ne_of_lt z2]) rfl ⟨rfl, ?_⟩
  repeat (first | exact Below.refl _ _ | refine bSet ?_ (by first | (simp; done) | (simp; omega)) _ | refine bAlloc ?_ _ | refine Below.drew ?_ | refine bDrewN ?_ _ | refine bTrans ?_ hb2 | refine bTrans ?_ hb1)

theorem implFlick_off (m o n d : Int) (w : World) (h1 : bladesB m o = true) (h2 : okB n d = true) (h3 : rateB n d = false) :
    Calls Try.prog 30 #[fr m o, fr n d] w fun e w' => e = .returned (.tuple #[fr 0 0, .int .i64 2]) ∧ Below w.heap.size w w' := by
  go_enter Try.func30, Try.ntmps30
  go_wp2_with fail
  refine (validBlades_any m o _).mono ?_
  rintro e u1 ⟨rfl, hb1⟩
  have Q0 : Bk u1 (w.heap.size) m o := by exact bkOf hb1 (by refine ⟨?_, ?_, ?_, ?_, ?_⟩ <;> go_simp)
  have Q1 : Bk u1 (w.heap.size + 1) n d := by exact bkOf hb1 (by refine ⟨?_, ?_, ?_, ?_, ?_⟩ <;> go_simp)
  have Q2 : Bk u1 (w.heap.size + 1 + 1) 0 0 := by exact bkOf hb1 (by refine ⟨?_, ?_, ?_, ?_, ?_⟩ <;> go_simp)
  have P0 := Q0
  obtain ⟨a0, b0, f0, g0, z0⟩ := Q0
  have P1 := Q1
  obtain ⟨a1, b1, f1, g1, z1⟩ := Q1
  have P2 := Q2
  obtain ⟨a2, b2, f2, g2, z2⟩ := Q2
  go_wp2_with fail
  refine (validFraction_any _ _ _).mono ?_
  rintro e u2 ⟨rfl, hb2⟩
  have Q0 : Bk u2 (w.heap.size) m o := bkOf hb2 P0
  have Q1 : Bk u2 (w.heap.size + 1) n d := bkOf hb2 P1
  have Q2 : Bk u2 (w.heap.size + 1 + 1) 0 0 := bkOf hb2 P2
  clear P0 a0 b0 f0 g0 z0 P1 a1 b1 f1 g1 z1 P2 a2 b2 f2 g2 z2
  have P0 := Q0
  obtain ⟨a0, b0, f0, g0, z0⟩ := Q0
  have P1 := Q1
  obtain ⟨a1, b1, f1, g1, z1⟩ := Q1
  have P2 := Q2
  obtain ⟨a2, b2, f2, g2, z2⟩ := Q2
  go_wp2_with fail
  refine (wheelRate_any _ _ _).mono ?_
  rintro e u3 ⟨rfl, hb3⟩
  have Q0 : Bk u3 (w.heap.size) m o := bkOf hb3 P0
  have Q1 : Bk u3 (w.heap.size + 1) n d := bkOf hb3 P1
  have Q2 : Bk u3 (w.heap.size + 1 + 1) 0 0 := bkOf hb3 P2
  clear P0 a0 b0 f0 g0 z0 P1 a1 b1 f1 g1 z1 P2 a2 b2 f2 g2 z2
  have P0 := Q0
  obtain ⟨a0, b0, f0, g0, z0⟩ := Q0
  have P1 := Q1
  obtain ⟨a1, b1, f1, g1, z1⟩ := Q1
  have P2 := Q2
  obtain ⟨a2, b2, f2, g2, z2⟩ := Q2
  go_wp2_with fail
  refine bodyPost_ret (v := _) (by simp [results, Try.results30, go_sem, a0, b0, a1, b1, a2, b2, z0, Nat.ne_of_lt z0, z1, Nat.ne_of_lt z1, z2, Nat.ne_of_lt z2]) rfl ⟨rfl, ?_⟩
  repeat (first | exact Below.refl _ _ | refine bSet ?_ (by first | (simp; done) | (simp; omega)) _ | refine bAlloc ?_ _ | refine Below.drew ?_ | refine bDrewN ?_ _ | refine bTrans ?_ hb3 | refine bTrans ?_ hb2 | refine bTrans ?_ hb1)

theorem implFlick_yes (m o n d : Int) (w : World) (h1 : bladesB m o = true) (h2 : okB n d = true) (h3 : rateB n d = true) :
    Calls Try.prog 30 #[fr m o, fr n d] w fun e w' => e = .returned (.tuple #[(fr ((n * m).tdiv (divI (n * m) (d))) ((d).tdiv (divI (n * m) (d)))), .int .i64 0]) ∧ Below w.heap.size w w' := by
  have lb := rateB_bd h3
  obtain ⟨M, S, G, W⟩ := Wh.of h1
  obtain ⟨s1, s2, s3, s4, m1, m2, o1, o2, m0⟩ := W.sb
  have nm := mulBd (x := n) (y := m) 1000 12 (by omega) (by omega) (by omega) (by omega)
  go_enter Try.func30, Try.ntmps30
  go_wp2_with fail
  refine (validBlades_any m o _).mono ?_
  rintro e u1 ⟨rfl, hb1⟩
  have Q0 : Bk u1 (w.heap.size) m o := by exact bkOf hb1 (by refine ⟨?_, ?_, ?_, ?_, ?_⟩ <;> go_simp)
  have Q1 : Bk u1 (w.heap.size + 1) n d := by exact bkOf hb1 (by refine ⟨?_, ?_, ?_, ?_, ?_⟩ <;> go_simp)
  have Q2 : Bk u1 (w.heap.size + 1 + 1) 0 0 := by exact bkOf hb1 (by refine ⟨?_, ?_, ?_, ?_, ?_⟩ <;> go_simp)
  have P0 := Q0
  obtain ⟨a0, b0, f0, g0, z0⟩ := Q0
  have P1 := Q1
  obtain ⟨a1, b1, f1, g1, z1⟩ := Q1
  have P2 := Q2
  obtain ⟨a2, b2, f2, g2, z2⟩ := Q2
  go_wp2_with fail
  refine (validFraction_any _ _ _).mono ?_
  rintro e u2 ⟨rfl, hb2⟩
  have Q0 : Bk u2 (w.heap.size) m o := bkOf hb2 P0
  have Q1 : Bk u2 (w.heap.size + 1) n d := bkOf hb2 P1
  have Q2 : Bk u2 (w.heap.size + 1 + 1) 0 0 := bkOf hb2 P2
  clear P0 a0 b0 f0 g0 z0 P1 a1 b1 f1 g1 z1 P2 a2 b2 f2 g2 z2
  have P0 := Q0
  obtain ⟨a0, b0, f0, g0, z0⟩ := Q0
  have P1 := Q1
  obtain ⟨a1, b1, f1, g1, z1⟩ := Q1
  have P2 := Q2
  obtain ⟨a2, b2, f2, g2, z2⟩ := Q2
  go_wp2_with fail
  refine (wheelRate_any _ _ _).mono ?_
  rintro e u3 ⟨rfl, hb3⟩
  have Q0 : Bk u3 (w.heap.size) m o := bkOf hb3 P0
  have Q1 : Bk u3 (w.heap.size + 1) n d := bkOf hb3 P1
  have Q2 : Bk u3 (w.heap.size + 1 + 1) 0 0 := bkOf hb3 P2
  clear P0 a0 b0 f0 g0 z0 P1 a1 b1 f1 g1 z1 P2 a2 b2 f2 g2 z2
  have P0 := Q0
  obtain ⟨a0, b0, f0, g0, z0⟩ := Q0
  have P1 := Q1
  obtain ⟨a1, b1, f1, g1, z1⟩ := Q1
  have P2 := Q2
  obtain ⟨a2, b2, f2, g2, z2⟩ := Q2
  go_wp2_with fail
  refine (flickering_any m n d _ h3 (by omega)).mono ?_
  rintro e u4 ⟨rfl, hb4⟩
  have Q0 : Bk u4 (w.heap.size) m o := bkOf hb4 P0
  have Q1 : Bk u4 (w.heap.size + 1) n d := bkOf hb4 P1
  have Q2 : Bk u4 (w.heap.size + 1 + 1) 0 0 := bkOf hb4 P2
  clear P0 a0 b0 f0 g0 z0 P1 a1 b1 f1 g1 z1 P2 a2 b2 f2 g2 z2
  have P0 := Q0
  obtain ⟨a0, b0, f0, g0, z0⟩ := Q0
  have P1 := Q1
  obtain ⟨a1, b1, f1, g1, z1⟩ := Q1
  have P2 := Q2
  obtain ⟨a2, b2, f2, g2, z2⟩ := Q2
  go_wp2_with fail
  refine (lowest_any (n * m) d _ (by omega) (by omega) (by omega) (by omega) (by omega)).mono ?_
  rintro e u5 ⟨rfl, hb5⟩
  have Q0 : Bk u5 (w.heap.size) m o := bkOf hb5 P0
  have Q1 : Bk u5 (w.heap.size + 1) n d := bkOf hb5 P1
  have Q2 : Bk u5 (w.heap.size + 1 + 1) 0 0 := bkOf hb5 P2
  clear P0 a0 b0 f0 g0 z0 P1 a1 b1 f1 g1 z1 P2 a2 b2 f2 g2 z2
  have P0 := Q0
  obtain ⟨a0, b0, f0, g0, z0⟩ := Q0
  have P1 := Q1
  obtain ⟨a1, b1, f1, g1, z1⟩ := Q1
  have P2 := Q2
  obtain ⟨a2, b2, f2, g2, z2⟩ := Q2
  go_wp2_with fail
  refine bodyPost_ret (v := _) (by simp [results, Try.results30, go_sem, a0, b0, a1, b1, a2, b2, z0, Nat.ne_of_lt z0, z1, Nat.ne_of_lt z1, z2, Nat.ne_of_lt z2]) rfl ⟨rfl, ?_⟩
  repeat (first | exact Below.refl _ _ | refine bSet ?_ (by first | (simp; done) | (simp; omega)) _ | refine bAlloc ?_ _ | refine Below.drew ?_ | refine bDrewN ?_ _ | refine bTrans ?_ hb5 | refine bTrans ?_ hb4 | refine bTrans ?_ hb3 | refine bTrans ?_ hb2 | refine bTrans ?_ hb1)

theorem specFlick_bad (m o n d : Int) (w : World) (hn : I64 n) (h : (bladesB m o && okB n d) = false) :
    Calls Try.prog 31 #[fr m o, fr n d] w fun e w' => e = .returned (.tuple #[fr 0 0, .int .i64 1]) ∧ Below w.heap.size w w' := by
  have C := Lib.hid (fun b w (B : Bk w b m o) => l09Code_any b m o n d w hn B)
  rw [code9_bad h] at C
  go_enter Try.func31, Try.ntmps31
  go_wp2_with fail
  refine (C.out _ _ (by refine ⟨?_, ?_, ?_, ?_, ?_⟩ <;> go_simp)).mono ?_
  rintro e u1 ⟨rfl, hb1⟩
  have Q0 : Bk u1 (w.heap.size) m o := by exact bkOf hb1 (by refine ⟨?_, ?_, ?_, ?_, ?_⟩ <;> go_simp)
  have Q1 : Bk u1 (w.heap.size + 1) n d := by exact bkOf hb1 (by refine ⟨?_, ?_, ?_, ?_, ?_⟩ <;> go_simp)
  have Q2 : Bk u1 (w.heap.size + 1 + 1) 0 0 := by exact bkOf hb1 (by refine ⟨?_, ?_, ?_, ?_, ?_⟩ <;> go_simp)
  have P0 := Q0
  obtain ⟨a0, b0, f0, g0, z0⟩ := Q0
  have P1 := Q1
  obtain ⟨a1, b1, f1, g1, z1⟩ := Q1
  have P2 := Q2
  obtain ⟨a2, b2, f2, g2, z2⟩ := Q2
  go_wp2_with fail
  refine bodyPost_ret (v := _) (by simp [results, Try.results31, go_sem, a0, b0, a1, b1, a2, b2, z0, Nat.ne_of_lt z0, z1, Nat.ne_of_lt z1, z2, Nat.ne_of_lt z2]) rfl ⟨rfl, ?_⟩
  repeat (first | exact Below.refl _ _ | refine bSet ?_ (by first | (simp; done) | (simp; omega)) _ | refine bAlloc ?_ _ | refine Below.drew ?_ | refine bDrewN ?_ _ | refine bTrans ?_ hb1)

theorem specFlick_off (m o n d : Int) (w : World) (hn : I64 n) (h : (bladesB m o && okB n d) = true) (h3 : (rateB n d && true) = false) :
    Calls Try.prog 31 #[fr m o, fr n d] w fun e w' => e = .returned (.tuple #[fr 0 0, .int .i64 2]) ∧ Below w.heap.size w w' := by
  have C := Lib.hid (fun b w (B : Bk w b m o) => l09Code_any b m o n d w hn B)
  rw [code9_off h h3] at C
  go_enter Try.func31, Try.ntmps31
  go_wp2_with fail
  refine (C.out _ _ (by refine ⟨?_, ?_, ?_, ?_, ?_⟩ <;> go_simp)).mono ?_
  rintro e u1 ⟨rfl, hb1⟩
  have Q0 : Bk u1 (w.heap.size) m o := by exact bkOf hb1 (by refine ⟨?_, ?_, ?_, ?_, ?_⟩ <;> go_simp)
  have Q1 : Bk u1 (w.heap.size + 1) n d := by exact bkOf hb1 (by refine ⟨?_, ?_, ?_, ?_, ?_⟩ <;> go_simp)
  have Q2 : Bk u1 (w.heap.size + 1 + 1) 0 0 := by exact bkOf hb1 (by refine ⟨?_, ?_, ?_, ?_, ?_⟩ <;> go_simp)
  have P0 := Q0
  obtain ⟨a0, b0, f0, g0, z0⟩ := Q0
  have P1 := Q1
  obtain ⟨a1, b1, f1, g1, z1⟩ := Q1
  have P2 := Q2
  obtain ⟨a2, b2, f2, g2, z2⟩ := Q2
  go_wp2_with fail
  refine bodyPost_ret (v := _) (by simp [results, Try.results31, go_sem, a0, b0, a1, b1, a2, b2, z0, Nat.ne_of_lt z0, z1, Nat.ne_of_lt z1, z2, Nat.ne_of_lt z2]) rfl ⟨rfl, ?_⟩
  repeat (first | exact Below.refl _ _ | refine bSet ?_ (by first | (simp; done) | (simp; omega)) _ | refine bAlloc ?_ _ | refine Below.drew ?_ | refine bDrewN ?_ _ | refine bTrans ?_ hb1)

theorem specFlick_yes (m o n d : Int) (w : World) (hn : I64 n) (h1 : bladesB m o = true) (h2 : okB n d = true) (h3 : rateB n d = true) :
    Calls Try.prog 31 #[fr m o, fr n d] w fun e w' => e = .returned (.tuple #[(fr ((n * m).tdiv (divI (n * m) (d))) ((d).tdiv (divI (n * m) (d)))), .int .i64 0]) ∧ Below w.heap.size w w' := by
  have lb := rateB_bd h3
  obtain ⟨M, S, G, W⟩ := Wh.of h1
  obtain ⟨s1, s2, s3, s4, m1, m2, o1, o2, m0⟩ := W.sb
  have nm := mulBd (x := n) (y := m) 1000 12 (by omega) (by omega) (by omega) (by omega)
  have C := Lib.hid (fun b w (B : Bk w b m o) => l09Code_any b m o n d w hn B)
  rw [code9_yes (by simp [h1, h2]) (by simp [h3])] at C
  go_enter Try.func31, Try.ntmps31
  go_wp2_with fail
  refine (C.out _ _ (by refine ⟨?_, ?_, ?_, ?_, ?_⟩ <;> go_simp)).mono ?_
  rintro e u1 ⟨rfl, hb1⟩
  have Q0 : Bk u1 (w.heap.size) m o := by exact bkOf hb1 (by refine ⟨?_, ?_, ?_, ?_, ?_⟩ <;> go_simp)
  have Q1 : Bk u1 (w.heap.size + 1) n d := by exact bkOf hb1 (by refine ⟨?_, ?_, ?_, ?_, ?_⟩ <;> go_simp)
  have Q2 : Bk u1 (w.heap.size + 1 + 1) 0 0 := by exact bkOf hb1 (by refine ⟨?_, ?_, ?_, ?_, ?_⟩ <;> go_simp)
  have P0 := Q0
  obtain ⟨a0, b0, f0, g0, z0⟩ := Q0
  have P1 := Q1
  obtain ⟨a1, b1, f1, g1, z1⟩ := Q1
  have P2 := Q2
  obtain ⟨a2, b2, f2, g2, z2⟩ := Q2
  go_wp2_with fail
  refine (l02Make_any (n * m) d _ (by omega) (by omega) (by omega) (by omega)).mono ?_
  rintro e u2 ⟨rfl, hb2⟩
  have Q0 : Bk u2 (w.heap.size) m o := bkOf hb2 P0
  have Q1 : Bk u2 (w.heap.size + 1) n d := bkOf hb2 P1
  have Q2 : Bk u2 (w.heap.size + 1 + 1) 0 0 := bkOf hb2 P2
  clear P0 a0 b0 f0 g0 z0 P1 a1 b1 f1 g1 z1 P2 a2 b2 f2 g2 z2
  have P0 := Q0
  obtain ⟨a0, b0, f0, g0, z0⟩ := Q0
  have P1 := Q1
  obtain ⟨a1, b1, f1, g1, z1⟩ := Q1
  have P2 := Q2
  obtain ⟨a2, b2, f2, g2, z2⟩ := Q2
  go_wp2_with fail
  refine bodyPost_ret (v := _) (by simp [results, Try.results31, go_sem, a0, b0, a1, b1, a2, b2, z0, Nat.ne_of_lt z0, z1, Nat.ne_of_lt z1, z2, Nat.ne_of_lt z2]) rfl ⟨rfl, ?_⟩
  repeat (first | exact Below.refl _ _ | refine bSet ?_ (by first | (simp; done) | (simp; omega)) _ | refine bAlloc ?_ _ | refine Below.drew ?_ | refine bDrewN ?_ _ | refine bTrans ?_ hb2 | refine bTrans ?_ hb1)

end Go.Proofs.Ytflgjohknjgdcaa
