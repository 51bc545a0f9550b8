/- The functions on wheels with blades that reckon with fractions, in the program and in the model: the functions themselves. -/
import Derived.Test.YtflgjohknjgdcaaProg
import Derived.Test.YtflgjohknjgdcaaBld
import Derived.Test.YtflgjohknjgdcaaBldDark
import Derived.Laws.Cover1
import Derived.Deep.RegionWith
import Derived.Deep.DrawnRows
import Derived.Deep.RegionHeld3
import Derived.Tactics
import Derived.Tactics2
import Derived.WalkKit
import Derived.LoopTactic
import Derived.BigQuiet
import Derived.RegionTactic
import Derived.Deep.QuietTactic
import Derived.Outline
import Derived.Lib.Hide
import Derived.Below
import Derived.KernelRfl
namespace Go.Proofs.Ytflgjohknjgdcaa
set_option linter.unusedSimpArgs false
set_option linter.unusedVariables false
open Go.RowKit

theorem implDark_bad1 (m o n d : Int) (w : World) (h1 : bladesB m o = false) :
    Calls Try.prog 42 #[fr m o, fr n d] w fun e w' => e = .returned (.tuple #[fr 0 0, .int .i64 1]) ∧ Below w.heap.size w w' := by
  go_enter Try.func42, Try.ntmps42
  go_wp2_with fail
  refine (validBlades_any m o _).mono ?_
  rintro e u1 ⟨rfl, hb1⟩
  have Q0 : Bk u1 (w.heap.size) m o := by exact bkOf hb1 (by refine ⟨?_, ?_, ?_, ?_, ?_⟩ <;> go_simp)
  have Q1 : Bk u1 (w.heap.size + 1) n d := by exact bkOf hb1 (by refine ⟨?_, ?_, ?_, ?_, ?_⟩ <;> go_simp)
  have Q2 : Bk u1 (w.heap.size + 1 + 1) 0 0 := by exact bkOf hb1 (by refine ⟨?_, ?_, ?_, ?_, ?_⟩ <;> go_simp)
  have P0 := Q0
  obtain ⟨a0, b0, f0, g0, z0⟩ := Q0
  have P1 := Q1
  obtain ⟨a1, b1, f1, g1, z1⟩ := Q1
  have P2 := Q2
  obtain ⟨a2, b2, f2, g2, z2⟩ := Q2
  go_wp2_with fail
  refine bodyPost_ret (v := _) (by simp [results, Try.results42, go_sem, a0, b0, a1, b1, a2, b2, z0, Nat.ne_of_lt z0, z1, Nat.ne_of_lt z1, z2, Nat.ne_of_lt z2]) rfl ⟨rfl, ?_⟩
  repeat (first | exact Below.refl _ _ | refine bSet ?_ (by first | (simp; done) | (simp; omega)) _ | refine bAlloc ?_ _ | refine Below.drew ?_ | refine bDrewN ?_ _ | refine bTrans ?_ hb1)

theorem implDark_bad2 (m o n d : Int) (w : World) (h1 : bladesB m o = true) (h2 : okB n d = false) :
    Calls Try.prog 42 #[fr m o, fr n d] w fun e w' => e = .returned (.tuple #[fr 0 0, .int .i64 1]) ∧ Below w.heap.size w w' := by
  go_enter Try.func42, Try.ntmps42
  go_wp2_with fail
  refine (validBlades_any m o _).mono ?_
  rintro e u1 ⟨rfl, hb1⟩
  have Q0 : Bk u1 (w.heap.size) m o := by exact bkOf hb1 (by refine ⟨?_, ?_, ?_, ?_, ?_⟩ <;> go_simp)
  have Q1 : Bk u1 (w.heap.size + 1) n d := by exact bkOf hb1 (by refine ⟨?_, ?_, ?_, ?_, ?_⟩ <;> go_simp)
  have Q2 : Bk u1 (w.heap.size + 1 + 1) 0 0 := by exact bkOf hb1 (by refine ⟨?_, ?_, ?_, ?_, ?_⟩ <;> go_simp)
  have P0 := Q0
  obtain ⟨a0, b0, f0, g0, z0⟩ := Q0
  have P1 := Q1
  obtain ⟨a1, b1, f1, g1, z1⟩ := Q1
  have P2 := Q2
  obtain ⟨a2, b2, f2, g2, z2⟩ := Q2
  go_wp2_with fail
  refine (validFraction_any _ _ _).mono ?_
  rintro e u2 ⟨rfl, hb2⟩
  have Q0 : Bk u2 (w.heap.size) m o := bkOf hb2 P0
  have Q1 : Bk u2 (w.heap.size + 1) n d := bkOf hb2 P1
  have Q2 : Bk u2 (w.heap.size + 1 + 1) 0 0 := bkOf hb2 P2
  clear P0 a0 b0 f0 g0 z0 P1 a1 b1 f1 g1 z1 P2 a2 b2 f2 g2 z2
  have P0 := Q0
  obtain ⟨a0, b0, f0, g0, z0⟩ := Q0
  have P1 := Q1
  obtain ⟨a1, b1, f1, g1, z1⟩ := Q1
  have P2 := Q2
  obtain ⟨a2, b2, f2, g2, z2⟩ := Q2
  go_wp2_with fail
  refine bodyPost_ret (v := _) (by simp [results, Try.results42, go_sem, a0, b0, a1, b1, a2, b2, z0, Nat.ne_of_lt z0, z1, Nat.ne_of_lt z1, z2, Nat.ne_of_lt z2]) rfl ⟨rfl, ?_⟩
  repeat (first | exact Below.refl _ _ | refine bSet ?_ (by first | (simp; done) | (simp; omega)) _ | refine bAlloc ?_ _ | refine Below.drew ?_ | refine bDrewN ?_ _ | refine bTrans ?_ hb2 | refine bTrans ?_ hb1)

theorem implDark_off (m o n d : Int) (w : World) (h1 : bladesB m o = true) (h2 : okB n d = true) (h3 : rateB n d = false) :
    Calls Try.prog 42 #[fr m o, fr n d] w fun e w' => e = .returned (.tuple #[fr 0 0, .int .i64 2]) ∧ Below w.heap.size w w' := by
  go_enter Try.func42, Try.ntmps42
  go_wp2_with fail
  refine (validBlades_any m o _).mono ?_
  rintro e u1 ⟨rfl, hb1⟩
  have Q0 : Bk u1 (w.heap.size) m o := by exact bkOf hb1 (by refine ⟨?_, ?_, ?_, ?_, ?_⟩ <;> go_simp)
  have Q1 : Bk u1 (w.heap.size + 1) n d := by exact bkOf hb1 (by refine ⟨?_, ?_, ?_, ?_, ?_⟩ <;> go_simp)
  have Q2 : Bk u1 (w.heap.size + 1 + 1) 0 0 := by exact bkOf hb1 (by refine ⟨?_, ?_, ?_, ?_, ?_⟩ <;> go_simp)
  have P0 := Q0
  obtain ⟨a0, b0, f0, g0, z0⟩ := Q0
  have P1 := Q1
  obtain ⟨a1, b1, f1, g1, z1⟩ := Q1
  have P2 := Q2
  obtain ⟨a2, b2, f2, g2, z2⟩ := Q2
  go_wp2_with fail
  refine (validFraction_any _ _ _).mono ?_
  rintro e u2 ⟨rfl, hb2⟩
  have Q0 : Bk u2 (w.heap.size) m o := bkOf hb2 P0
  have Q1 : Bk u2 (w.heap.size + 1) n d := bkOf hb2 P1
  have Q2 : Bk u2 (w.heap.size + 1 + 1) 0 0 := bkOf hb2 P2
  clear P0 a0 b0 f0 g0 z0 P1 a1 b1 f1 g1 z1 P2 a2 b2 f2 g2 z2
  have P0 := Q0
  obtain ⟨a0, b0, f0, g0, z0⟩ := Q0
  have P1 := Q1
  obtain ⟨a1, b1, f1, g1, z1⟩ := Q1
  have P2 := Q2
  obtain ⟨a2, b2, f2, g2, z2⟩ := Q2
  go_wp2_with fail
  refine (wheelRate_any _ _ _).mono ?_
  rintro e u3 ⟨rfl, hb3⟩
  have Q0 : Bk u3 (w.heap.size) m o := bkOf hb3 P0
  have Q1 : Bk u3 (w.heap.size + 1) n d := bkOf hb3 P1
  have Q2 : Bk u3 (w.heap.size + 1 + 1) 0 0 := bkOf hb3 P2
  clear P0 a0 b0 f0 g0 z0 P1 a1 b1 f1 g1 z1 P2 a2 b2 f2 g2 z2
  have P0 := Q0
  obtain ⟨a0, b0, f0, g0, z0⟩ := Q0
  have P1 := Q1
  obtain ⟨a1, b1, f1, g1, z1⟩ := Q1
  have P2 := Q2
  obtain ⟨a2, b2, f2, g2, z2⟩ := Q2
  go_wp2_with fail
  refine bodyPost_ret (v := _) (by simp [results, Try.results42, go_sem, a0, b0, a1, b1, a2, b2, z0, Nat.ne_of_lt z0, z1, Nat.ne_of_lt z1, z2, Nat.ne_of_lt z2]) rfl ⟨rfl, ?_⟩
  repeat (first | exact Below.refl _ _ | refine bSet ?_ (by first | (simp; done) | (simp; omega)) _ | refine bAlloc ?_ _ | refine Below.drew ?_ | refine bDrewN ?_ _ | refine bTrans ?_ hb3 | refine bTrans ?_ hb2 | refine bTrans ?_ hb1)

theorem specDark_bad (m o n d : Int) (w : World) (hn : I64 n) (h : (bladesB m o && okB n d) = false) :
    Calls Try.prog 43 #[fr m o, fr n d] w fun e w' => e = .returned (.tuple #[fr 0 0, .int .i64 1]) ∧ Below w.heap.size w w' := by
  have C := Lib.hid (fun b w (B : Bk w b m o) => l09Code_any b m o n d w hn B)
  rw [code9_bad h] at C
  go_enter Try.func43, Try.ntmps43
  go_wp2_with fail
  refine (C.out _ _ (by refine ⟨?_, ?_, ?_, ?_, ?_⟩ <;> go_simp)).mono ?_
  rintro e u1 ⟨rfl, hb1⟩
  have Q0 : Bk u1 (w.heap.size) m o := by exact bkOf hb1 (by refine ⟨?_, ?_, ?_, ?_, ?_⟩ <;> go_simp)
  have Q1 : Bk u1 (w.heap.size + 1) n d := by exact bkOf hb1 (by refine ⟨?_, ?_, ?_, ?_, ?_⟩ <;> go_simp)
  have Q2 : Bk u1 (w.heap.size + 1 + 1) 0 0 := by exact bkOf hb1 (by refine ⟨?_, ?_, ?_, ?_, ?_⟩ <;> go_simp)
  have P0 := Q0
  obtain ⟨a0, b0, f0, g0, z0⟩ := Q0
  have P1 := Q1
  obtain ⟨a1, b1, f1, g1, z1⟩ := Q1
  have P2 := Q2
  obtain ⟨a2, b2, f2, g2, z2⟩ := Q2
  go_wp2_with fail
  refine bodyPost_ret (v := _) (by simp [results, Try.results43, go_sem, a0, b0, a1, b1, a2, b2, z0, Nat.ne_of_lt z0, z1, Nat.ne_of_lt z1, z2, Nat.ne_of_lt z2]) rfl ⟨rfl, ?_⟩
  repeat (first | exact Below.refl _ _ | refine bSet ?_ (by first | (simp; done) | (simp; omega)) _ | refine bAlloc ?_ _ | refine Below.drew ?_ | refine bDrewN ?_ _ | refine bTrans ?_ hb1)

theorem specDark_off (m o n d : Int) (w : World) (hn : I64 n) (h : (bladesB m o && okB n d) = true) (h3 : (rateB n d && true) = false) :
    Calls Try.prog 43 #[fr m o, fr n d] w fun e w' => e = .returned (.tuple #[fr 0 0, .int .i64 2]) ∧ Below w.heap.size w w' := by
  have C := Lib.hid (fun b w (B : Bk w b m o) => l09Code_any b m o n d w hn B)
  rw [code9_off h h3] at C
  go_enter Try.func43, Try.ntmps43
  go_wp2_with fail
  refine (C.out _ _ (by refine ⟨?_, ?_, ?_, ?_, ?_⟩ <;> go_simp)).mono ?_
  rintro e u1 ⟨rfl, hb1⟩
  have Q0 : Bk u1 (w.heap.size) m o := by exact bkOf hb1 (by refine ⟨?_, ?_, ?_, ?_, ?_⟩ <;> go_simp)
  have Q1 : Bk u1 (w.heap.size + 1) n d := by exact bkOf hb1 (by refine ⟨?_, ?_, ?_, ?_, ?_⟩ <;> go_simp)
  have Q2 : Bk u1 (w.heap.size + 1 + 1) 0 0 := by exact bkOf hb1 (by refine ⟨?_, ?_, ?_, ?_, ?_⟩ <;> go_simp)
  have P0 := Q0
  obtain ⟨a0, b0, f0, g0, z0⟩ := Q0
  have P1 := Q1
  obtain ⟨a1, b1, f1, g1, z1⟩ := Q1
  have P2 := Q2
  obtain ⟨a2, b2, f2, g2, z2⟩ := Q2
  go_wp2_with fail
  refine bodyPost_ret (v := _) (by simp [results, Try.results43, go_sem, a0, b0, a1, b1, a2, b2, z0, Nat.ne_of_lt z0, z1, Nat.ne_of_lt z1, z2, Nat.ne_of_lt z2]) rfl ⟨rfl, ?_⟩
  repeat (first | exact Below.refl _ _ | refine bSet ?_ (by first | (simp; done) | (simp; omega)) _ | refine bAlloc ?_ _ | refine Below.drew ?_ | refine bDrewN ?_ _ | refine bTrans ?_ hb1)

theorem specDark_yes (m o n d : Int) (w : World) (hn : I64 n) (h1 : bladesB m o = true) (h2 : okB n d = true) (h3 : rateB n d = true) :
    Calls Try.prog 43 #[fr m o, fr n d] w fun e w' => e = .returned (.tuple #[(fr ((((1000 - o) / m) * d).tdiv (divI (((1000 - o) / m) * d) (1000 * n))) ((1000 * n).tdiv (divI (((1000 - o) / m) * d) (1000 * n)))), .int .i64 0]) ∧ Below w.heap.size w w' := by
  have lb := rateB_bd h3
  obtain ⟨M, S, G, W⟩ := Wh.of h1
  obtain ⟨s1, s2, s3, s4, m1, m2, o1, o2, m0⟩ := W.sb
  have wgs := W.gs
  have dm := W.dark
  have md := mulBd (x := (1000 - o) / m) (y := d) 1000 1000 (by omega) (by omega) (by omega) (by omega)
  have C := Lib.hid (fun b w (B : Bk w b m o) => l09Code_any b m o n d w hn B)
  rw [code9_yes (by simp [h1, h2]) (by simp [h3])] at C
  go_enter Try.func43, Try.ntmps43
  go_wp2_with fail
  refine (C.out _ _ (by refine ⟨?_, ?_, ?_, ?_, ?_⟩ <;> go_simp)).mono ?_
  rintro e u1 ⟨rfl, hb1⟩
  have Q0 : Bk u1 (w.heap.size) m o := by exact bkOf hb1 (by refine ⟨?_, ?_, ?_, ?_, ?_⟩ <;> go_simp)
  have Q1 : Bk u1 (w.heap.size + 1) n d := by exact bkOf hb1 (by refine ⟨?_, ?_, ?_, ?_, ?_⟩ <;> go_simp)
  have Q2 : Bk u1 (w.heap.size + 1 + 1) 0 0 := by exact bkOf hb1 (by refine ⟨?_, ?_, ?_, ?_, ?_⟩ <;> go_simp)
  have P0 := Q0
  obtain ⟨a0, b0, f0, g0, z0⟩ := Q0
  have P1 := Q1
  obtain ⟨a1, b1, f1, g1, z1⟩ := Q1
  have P2 := Q2
  obtain ⟨a2, b2, f2, g2, z2⟩ := Q2
  go_wp2_with fail
  refine (l02Make_any (((1000 - o) / m) * d) (1000 * n) _ (by omega) (by omega) (by omega) (by omega)).mono ?_
  rintro e u2 ⟨rfl, hb2⟩
  have Q0 : Bk u2 (w.heap.size) m o := bkOf hb2 P0
  have Q1 : Bk u2 (w.heap.size + 1) n d := bkOf hb2 P1
  have Q2 : Bk u2 (w.heap.size + 1 + 1) 0 0 := bkOf hb2 P2
  clear P0 a0 b0 f0 g0 z0 P1 a1 b1 f1 g1 z1 P2 a2 b2 f2 g2 z2
  have P0 := Q0
  obtain ⟨a0, b0, f0, g0, z0⟩ := Q0
  have P1 := Q1
  obtain ⟨a1, b1, f1, g1, z1⟩ := Q1
  have P2 := Q2
  obtain ⟨a2, b2, f2, g2, z2⟩ := Q2
  go_wp2_with fail
  refine bodyPost_ret (v := _) (by simp [results, Try.results43, go_sem, a0, b0, a1, b1, a2, b2, z0, Nat.ne_of_lt z0, z1, Nat.ne_of_lt z1, z2, Nat.ne_of_lt z2]) rfl ⟨rfl, ?_⟩
  repeat (first | exact Below.refl _ _ | refine bSet ?_ (by first | (simp; done) | (simp; omega)) _ | refine bAlloc ?_ _ | refine Below.drew ?_ | refine bDrewN ?_ _ | refine bTrans ?_ hb2 | refine bTrans ?_ hb1)

theorem implOpen_bad (m o p : Int) (w : World) (h1 : bladesB m o = false) :
    Calls Try.prog 34 #[fr m o, .int .i64 p] w fun e w' => e = .returned (.tuple #[.bool false, .int .i64 1]) ∧ Below w.heap.size w w' := by
  go_enter Try.func34, Try.ntmps34
  go_wp2_with fail
  refine (validBlades_any m o _).mono ?_
  rintro e u1 ⟨rfl, hb1⟩
  have Q0 : Bk u1 (w.heap.size) m o := by exact bkOf hb1 (by refine ⟨?_, ?_, ?_, ?_, ?_⟩ <;> go_simp)
  have P0 := Q0
  obtain ⟨a0, b0, f0, g0, z0⟩ := Q0
  go_wp2_with fail
  go_ret2
  refine ⟨rfl, ?_⟩
  repeat (first | exact Below.refl _ _ | refine bSet ?_ (by first | (simp; done) | (simp; omega)) _ | refine bAlloc ?_ _ | refine Below.drew ?_ | refine bDrewN ?_ _ | refine bTrans ?_ hb1)

theorem implOpen_off (m o p : Int) (w : World) (h1 : bladesB m o = true) (h4 : inB p 0 999 = false) :
    Calls Try.prog 34 #[fr m o, .int .i64 p] w fun e w' => e = .returned (.tuple #[.bool false, .int .i64 2]) ∧ Below w.heap.size w w' := by
  go_enter Try.func34, Try.ntmps34
  go_wp2_with fail
  refine (validBlades_any m o _).mono ?_
  rintro e u1 ⟨rfl, hb1⟩
  have Q0 : Bk u1 (w.heap.size) m o := by exact bkOf hb1 (by refine ⟨?_, ?_, ?_, ?_, ?_⟩ <;> go_simp)
  have P0 := Q0
  obtain ⟨a0, b0, f0, g0, z0⟩ := Q0
  go_wp2_with fail
  refine (isPart_any _ _).mono ?_
  rintro e u ⟨rfl, rfl⟩
  go_wp2_with fail
  go_ret2
  refine ⟨rfl, ?_⟩
  repeat (first | exact Below.refl _ _ | refine bSet ?_ (by first | (simp; done) | (simp; omega)) _ | refine bAlloc ?_ _ | refine Below.drew ?_ | refine bDrewN ?_ _ | refine bTrans ?_ hb1)

theorem specOpen_bad (m o p : Int) (w : World) (h1 : bladesB m o = false) :
    Calls Try.prog 45 #[fr m o, .int .i64 p] w fun e w' => e = .returned (.tuple #[.bool false, .int .i64 1]) ∧ Below w.heap.size w w' := by
  go_enter Try.func45, Try.ntmps45
  go_wp2_with fail
  refine (l09Ok_any _ m o _ (by refine ⟨?_, ?_, ?_, ?_, ?_⟩ <;> go_simp)).mono ?_
  rintro e u ⟨rfl, nd1, rfl⟩
  go_wp2_with fail
  go_ret2
  refine ⟨rfl, ?_⟩
  repeat (first | exact Below.refl _ _ | refine bSet ?_ (by first | (simp; done) | (simp; omega)) _ | refine bAlloc ?_ _ | refine Below.drew ?_ | refine bDrewN ?_ _)

theorem specOpen_off (m o p : Int) (w : World) (h1 : bladesB m o = true) (h4 : inB p 0 999 = false) :
    Calls Try.prog 45 #[fr m o, .int .i64 p] w fun e w' => e = .returned (.tuple #[.bool false, .int .i64 2]) ∧ Below w.heap.size w w' := by
  go_enter Try.func45, Try.ntmps45
  go_wp2_with fail
  refine (l09Ok_any _ m o _ (by refine ⟨?_, ?_, ?_, ?_, ?_⟩ <;> go_simp)).mono ?_
  rintro e u ⟨rfl, nd1, rfl⟩
  go_wp2_with fail
  refine (l00In_any _ _ _ _).mono ?_
  rintro e u ⟨rfl, rfl⟩
  go_wp2_with fail
  go_ret2
  refine ⟨rfl, ?_⟩
  repeat (first | exact Below.refl _ _ | refine bSet ?_ (by first | (simp; done) | (simp; omega)) _ | refine bAlloc ?_ _ | refine Below.drew ?_ | refine bDrewN ?_ _)

theorem implParts_bad (m o p q : Int) (w : World) (h1 : bladesB m o = false) :
    Calls Try.prog 28 #[fr m o, .int .i64 p, .int .i64 q] w fun e w' => e = .returned (.tuple #[.int .i64 0, .int .i64 1]) ∧ Below w.heap.size w w' := by
  go_enter Try.func28, Try.ntmps28
  go_wp2_with fail
  refine (validBlades_any m o _).mono ?_
  rintro e u1 ⟨rfl, hb1⟩
  have Q0 : Bk u1 (w.heap.size) m o := by exact bkOf hb1 (by refine ⟨?_, ?_, ?_, ?_, ?_⟩ <;> go_simp)
  have P0 := Q0
  obtain ⟨a0, b0, f0, g0, z0⟩ := Q0
  go_wp2_with fail
  go_ret2
  refine ⟨rfl, ?_⟩
  repeat (first | exact Below.refl _ _ | refine bSet ?_ (by first | (simp; done) | (simp; omega)) _ | refine bAlloc ?_ _ | refine Below.drew ?_ | refine bDrewN ?_ _ | refine bTrans ?_ hb1)

theorem implParts_off1 (m o p q : Int) (w : World) (h1 : bladesB m o = true) (h4 : p < 0) :
    Calls Try.prog 28 #[fr m o, .int .i64 p, .int .i64 q] w fun e w' => e = .returned (.tuple #[.int .i64 0, .int .i64 2]) ∧ Below w.heap.size w w' := by
  go_enter Try.func28, Try.ntmps28
  go_wp2_with fail
  refine (validBlades_any m o _).mono ?_
  rintro e u1 ⟨rfl, hb1⟩
  have Q0 : Bk u1 (w.heap.size) m o := by exact bkOf hb1 (by refine ⟨?_, ?_, ?_, ?_, ?_⟩ <;> go_simp)
  have P0 := Q0
  obtain ⟨a0, b0, f0, g0, z0⟩ := Q0
  go_wp2_with fail
  go_ret2
  refine ⟨rfl, ?_⟩
  repeat (first | exact Below.refl _ _ | refine bSet ?_ (by first | (simp; done) | (simp; omega)) _ | refine bAlloc ?_ _ | refine Below.drew ?_ | refine bDrewN ?_ _ | refine bTrans ?_ hb1)

theorem implParts_off2 (m o p q : Int) (w : World) (h1 : bladesB m o = true) (h4 : ¬ p < 0) (h5 : q < p) :
    Calls Try.prog 28 #[fr m o, .int .i64 p, .int .i64 q] w fun e w' => e = .returned (.tuple #[.int .i64 0, .int .i64 2]) ∧ Below w.heap.size w w' := by
  go_enter Try.func28, Try.ntmps28
  go_wp2_with fail
  refine (validBlades_any m o _).mono ?_
  rintro e u1 ⟨rfl, hb1⟩
  have Q0 : Bk u1 (w.heap.size) m o := by exact bkOf hb1 (by refine ⟨?_, ?_, ?_, ?_, ?_⟩ <;> go_simp)
  have P0 := Q0
  obtain ⟨a0, b0, f0, g0, z0⟩ := Q0
  go_wp2_with fail
  go_ret2
  refine ⟨rfl, ?_⟩
  repeat (first | exact Below.refl _ _ | refine bSet ?_ (by first | (simp; done) | (simp; omega)) _ | refine bAlloc ?_ _ | refine Below.drew ?_ | refine bDrewN ?_ _ | refine bTrans ?_ hb1)

theorem implParts_off3 (m o p q : Int) (w : World) (h1 : bladesB m o = true) (h4 : ¬ p < 0) (h5 : ¬ q < p) (h6 : 1000 < q) :
    Calls Try.prog 28 #[fr m o, .int .i64 p, .int .i64 q] w fun e w' => e = .returned (.tuple #[.int .i64 0, .int .i64 2]) ∧ Below w.heap.size w w' := by
  go_enter Try.func28, Try.ntmps28
  go_wp2_with fail
  refine (validBlades_any m o _).mono ?_
  rintro e u1 ⟨rfl, hb1⟩
  have Q0 : Bk u1 (w.heap.size) m o := by exact bkOf hb1 (by refine ⟨?_, ?_, ?_, ?_, ?_⟩ <;> go_simp)
  have P0 := Q0
  obtain ⟨a0, b0, f0, g0, z0⟩ := Q0
  go_wp2_with fail
  go_ret2
  refine ⟨rfl, ?_⟩
  repeat (first | exact Below.refl _ _ | refine bSet ?_ (by first | (simp; done) | (simp; omega)) _ | refine bAlloc ?_ _ | refine Below.drew ?_ | refine bDrewN ?_ _ | refine bTrans ?_ hb1)

theorem specParts_bad (m o p q : Int) (w : World) (h1 : bladesB m o = false) :
    Calls Try.prog 29 #[fr m o, .int .i64 p, .int .i64 q] w fun e w' => e = .returned (.tuple #[.int .i64 0, .int .i64 1]) ∧ Below w.heap.size w w' := by
  go_enter Try.func29, Try.ntmps29
  go_wp2_with fail
  refine (l09Ok_any _ m o _ (by refine ⟨?_, ?_, ?_, ?_, ?_⟩ <;> go_simp)).mono ?_
  rintro e u ⟨rfl, nd1, rfl⟩
  go_wp2_with fail
  go_ret2
  refine ⟨rfl, ?_⟩
  repeat (first | exact Below.refl _ _ | refine bSet ?_ (by first | (simp; done) | (simp; omega)) _ | refine bAlloc ?_ _ | refine Below.drew ?_ | refine bDrewN ?_ _)

theorem specParts_off1 (m o p q : Int) (w : World) (h1 : bladesB m o = true) (h4 : inB p 0 1000 = false) :
    Calls Try.prog 29 #[fr m o, .int .i64 p, .int .i64 q] w fun e w' => e = .returned (.tuple #[.int .i64 0, .int .i64 2]) ∧ Below w.heap.size w w' := by
  go_enter Try.func29, Try.ntmps29
  go_wp2_with fail
  refine (l09Ok_any _ m o _ (by refine ⟨?_, ?_, ?_, ?_, ?_⟩ <;> go_simp)).mono ?_
  rintro e u ⟨rfl, nd1, rfl⟩
  go_wp2_with fail
  refine (l00In_any _ _ _ _).mono ?_
  rintro e u ⟨rfl, rfl⟩
  go_wp2_with fail
  go_ret2
  refine ⟨rfl, ?_⟩
  repeat (first | exact Below.refl _ _ | refine bSet ?_ (by first | (simp; done) | (simp; omega)) _ | refine bAlloc ?_ _ | refine Below.drew ?_ | refine bDrewN ?_ _)

theorem specParts_off2 (m o p q : Int) (w : World) (h1 : bladesB m o = true) (h4 : inB p 0 1000 = true) (h5 : inB q p 1000 = false) :
    Calls Try.prog 29 #[fr m o, .int .i64 p, .int .i64 q] w fun e w' => e = .returned (.tuple #[.int .i64 0, .int .i64 2]) ∧ Below w.heap.size w w' := by
  go_enter Try.func29, Try.ntmps29
  go_wp2_with fail
  refine (l09Ok_any _ m o _ (by refine ⟨?_, ?_, ?_, ?_, ?_⟩ <;> go_simp)).mono ?_
  rintro e u ⟨rfl, nd1, rfl⟩
  go_wp2_with fail
  refine (l00In_any _ _ _ _).mono ?_
  rintro e u ⟨rfl, rfl⟩
  go_wp2_with fail
  refine (l00In_any _ _ _ _).mono ?_
  rintro e u ⟨rfl, rfl⟩
  go_wp2_with fail
  go_ret2
  refine ⟨rfl, ?_⟩
  repeat (first | exact Below.refl _ _ | refine bSet ?_ (by first | (simp; done) | (simp; omega)) _ | refine bAlloc ?_ _ | refine Below.drew ?_ | refine bDrewN ?_ _)

theorem implTwo_bad1 (m o m2 o2 y : Int) (w : World) (h1 : bladesB m o = false) :
    Calls Try.prog 36 #[fr m o, fr m2 o2, .int .i64 y] w fun e w' => e = .returned (.tuple #[.int .i64 0, .int .i64 1]) ∧ Below w.heap.size w w' := by
  go_enter Try.func36, Try.ntmps36
  go_wp2_with fail
  refine (validBlades_any m o _).mono ?_
  rintro e u1 ⟨rfl, hb1⟩
  have Q0 : Bk u1 (w.heap.size) m o := by exact bkOf hb1 (by refine ⟨?_, ?_, ?_, ?_, ?_⟩ <;> go_simp)
  have Q1 : Bk u1 (w.heap.size + 1) m2 o2 := by exact bkOf hb1 (by refine ⟨?_, ?_, ?_, ?_, ?_⟩ <;> go_simp)
  have P0 := Q0
  obtain ⟨a0, b0, f0, g0, z0⟩ := Q0
  have P1 := Q1
  obtain ⟨a1, b1, f1, g1, z1⟩ := Q1
  go_wp2_with fail
  go_ret2
  refine ⟨rfl, ?_⟩
  repeat (first | exact Below.refl _ _ | refine bSet ?_ (by first | (simp; done) | (simp; omega)) _ | refine bAlloc ?_ _ | refine Below.drew ?_ | refine bDrewN ?_ _ | refine bTrans ?_ hb1)

theorem implTwo_bad2 (m o m2 o2 y : Int) (w : World) (h1 : bladesB m o = true) (h2 : bladesB m2 o2 = false) :
    Calls Try.prog 36 #[fr m o, fr m2 o2, .int .i64 y] w fun e w' => e = .returned (.tuple #[.int .i64 0, .int .i64 1]) ∧ Below w.heap.size w w' := by
  go_enter Try.func36, Try.ntmps36
  go_wp2_with fail
  refine (validBlades_any m o _).mono ?_
  rintro e u1 ⟨rfl, hb1⟩
  have Q0 : Bk u1 (w.heap.size) m o := by exact bkOf hb1 (by refine ⟨?_, ?_, ?_, ?_, ?_⟩ <;> go_simp)
  have Q1 : Bk u1 (w.heap.size + 1) m2 o2 := by exact bkOf hb1 (by refine ⟨?_, ?_, ?_, ?_, ?_⟩ <;> go_simp)
  have P0 := Q0
  obtain ⟨a0, b0, f0, g0, z0⟩ := Q0
  have P1 := Q1
  obtain ⟨a1, b1, f1, g1, z1⟩ := Q1
  go_wp2_with fail
  refine (validBlades_any m2 o2 _).mono ?_
  rintro e u2 ⟨rfl, hb2⟩
  have Q0 : Bk u2 (w.heap.size) m o := bkOf hb2 P0
  have Q1 : Bk u2 (w.heap.size + 1) m2 o2 := bkOf hb2 P1
  clear P0 a0 b0 f0 g0 z0 P1 a1 b1 f1 g1 z1
  have P0 := Q0
  obtain ⟨a0, b0, f0, g0, z0⟩ := Q0
  have P1 := Q1
  obtain ⟨a1, b1, f1, g1, z1⟩ := Q1
  go_wp2_with fail
  go_ret2
  refine ⟨rfl, ?_⟩
  repeat (first | exact Below.refl _ _ | refine bSet ?_ (by first | (simp; done) | (simp; omega)) _ | refine bAlloc ?_ _ | refine Below.drew ?_ | refine bDrewN ?_ _ | refine bTrans ?_ hb2 | refine bTrans ?_ hb1)

theorem implTwo_off (m o m2 o2 y : Int) (w : World) (h1 : bladesB m o = true) (h2 : bladesB m2 o2 = true) (h4 : inB y 0 999 = false) :
    Calls Try.prog 36 #[fr m o, fr m2 o2, .int .i64 y] w fun e w' => e = .returned (.tuple #[.int .i64 0, .int .i64 2]) ∧ Below w.heap.size w w' := by
  go_enter Try.func36, Try.ntmps36
  go_wp2_with fail
  refine (validBlades_any m o _).mono ?_
  rintro e u1 ⟨rfl, hb1⟩
  have Q0 : Bk u1 (w.heap.size) m o := by exact bkOf hb1 (by refine ⟨?_, ?_, ?_, ?_, ?_⟩ <;> go_simp)
  have Q1 : Bk u1 (w.heap.size + 1) m2 o2 := by exact bkOf hb1 (by refine ⟨?_, ?_, ?_, ?_, ?_⟩ <;> go_simp)
  have P0 := Q0
  obtain ⟨a0, b0, f0, g0, z0⟩ := Q0
  have P1 := Q1
  obtain ⟨a1, b1, f1, g1, z1⟩ := Q1
  go_wp2_with fail
  refine (validBlades_any m2 o2 _).mono ?_
  rintro e u2 ⟨rfl, hb2⟩
  have Q0 : Bk u2 (w.heap.size) m o := bkOf hb2 P0
  have Q1 : Bk u2 (w.heap.size + 1) m2 o2 := bkOf hb2 P1
  clear P0 a0 b0 f0 g0 z0 P1 a1 b1 f1 g1 z1
  have P0 := Q0
  obtain ⟨a0, b0, f0, g0, z0⟩ := Q0
  have P1 := Q1
  obtain ⟨a1, b1, f1, g1, z1⟩ := Q1
  go_wp2_with fail
  refine (isPart_any _ _).mono ?_
  rintro e u ⟨rfl, rfl⟩
  go_wp2_with fail
  go_ret2
  refine ⟨rfl, ?_⟩
  repeat (first | exact Below.refl _ _ | refine bSet ?_ (by first | (simp; done) | (simp; omega)) _ | refine bAlloc ?_ _ | refine Below.drew ?_ | refine bDrewN ?_ _ | refine bTrans ?_ hb2 | refine bTrans ?_ hb1)

theorem specTwo_bad1 (m o m2 o2 y : Int) (w : World) (h1 : bladesB m o = false) :
    Calls Try.prog 37 #[fr m o, fr m2 o2, .int .i64 y] w fun e w' => e = .returned (.tuple #[.int .i64 0, .int .i64 1]) ∧ Below w.heap.size w w' := by
  go_enter Try.func37, Try.ntmps37
  go_wp2_with fail
  refine (l09Ok_any _ m o _ (by refine ⟨?_, ?_, ?_, ?_, ?_⟩ <;> go_simp)).mono ?_
  rintro e u ⟨rfl, nd1, rfl⟩
  go_wp2_with fail
  go_ret2
  refine ⟨rfl, ?_⟩
  repeat (first | exact Below.refl _ _ | refine bSet ?_ (by first | (simp; done) | (simp; omega)) _ | refine bAlloc ?_ _ | refine Below.drew ?_ | refine bDrewN ?_ _)

theorem specTwo_bad2 (m o m2 o2 y : Int) (w : World) (h1 : bladesB m o = true) (h2 : bladesB m2 o2 = false) :
    Calls Try.prog 37 #[fr m o, fr m2 o2, .int .i64 y] w fun e w' => e = .returned (.tuple #[.int .i64 0, .int .i64 1]) ∧ Below w.heap.size w w' := by
  go_enter Try.func37, Try.ntmps37
  go_wp2_with fail
  refine (l09Ok_any _ m o _ (by refine ⟨?_, ?_, ?_, ?_, ?_⟩ <;> go_simp)).mono ?_
  rintro e u ⟨rfl, nd1, rfl⟩
  go_wp2_with fail
  refine (l09Ok_any _ m2 o2 _ (by refine ⟨?_, ?_, ?_, ?_, ?_⟩ <;> go_simp)).mono ?_
  rintro e u ⟨rfl, nd2, rfl⟩
  go_wp2_with fail
  go_ret2
  refine ⟨rfl, ?_⟩
  repeat (first | exact Below.refl _ _ | refine bSet ?_ (by first | (simp; done) | (simp; omega)) _ | refine bAlloc ?_ _ | refine Below.drew ?_ | refine bDrewN ?_ _)

theorem specTwo_off (m o m2 o2 y : Int) (w : World) (h1 : bladesB m o = true) (h2 : bladesB m2 o2 = true) (h4 : inB y 0 999 = false) :
    Calls Try.prog 37 #[fr m o, fr m2 o2, .int .i64 y] w fun e w' => e = .returned (.tuple #[.int .i64 0, .int .i64 2]) ∧ Below w.heap.size w w' := by
  go_enter Try.func37, Try.ntmps37
  go_wp2_with fail
  refine (l09Ok_any _ m o _ (by refine ⟨?_, ?_, ?_, ?_, ?_⟩ <;> go_simp)).mono ?_
  rintro e u ⟨rfl, nd1, rfl⟩
  go_wp2_with fail
  refine (l09Ok_any _ m2 o2 _ (by refine ⟨?_, ?_, ?_, ?_, ?_⟩ <;> go_simp)).mono ?_
  rintro e u ⟨rfl, nd2, rfl⟩
  go_wp2_with fail
  refine (l00In_any _ _ _ _).mono ?_
  rintro e u ⟨rfl, rfl⟩
  go_wp2_with fail
  go_ret2
  refine ⟨rfl, ?_⟩
  repeat (first | exact Below.refl _ _ | refine bSet ?_ (by first | (simp; done) | (simp; omega)) _ | refine bAlloc ?_ _ | refine Below.drew ?_ | refine bDrewN ?_ _)

theorem implBest_bad1 (m o m2 o2 : Int) (w : World) (h1 : bladesB m o = false) :
    Calls Try.prog 47 #[fr m o, fr m2 o2] w fun e w' => e = .returned (.tuple #[.int .i64 0, .int .i64 0, .int .i64 1]) ∧ Below w.heap.size w w' := by
  go_enter Try.func47, Try.ntmps47
  go_wp2_with fail
  refine (validBlades_any m o _).mono ?_
  rintro e u1 ⟨rfl, hb1⟩
  have Q0 : Bk u1 (w.heap.size) m o := by exact bkOf hb1 (by refine ⟨?_, ?_, ?_, ?_, ?_⟩ <;> go_simp)
  have Q1 : Bk u1 (w.heap.size + 1) m2 o2 := by exact bkOf hb1 (by refine ⟨?_, ?_, ?_, ?_, ?_⟩ <;> go_simp)
  have P0 := Q0
  obtain ⟨a0, b0, f0, g0, z0⟩ := Q0
  have P1 := Q1
  obtain ⟨a1, b1, f1, g1, z1⟩ := Q1
  go_wp2_with fail
  go_ret3
  refine ⟨rfl, ?_⟩
  repeat (first | exact Below.refl _ _ | refine bSet ?_ (by first | (simp; done) | (simp; omega)) _ | refine bAlloc ?_ _ | refine Below.drew ?_ | refine bDrewN ?_ _ | refine bTrans ?_ hb1)

theorem implBest_bad2 (m o m2 o2 : Int) (w : World) (h1 : bladesB m o = true) (h2 : bladesB m2 o2 = false) :
    Calls Try.prog 47 #[fr m o, fr m2 o2] w fun e w' => e = .returned (.tuple #[.int .i64 0, .int .i64 0, .int .i64 1]) ∧ Below w.heap.size w w' := by
  go_enter Try.func47, Try.ntmps47
  go_wp2_with fail
  refine (validBlades_any m o _).mono ?_
  rintro e u1 ⟨rfl, hb1⟩
  have Q0 : Bk u1 (w.heap.size) m o := by exact bkOf hb1 (by refine ⟨?_, ?_, ?_, ?_, ?_⟩ <;> go_simp)
  have Q1 : Bk u1 (w.heap.size + 1) m2 o2 := by exact bkOf hb1 (by refine ⟨?_, ?_, ?_, ?_, ?_⟩ <;> go_simp)
  have P0 := Q0
  obtain ⟨a0, b0, f0, g0, z0⟩ := Q0
  have P1 := Q1
  obtain ⟨a1, b1, f1, g1, z1⟩ := Q1
  go_wp2_with fail
  refine (validBlades_any m2 o2 _).mono ?_
  rintro e u2 ⟨rfl, hb2⟩
  have Q0 : Bk u2 (w.heap.size) m o := bkOf hb2 P0
  have Q1 : Bk u2 (w.heap.size + 1) m2 o2 := bkOf hb2 P1
  clear P0 a0 b0 f0 g0 z0 P1 a1 b1 f1 g1 z1
  have P0 := Q0
  obtain ⟨a0, b0, f0, g0, z0⟩ := Q0
  have P1 := Q1
  obtain ⟨a1, b1, f1, g1, z1⟩ := Q1
  go_wp2_with fail
  go_ret3
  refine ⟨rfl, ?_⟩
  repeat (first | exact Below.refl _ _ | refine bSet ?_ (by first | (simp; done) | (simp; omega)) _ | refine bAlloc ?_ _ | refine Below.drew ?_ | refine bDrewN ?_ _ | refine bTrans ?_ hb2 | refine bTrans ?_ hb1)

theorem specBest_bad1 (m o m2 o2 : Int) (w : World) (h1 : bladesB m o = false) :
    Calls Try.prog 48 #[fr m o, fr m2 o2] w fun e w' => e = .returned (.tuple #[.int .i64 0, .int .i64 0, .int .i64 1]) ∧ Below w.heap.size w w' := by
  go_enter Try.func48, Try.ntmps48
  go_wp2_with fail
  refine (l09Ok_any _ m o _ (by refine ⟨?_, ?_, ?_, ?_, ?_⟩ <;> go_simp)).mono ?_
  rintro e u ⟨rfl, nd1, rfl⟩
  go_wp2_with fail
  go_ret3
  refine ⟨rfl, ?_⟩
  repeat (first | exact Below.refl _ _ | refine bSet ?_ (by first | (simp; done) | (simp; omega)) _ | refine bAlloc ?_ _ | refine Below.drew ?_ | refine bDrewN ?_ _)

theorem specBest_bad2 (m o m2 o2 : Int) (w : World) (h1 : bladesB m o = true) (h2 : bladesB m2 o2 = false) :
    Calls Try.prog 48 #[fr m o, fr m2 o2] w fun e w' => e = .returned (.tuple #[.int .i64 0, .int .i64 0, .int .i64 1]) ∧ Below w.heap.size w w' := by
  go_enter Try.func48, Try.ntmps48
  go_wp2_with fail
  refine (l09Ok_any _ m o _ (by refine ⟨?_, ?_, ?_, ?_, ?_⟩ <;> go_simp)).mono ?_
  rintro e u ⟨rfl, nd1, rfl⟩
  go_wp2_with fail
  refine (l09Ok_any _ m2 o2 _ (by refine ⟨?_, ?_, ?_, ?_, ?_⟩ <;> go_simp)).mono ?_
  rintro e u ⟨rfl, nd2, rfl⟩
  go_wp2_with fail
  go_ret3
  refine ⟨rfl, ?_⟩
  repeat (first | exact Below.refl _ _ | refine bSet ?_ (by first | (simp; done) | (simp; omega)) _ | refine bAlloc ?_ _ | refine Below.drew ?_ | refine bDrewN ?_ _)

end Go.Proofs.Ytflgjohknjgdcaa
