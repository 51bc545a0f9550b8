/- The functions on wheels with blades that reckon with fractions, in the program and in the model: the functions themselves. -/
import Derived.Test.YtflgjohknjgdcaaProg
import Derived.Test.YtflgjohknjgdcaaBld
import Derived.Test.YtflgjohknjgdcaaFull
import Derived.Test.YtflgjohknjgdcaaBldFn2
import Derived.Test.YtflgjohknjgdcaaOps
import Derived.Test.YtflgjohknjgdcaaSmall
import Derived.Laws.Cover1
import Derived.Deep.RegionWith
import Derived.Deep.DrawnRows
import Derived.Deep.RegionHeld3
import Derived.Tactics
import Derived.Tactics2
import Derived.WalkKit
import Derived.LoopTactic
import Derived.BigQuiet
import Derived.RegionTactic
import Derived.Deep.QuietTactic
import Derived.Outline
import Derived.Lib.Hide
import Derived.Below
import Derived.KernelRfl
namespace Go.Proofs.Ytflgjohknjgdcaa
set_option linter.unusedSimpArgs false
set_option linter.unusedVariables false
open Go.RowKit

theorem implSteady_bad1 (m o n d l : Int) (w : World) (h1 : bladesB m o = false) :
    Calls Try.prog 19 #[fr m o, fr n d, .int .i64 l] w fun e w' => e = .returned (.tuple #[.bool false, .int .i64 1]) ∧ Below w.heap.size w w' := by
  go_enter Try.func19, Try.ntmps19
  go_wp2_with fail
  refine (validBlades_any m o _).mono ?_
  rintro e u1 ⟨rfl, hb1⟩
  have Q0 : Bk u1 (w.heap.size) m o := by exact bkOf hb1 (by refine ⟨?_, ?_, ?_, ?_, ?_⟩ <;> go_simp)
  have Q1 : Bk u1 (w.heap.size + 1) n d := by exact bkOf hb1 (by refine ⟨?_, ?_, ?_, ?_, ?_⟩ <;> go_simp)
  have P0 := Q0
  obtain ⟨a0, b0, f0, g0, z0⟩ := Q0
  have P1 := Q1
  obtain ⟨a1, b1, f1, g1, z1⟩ := Q1
  go_wp2_with fail
  go_ret2
  refine ⟨rfl, ?_⟩
  repeat (first | exact Below.refl _ _ | refine bSet ?_ (by first | (simp; done) | (simp; omega)) _ | refine bAlloc ?_ _ | refine Below.drew ?_ | refine bDrewN ?_ _ | refine bTrans ?_ hb1)

theorem implSteady_bad2 (m o n d l : Int) (w : World) (h1 : bladesB m o = true) (h2 : okB n d = false) :
    Calls Try.prog 19 #[fr m o, fr n d, .int .i64 l] w fun e w' => e = .returned (.tuple #[.bool false, .int .i64 1]) ∧ Below w.heap.size w w' := by
  go_enter Try.func19, Try.ntmps19
  go_wp2_with fail
  refine (validBlades_any m o _).mono ?_
  rintro e u1 ⟨rfl, hb1⟩
  have Q0 : Bk u1 (w.heap.size) m o := by exact bkOf hb1 (by refine ⟨?_, ?_, ?_, ?_, ?_⟩ <;> go_simp)
  have Q1 : Bk u1 (w.heap.size + 1) n d := by exact bkOf hb1 (by refine ⟨?_, ?_, ?_, ?_, ?_⟩ <;> go_simp)
  have P0 := Q0
  obtain ⟨a0, b0, f0, g0, z0⟩ := Q0
  have P1 := Q1
  obtain ⟨a1, b1, f1, g1, z1⟩ := Q1
  go_wp2_with fail
  refine (validFraction_any _ _ _).mono ?_
  rintro e u2 ⟨rfl, hb2⟩
  have Q0 : Bk u2 (w.heap.size) m o := bkOf hb2 P0
  have Q1 : Bk u2 (w.heap.size + 1) n d := bkOf hb2 P1
  clear P0 a0 b0 f0 g0 z0 P1 a1 b1 f1 g1 z1
  have P0 := Q0
  obtain ⟨a0, b0, f0, g0, z0⟩ := Q0
  have P1 := Q1
  obtain ⟨a1, b1, f1, g1, z1⟩ := Q1
  go_wp2_with fail
  go_ret2
  refine ⟨rfl, ?_⟩
  repeat (first | exact Below.refl _ _ | refine bSet ?_ (by first | (simp; done) | (simp; omega)) _ | refine bAlloc ?_ _ | refine Below.drew ?_ | refine bDrewN ?_ _ | refine bTrans ?_ hb2 | refine bTrans ?_ hb1)

theorem implSteady_off1 (m o n d l : Int) (w : World) (h1 : bladesB m o = true) (h2 : okB n d = true) (h3 : rateB n d = false) :
    Calls Try.prog 19 #[fr m o, fr n d, .int .i64 l] w fun e w' => e = .returned (.tuple #[.bool false, .int .i64 2]) ∧ Below w.heap.size w w' := by
  go_enter Try.func19, Try.ntmps19
  go_wp2_with fail
  refine (validBlades_any m o _).mono ?_
  rintro e u1 ⟨rfl, hb1⟩
  have Q0 : Bk u1 (w.heap.size) m o := by exact bkOf hb1 (by refine ⟨?_, ?_, ?_, ?_, ?_⟩ <;> go_simp)
  have Q1 : Bk u1 (w.heap.size + 1) n d := by exact bkOf hb1 (by refine ⟨?_, ?_, ?_, ?_, ?_⟩ <;> go_simp)
  have P0 := Q0
  obtain ⟨a0, b0, f0, g0, z0⟩ := Q0
  have P1 := Q1
  obtain ⟨a1, b1, f1, g1, z1⟩ := Q1
  go_wp2_with fail
  refine (validFraction_any _ _ _).mono ?_
  rintro e u2 ⟨rfl, hb2⟩
  have Q0 : Bk u2 (w.heap.size) m o := bkOf hb2 P0
  have Q1 : Bk u2 (w.heap.size + 1) n d := bkOf hb2 P1
  clear P0 a0 b0 f0 g0 z0 P1 a1 b1 f1 g1 z1
  have P0 := Q0
  obtain ⟨a0, b0, f0, g0, z0⟩ := Q0
  have P1 := Q1
  obtain ⟨a1, b1, f1, g1, z1⟩ := Q1
  go_wp2_with fail
  refine (wheelRate_any _ _ _).mono ?_
  rintro e u3 ⟨rfl, hb3⟩
  have Q0 : Bk u3 (w.heap.size) m o := bkOf hb3 P0
  have Q1 : Bk u3 (w.heap.size + 1) n d := bkOf hb3 P1
  clear P0 a0 b0 f0 g0 z0 P1 a1 b1 f1 g1 z1
  have P0 := Q0
  obtain ⟨a0, b0, f0, g0, z0⟩ := Q0
  have P1 := Q1
  obtain ⟨a1, b1, f1, g1, z1⟩ := Q1
  go_wp2_with fail
  go_ret2
  refine ⟨rfl, ?_⟩
  repeat (first | exact Below.refl _ _ | refine bSet ?_ (by first | (simp; done) | (simp; omega)) _ | refine bAlloc ?_ _ | refine Below.drew ?_ | refine bDrewN ?_ _ | refine bTrans ?_ hb3 | refine bTrans ?_ hb2 | refine bTrans ?_ hb1)

theorem implSteady_off2 (m o n d l : Int) (w : World) (h1 : bladesB m o = true) (h2 : okB n d = true) (h3 : rateB n d = true) (h4 : inB l 1 200 = false) :
    Calls Try.prog 19 #[fr m o, fr n d, .int .i64 l] w fun e w' => e = .returned (.tuple #[.bool false, .int .i64 2]) ∧ Below w.heap.size w w' := by
  go_enter Try.func19, Try.ntmps19
  go_wp2_with fail
  refine (validBlades_any m o _).mono ?_
  rintro e u1 ⟨rfl, hb1⟩
  have Q0 : Bk u1 (w.heap.size) m o := by exact bkOf hb1 (by refine ⟨?_, ?_, ?_, ?_, ?_⟩ <;> go_simp)
  have Q1 : Bk u1 (w.heap.size + 1) n d := by exact bkOf hb1 (by refine ⟨?_, ?_, ?_, ?_, ?_⟩ <;> go_simp)
  have P0 := Q0
  obtain ⟨a0, b0, f0, g0, z0⟩ := Q0
  have P1 := Q1
  obtain ⟨a1, b1, f1, g1, z1⟩ := Q1
  go_wp2_with fail
  refine (validFraction_any _ _ _).mono ?_
  rintro e u2 ⟨rfl, hb2⟩
  have Q0 : Bk u2 (w.heap.size) m o := bkOf hb2 P0
  have Q1 : Bk u2 (w.heap.size + 1) n d := bkOf hb2 P1
  clear P0 a0 b0 f0 g0 z0 P1 a1 b1 f1 g1 z1
  have P0 := Q0
  obtain ⟨a0, b0, f0, g0, z0⟩ := Q0
  have P1 := Q1
  obtain ⟨a1, b1, f1, g1, z1⟩ := Q1
  go_wp2_with fail
  refine (wheelRate_any _ _ _).mono ?_
  rintro e u3 ⟨rfl, hb3⟩
  have Q0 : Bk u3 (w.heap.size) m o := bkOf hb3 P0
  have Q1 : Bk u3 (w.heap.size + 1) n d := bkOf hb3 P1
  clear P0 a0 b0 f0 g0 z0 P1 a1 b1 f1 g1 z1
  have P0 := Q0
  obtain ⟨a0, b0, f0, g0, z0⟩ := Q0
  have P1 := Q1
  obtain ⟨a1, b1, f1, g1, z1⟩ := Q1
  go_wp2_with fail
  refine (isLeast_any _ _).mono ?_
  rintro e u ⟨rfl, rfl⟩
  go_wp2_with fail
  go_ret2
  refine ⟨rfl, ?_⟩
  repeat (first | exact Below.refl _ _ | refine bSet ?_ (by first | (simp; done) | (simp; omega)) _ | refine bAlloc ?_ _ | refine Below.drew ?_ | refine bDrewN ?_ _ | refine bTrans ?_ hb3 | refine bTrans ?_ hb2 | refine bTrans ?_ hb1)

theorem implSteady_yes (m o n d l : Int) (w : World) (h1 : bladesB m o = true) (h2 : okB n d = true) (h3 : rateB n d = true) (h4 : inB l 1 200 = true) :
    Calls Try.prog 19 #[fr m o, fr n d, .int .i64 l] w fun e w' => e = .returned (.tuple #[.bool (decide (n * m ≥ l * d)), .int .i64 0]) ∧ Below w.heap.size w w' := by
  obtain ⟨l1, l2⟩ := inB_iff.1 h4
  have lb := rateB_bd h3
  obtain ⟨M, S, G, W⟩ := Wh.of h1
  obtain ⟨s1, s2, s3, s4, m1, m2, o1, o2, m0⟩ := W.sb
  go_enter Try.func19, Try.ntmps19
  go_wp2_with fail
  refine (validBlades_any m o _).mono ?_
  rintro e u1 ⟨rfl, hb1⟩
  have Q0 : Bk u1 (w.heap.size) m o := by exact bkOf hb1 (by refine ⟨?_, ?_, ?_, ?_, ?_⟩ <;> go_simp)
  have Q1 : Bk u1 (w.heap.size + 1) n d := by exact bkOf hb1 (by refine ⟨?_, ?_, ?_, ?_, ?_⟩ <;> go_simp)
  have P0 := Q0
  obtain ⟨a0, b0, f0, g0, z0⟩ := Q0
  have P1 := Q1
  obtain ⟨a1, b1, f1, g1, z1⟩ := Q1
  go_wp2_with fail
  refine (validFraction_any _ _ _).mono ?_
  rintro e u2 ⟨rfl, hb2⟩
  have Q0 : Bk u2 (w.heap.size) m o := bkOf hb2 P0
  have Q1 : Bk u2 (w.heap.size + 1) n d := bkOf hb2 P1
  clear P0 a0 b0 f0 g0 z0 P1 a1 b1 f1 g1 z1
  have P0 := Q0
  obtain ⟨a0, b0, f0, g0, z0⟩ := Q0
  have P1 := Q1
  obtain ⟨a1, b1, f1, g1, z1⟩ := Q1
  go_wp2_with fail
  refine (wheelRate_any _ _ _).mono ?_
  rintro e u3 ⟨rfl, hb3⟩
  have Q0 : Bk u3 (w.heap.size) m o := bkOf hb3 P0
  have Q1 : Bk u3 (w.heap.size + 1) n d := bkOf hb3 P1
  clear P0 a0 b0 f0 g0 z0 P1 a1 b1 f1 g1 z1
  have P0 := Q0
  obtain ⟨a0, b0, f0, g0, z0⟩ := Q0
  have P1 := Q1
  obtain ⟨a1, b1, f1, g1, z1⟩ := Q1
  go_wp2_with fail
  refine (isLeast_any _ _).mono ?_
  rintro e u ⟨rfl, rfl⟩
  go_wp2_with fail
  refine (isSteady_any m n d l _ h3 (by omega) (by omega)).mono ?_
  rintro e u4 ⟨rfl, hb4⟩
  have Q0 : Bk u4 (w.heap.size) m o := bkOf hb4 P0
  have Q1 : Bk u4 (w.heap.size + 1) n d := bkOf hb4 P1
  clear P0 a0 b0 f0 g0 z0 P1 a1 b1 f1 g1 z1
  have P0 := Q0
  obtain ⟨a0, b0, f0, g0, z0⟩ := Q0
  have P1 := Q1
  obtain ⟨a1, b1, f1, g1, z1⟩ := Q1
  go_wp2_with fail
  go_ret2
  refine ⟨rfl, ?_⟩
  repeat (first | exact Below.refl _ _ | refine bSet ?_ (by first | (simp; done) | (simp; omega)) _ | refine bAlloc ?_ _ | refine Below.drew ?_ | refine bDrewN ?_ _ | refine bTrans ?_ hb4 | refine bTrans ?_ hb3 | refine bTrans ?_ hb2 | refine bTrans ?_ hb1)

theorem specSteady_bad (m o n d l : Int) (w : World) (hn : I64 n) (h : (bladesB m o && okB n d) = false) :
    Calls Try.prog 20 #[fr m o, fr n d, .int .i64 l] w fun e w' => e = .returned (.tuple #[.bool false, .int .i64 1]) ∧ Below w.heap.size w w' := by
  have C := Lib.hid (fun b w (B : Bk w b m o) => l09Code_any b m o n d w hn B)
  rw [code9_bad h] at C
  go_enter Try.func20, Try.ntmps20
  go_wp2_with fail
  refine (C.out _ _ (by refine ⟨?_, ?_, ?_, ?_, ?_⟩ <;> go_simp)).mono ?_
  rintro e u1 ⟨rfl, hb1⟩
  have Q0 : Bk u1 (w.heap.size) m o := by exact bkOf hb1 (by refine ⟨?_, ?_, ?_, ?_, ?_⟩ <;> go_simp)
  have Q1 : Bk u1 (w.heap.size + 1) n d := by exact bkOf hb1 (by refine ⟨?_, ?_, ?_, ?_, ?_⟩ <;> go_simp)
  have P0 := Q0
  obtain ⟨a0, b0, f0, g0, z0⟩ := Q0
  have P1 := Q1
  obtain ⟨a1, b1, f1, g1, z1⟩ := Q1
  go_wp2_with fail
  go_ret2
  refine ⟨rfl, ?_⟩
  repeat (first | exact Below.refl _ _ | refine bSet ?_ (by first | (simp; done) | (simp; omega)) _ | refine bAlloc ?_ _ | refine Below.drew ?_ | refine bDrewN ?_ _ | refine bTrans ?_ hb1)

theorem specSteady_off1 (m o n d l : Int) (w : World) (hn : I64 n) (h : (bladesB m o && okB n d) = true) (h3 : (rateB n d && true) = false) :
    Calls Try.prog 20 #[fr m o, fr n d, .int .i64 l] w fun e w' => e = .returned (.tuple #[.bool false, .int .i64 2]) ∧ Below w.heap.size w w' := by
  have C := Lib.hid (fun b w (B : Bk w b m o) => l09Code_any b m o n d w hn B)
  rw [code9_off h h3] at C
  go_enter Try.func20, Try.ntmps20
  go_wp2_with fail
  refine (C.out _ _ (by refine ⟨?_, ?_, ?_, ?_, ?_⟩ <;> go_simp)).mono ?_
  rintro e u1 ⟨rfl, hb1⟩
  have Q0 : Bk u1 (w.heap.size) m o := by exact bkOf hb1 (by refine ⟨?_, ?_, ?_, ?_, ?_⟩ <;> go_simp)
  have Q1 : Bk u1 (w.heap.size + 1) n d := by exact bkOf hb1 (by refine ⟨?_, ?_, ?_, ?_, ?_⟩ <;> go_simp)
  have P0 := Q0
  obtain ⟨a0, b0, f0, g0, z0⟩ := Q0
  have P1 := Q1
  obtain ⟨a1, b1, f1, g1, z1⟩ := Q1
  go_wp2_with fail
  go_ret2
  refine ⟨rfl, ?_⟩
  repeat (first | exact Below.refl _ _ | refine bSet ?_ (by first | (simp; done) | (simp; omega)) _ | refine bAlloc ?_ _ | refine Below.drew ?_ | refine bDrewN ?_ _ | refine bTrans ?_ hb1)

theorem specSteady_off2 (m o n d l : Int) (w : World) (hn : I64 n) (h : (bladesB m o && okB n d) = true) (h3 : (rateB n d && true) = true) (h4 : inB l 1 200 = false) :
    Calls Try.prog 20 #[fr m o, fr n d, .int .i64 l] w fun e w' => e = .returned (.tuple #[.bool false, .int .i64 2]) ∧ Below w.heap.size w w' := by
  have C := Lib.hid (fun b w (B : Bk w b m o) => l09Code_any b m o n d w hn B)
  rw [code9_yes h h3] at C
  go_enter Try.func20, Try.ntmps20
  go_wp2_with fail
  refine (C.out _ _ (by refine ⟨?_, ?_, ?_, ?_, ?_⟩ <;> go_simp)).mono ?_
  rintro e u1 ⟨rfl, hb1⟩
  have Q0 : Bk u1 (w.heap.size) m o := by exact bkOf hb1 (by refine ⟨?_, ?_, ?_, ?_, ?_⟩ <;> go_simp)
  have Q1 : Bk u1 (w.heap.size + 1) n d := by exact bkOf hb1 (by refine ⟨?_, ?_, ?_, ?_, ?_⟩ <;> go_simp)
  have P0 := Q0
  obtain ⟨a0, b0, f0, g0, z0⟩ := Q0
  have P1 := Q1
  obtain ⟨a1, b1, f1, g1, z1⟩ := Q1
  go_wp2_with fail
  refine (l09Least_any _ _).mono ?_
  rintro e u ⟨rfl, rfl⟩
  go_wp2_with fail
  go_ret2
  refine ⟨rfl, ?_⟩
  repeat (first | exact Below.refl _ _ | refine bSet ?_ (by first | (simp; done) | (simp; omega)) _ | refine bAlloc ?_ _ | refine Below.drew ?_ | refine bDrewN ?_ _ | refine bTrans ?_ hb1)

theorem specSteady_yes (m o n d l : Int) (w : World) (hn : I64 n) (h1 : bladesB m o = true) (h2 : okB n d = true) (h3 : rateB n d = true) (h4 : inB l 1 200 = true) :
    Calls Try.prog 20 #[fr m o, fr n d, .int .i64 l] w fun e w' => e = .returned (.tuple #[.bool (decide (n * m ≥ l * d)), .int .i64 0]) ∧ Below w.heap.size w w' := by
  obtain ⟨l1, l2⟩ := inB_iff.1 h4
  have lb := rateB_bd h3
  obtain ⟨M, S, G, W⟩ := Wh.of h1
  obtain ⟨s1, s2, s3, s4, m1, m2, o1, o2, m0⟩ := W.sb
  have nm := mulBd (x := n) (y := m) 1000 12 (by omega) (by omega) (by omega) (by omega)
  have ld := mulBd (x := l) (y := d) 200 1000 (by omega) (by omega) (by omega) (by omega)
  have C := Lib.hid (fun b w (B : Bk w b m o) => l09Code_any b m o n d w hn B)
  rw [code9_yes (by simp [h1, h2]) (by simp [h3])] at C
  go_enter Try.func20, Try.ntmps20
  go_wp2_with fail
  refine (C.out _ _ (by refine ⟨?_, ?_, ?_, ?_, ?_⟩ <;> go_simp)).mono ?_
  rintro e u1 ⟨rfl, hb1⟩
  have Q0 : Bk u1 (w.heap.size) m o := by exact bkOf hb1 (by refine ⟨?_, ?_, ?_, ?_, ?_⟩ <;> go_simp)
  have Q1 : Bk u1 (w.heap.size + 1) n d := by exact bkOf hb1 (by refine ⟨?_, ?_, ?_, ?_, ?_⟩ <;> go_simp)
  have P0 := Q0
  obtain ⟨a0, b0, f0, g0, z0⟩ := Q0
  have P1 := Q1
  obtain ⟨a1, b1, f1, g1, z1⟩ := Q1
  go_wp2_with fail
  refine (l09Least_any _ _).mono ?_
  rintro e u ⟨rfl, rfl⟩
  go_wp2_with fail
  go_ret2
  refine ⟨rfl, ?_⟩
  repeat (first | exact Below.refl _ _ | refine bSet ?_ (by first | (simp; done) | (simp; omega)) _ | refine bAlloc ?_ _ | refine Below.drew ?_ | refine bDrewN ?_ _ | refine bTrans ?_ hb1)

theorem implSlow_bad (m o l : Int) (w : World) (h1 : bladesB m o = false) :
    Calls Try.prog 25 #[fr m o, .int .i64 l] w fun e w' => e = .returned (.tuple #[fr 0 0, .int .i64 1]) ∧ Below w.heap.size w w' := by
  go_enter Try.func25, Try.ntmps25
  go_wp2_with fail
  refine (validBlades_any m o _).mono ?_
  rintro e u1 ⟨rfl, hb1⟩
  have Q0 : Bk u1 (w.heap.size) m o := by exact bkOf hb1 (by refine ⟨?_, ?_, ?_, ?_, ?_⟩ <;> go_simp)
  have Q1 : Bk u1 (w.heap.size + 1) 0 0 := by exact bkOf hb1 (by refine ⟨?_, ?_, ?_, ?_, ?_⟩ <;> go_simp)
  have P0 := Q0
  obtain ⟨a0, b0, f0, g0, z0⟩ := Q0
  have P1 := Q1
  obtain ⟨a1, b1, f1, g1, z1⟩ := Q1
  go_wp2_with fail
  refine bodyPost_ret (v := _) (by simp [results, Try.results25, go_sem, a0, b0, a1, b1, z0, Nat.ne_of_lt z0, z1, Nat.ne_of_lt z1]) rfl ⟨rfl, ?_⟩
  repeat (first | exact Below.refl _ _ | refine bSet ?_ (by first | (simp; done) | (simp; omega)) _ | refine bAlloc ?_ _ | refine Below.drew ?_ | refine bDrewN ?_ _ | refine bTrans ?_ hb1)

theorem implSlow_off (m o l : Int) (w : World) (h1 : bladesB m o = true) (h4 : inB l 1 200 = false) :
    Calls Try.prog 25 #[fr m o, .int .i64 l] w fun e w' => e = .returned (.tuple #[fr 0 0, .int .i64 2]) ∧ Below w.heap.size w w' := by
  go_enter Try.func25, Try.ntmps25
  go_wp2_with fail
  refine (validBlades_any m o _).mono ?_
  rintro e u1 ⟨rfl, hb1⟩
  have Q0 : Bk u1 (w.heap.size) m o := by exact bkOf hb1 (by refine ⟨?_, ?_, ?_, ?_, ?_⟩ <;> go_simp)
  have Q1 : Bk u1 (w.heap.size + 1) 0 0 := by exact bkOf hb1 (by refine ⟨?_, ?_, ?_, ?_, ?_⟩ <;> go_simp)
  have P0 := Q0
  obtain ⟨a0, b0, f0, g0, z0⟩ := Q0
  have P1 := Q1
  obtain ⟨a1, b1, f1, g1, z1⟩ := Q1
  go_wp2_with fail
  refine (isLeast_any _ _).mono ?_
  rintro e u ⟨rfl, rfl⟩
  go_wp2_with fail
  refine bodyPost_ret (v := _) (by simp [results, Try.results25, go_sem, a0, b0, a1, b1, z0, Nat.ne_of_lt z0, z1, Nat.ne_of_lt z1]) rfl ⟨rfl, ?_⟩
  repeat (first | exact Below.refl _ _ | refine bSet ?_ (by first | (simp; done) | (simp; omega)) _ | refine bAlloc ?_ _ | refine Below.drew ?_ | refine bDrewN ?_ _ | refine bTrans ?_ hb1)

theorem implSlow_yes (m o l : Int) (w : World) (h1 : bladesB m o = true) (h4 : inB l 1 200 = true) :
    Calls Try.prog 25 #[fr m o, .int .i64 l] w fun e w' => e = .returned (.tuple #[(fr ((l).tdiv (divI (l) (m))) ((m).tdiv (divI (l) (m)))), .int .i64 0]) ∧ Below w.heap.size w w' := by
  obtain ⟨l1, l2⟩ := inB_iff.1 h4
  obtain ⟨M, S, G, W⟩ := Wh.of h1
  obtain ⟨s1, s2, s3, s4, m1, m2, o1, o2, m0⟩ := W.sb
  go_enter Try.func25, Try.ntmps25
  go_wp2_with fail
  refine (validBlades_any m o _).mono ?_
  rintro e u1 ⟨rfl, hb1⟩
  have Q0 : Bk u1 (w.heap.size) m o := by exact bkOf hb1 (by refine ⟨?_, ?_, ?_, ?_, ?_⟩ <;> go_simp)
  have Q1 : Bk u1 (w.heap.size + 1) 0 0 := by exact bkOf hb1 (by refine ⟨?_, ?_, ?_, ?_, ?_⟩ <;> go_simp)
  have P0 := Q0
  obtain ⟨a0, b0, f0, g0, z0⟩ := Q0
  have P1 := Q1
  obtain ⟨a1, b1, f1, g1, z1⟩ := Q1
  go_wp2_with fail
  refine (isLeast_any _ _).mono ?_
  rintro e u ⟨rfl, rfl⟩
  go_wp2_with fail
  refine (lowest_any l m _ (by omega) (by omega) (by omega) (by omega) (by omega)).mono ?_
  rintro e u2 ⟨rfl, hb2⟩
  have Q0 : Bk u2 (w.heap.size) m o := bkOf hb2 P0
  have Q1 : Bk u2 (w.heap.size + 1) 0 0 := bkOf hb2 P1
  clear P0 a0 b0 f0 g0 z0 P1 a1 b1 f1 g1 z1
  have P0 := Q0
  obtain ⟨a0, b0, f0, g0, z0⟩ := Q0
  have P1 := Q1
  obtain ⟨a1, b1, f1, g1, z1⟩ := Q1
  go_wp2_with fail
  refine bodyPost_ret (v := _) (by simp [results, Try.results25, go_sem, a0, b0, a1, b1, z0, Nat.ne_of_lt z0, z1, Nat.ne_of_lt z1]) rfl ⟨rfl, ?_⟩
  repeat (first | exact Below.refl _ _ | refine bSet ?_ (by first | (simp; done) | (simp; omega)) _ | refine bAlloc ?_ _ | refine Below.drew ?_ | refine bDrewN ?_ _ | refine bTrans ?_ hb2 | refine bTrans ?_ hb1)

theorem specSlow_bad (m o l : Int) (w : World) (h1 : bladesB m o = false) :
    Calls Try.prog 26 #[fr m o, .int .i64 l] w fun e w' => e = .returned (.tuple #[fr 0 0, .int .i64 1]) ∧ Below w.heap.size w w' := by
  go_enter Try.func26, Try.ntmps26
  go_wp2_with fail
  refine (l09Ok_any _ m o _ (by refine ⟨?_, ?_, ?_, ?_, ?_⟩ <;> go_simp)).mono ?_
  rintro e u ⟨rfl, nd1, rfl⟩
  go_wp2_with fail
  refine bodyPost_ret (v := _) (by simp [results, Try.results26, go_sem]) rfl ⟨rfl, ?_⟩
  repeat (first | exact Below.refl _ _ | refine bSet ?_ (by first | (simp; done) | (simp; omega)) _ | refine bAlloc ?_ _ | refine Below.drew ?_ | refine bDrewN ?_ _)

theorem specSlow_off (m o l : Int) (w : World) (h1 : bladesB m o = true) (h4 : inB l 1 200 = false) :
    Calls Try.prog 26 #[fr m o, .int .i64 l] w fun e w' => e = .returned (.tuple #[fr 0 0, .int .i64 2]) ∧ Below w.heap.size w w' := by
  go_enter Try.func26, Try.ntmps26
  go_wp2_with fail
  refine (l09Ok_any _ m o _ (by refine ⟨?_, ?_, ?_, ?_, ?_⟩ <;> go_simp)).mono ?_
  rintro e u ⟨rfl, nd1, rfl⟩
  go_wp2_with fail
  refine (l09Least_any _ _).mono ?_
  rintro e u ⟨rfl, rfl⟩
  go_wp2_with fail
  refine bodyPost_ret (v := _) (by simp [results, Try.results26, go_sem]) rfl ⟨rfl, ?_⟩
  repeat (first | exact Below.refl _ _ | refine bSet ?_ (by first | (simp; done) | (simp; omega)) _ | refine bAlloc ?_ _ | refine Below.drew ?_ | refine bDrewN ?_ _)

theorem specSlow_yes (m o l : Int) (w : World) (h1 : bladesB m o = true) (h4 : inB l 1 200 = true) :
    Calls Try.prog 26 #[fr m o, .int .i64 l] w fun e w' => e = .returned (.tuple #[(fr ((l).tdiv (divI (l) (m))) ((m).tdiv (divI (l) (m)))), .int .i64 0]) ∧ Below w.heap.size w w' := by
  obtain ⟨l1, l2⟩ := inB_iff.1 h4
  obtain ⟨M, S, G, W⟩ := Wh.of h1
  obtain ⟨s1, s2, s3, s4, m1, m2, o1, o2, m0⟩ := W.sb
  go_enter Try.func26, Try.ntmps26
  go_wp2_with fail
  refine (l09Ok_any _ m o _ (by refine ⟨?_, ?_, ?_, ?_, ?_⟩ <;> go_simp)).mono ?_
  rintro e u ⟨rfl, nd1, rfl⟩
  go_wp2_with fail
  refine (l09Least_any _ _).mono ?_
  rintro e u ⟨rfl, rfl⟩
  go_wp2_with fail
  refine (l02Make_any l m _ (by omega) (by omega) (by omega) (by omega)).mono ?_
  rintro e u2 ⟨rfl, hb2⟩
  have Q0 : Bk u2 (w.heap.size) m o := by exact bkOf hb2 (by refine ⟨?_, ?_, ?_, ?_, ?_⟩ <;> go_simp)
  have Q1 : Bk u2 (w.heap.size + 1) 0 0 := by exact bkOf hb2 (by refine ⟨?_, ?_, ?_, ?_, ?_⟩ <;> go_simp)
  have P0 := Q0
  obtain ⟨a0, b0, f0, g0, z0⟩ := Q0
  have P1 := Q1
  obtain ⟨a1, b1, f1, g1, z1⟩ := Q1
  go_wp2_with fail
  refine bodyPost_ret (v := _) (by simp [results, Try.results26, go_sem, a0, b0, a1, b1, z0, Nat.ne_of_lt z0, z1, Nat.ne_of_lt z1]) rfl ⟨rfl, ?_⟩
  repeat (first | exact Below.refl _ _ | refine bSet ?_ (by first | (simp; done) | (simp; omega)) _ | refine bAlloc ?_ _ | refine Below.drew ?_ | refine bDrewN ?_ _ | refine bTrans ?_ hb2)

theorem implLit_bad (m o : Int) (w : World) (h1 : bladesB m o = false) :
    Calls Try.prog 39 #[fr m o] w fun e w' => e = .returned (.tuple #[fr 0 0, .int .i64 1]) ∧ Below w.heap.size w w' := by
  go_enter Try.func39, Try.ntmps39
  go_wp2_with fail
  refine (validBlades_any m o _).mono ?_
  rintro e u1 ⟨rfl, hb1⟩
  have Q0 : Bk u1 (w.heap.size) m o := by exact bkOf hb1 (by refine ⟨?_, ?_, ?_, ?_, ?_⟩ <;> go_simp)
  have Q1 : Bk u1 (w.heap.size + 1) 0 0 := by exact bkOf hb1 (by refine ⟨?_, ?_, ?_, ?_, ?_⟩ <;> go_simp)
  have P0 := Q0
  obtain ⟨a0, b0, f0, g0, z0⟩ := Q0
  have P1 := Q1
  obtain ⟨a1, b1, f1, g1, z1⟩ := Q1
  go_wp2_with fail
  refine bodyPost_ret (v := _) (by simp [results, Try.results39, go_sem, a0, b0, a1, b1, z0, Nat.ne_of_lt z0, z1, Nat.ne_of_lt z1]) rfl ⟨rfl, ?_⟩
  repeat (first | exact Below.refl _ _ | refine bSet ?_ (by first | (simp; done) | (simp; omega)) _ | refine bAlloc ?_ _ | refine Below.drew ?_ | refine bDrewN ?_ _ | refine bTrans ?_ hb1)

theorem implLit_yes (m o : Int) (w : World) (h1 : bladesB m o = true) :
    Calls Try.prog 39 #[fr m o] w fun e w' => e = .returned (.tuple #[(fr ((o).tdiv (divI (o) ((1000 : Int)))) (((1000 : Int)).tdiv (divI (o) ((1000 : Int))))), .int .i64 0]) ∧ Below w.heap.size w w' := by
  obtain ⟨M, S, G, W⟩ := Wh.of h1
  obtain ⟨s1, s2, s3, s4, m1, m2, o1, o2, m0⟩ := W.sb
  go_enter Try.func39, Try.ntmps39
  go_wp2_with fail
  refine (validBlades_any m o _).mono ?_
  rintro e u1 ⟨rfl, hb1⟩
  have Q0 : Bk u1 (w.heap.size) m o := by exact bkOf hb1 (by refine ⟨?_, ?_, ?_, ?_, ?_⟩ <;> go_simp)
  have Q1 : Bk u1 (w.heap.size + 1) 0 0 := by exact bkOf hb1 (by refine ⟨?_, ?_, ?_, ?_, ?_⟩ <;> go_simp)
  have P0 := Q0
  obtain ⟨a0, b0, f0, g0, z0⟩ := Q0
  have P1 := Q1
  obtain ⟨a1, b1, f1, g1, z1⟩ := Q1
  go_wp2_with fail
  refine (lowest_any o 1000 _ (by omega) (by omega) (by omega) (by omega) (by omega)).mono ?_
  rintro e u2 ⟨rfl, hb2⟩
  have Q0 : Bk u2 (w.heap.size) m o := bkOf hb2 P0
  have Q1 : Bk u2 (w.heap.size + 1) 0 0 := bkOf hb2 P1
  clear P0 a0 b0 f0 g0 z0 P1 a1 b1 f1 g1 z1
  have P0 := Q0
  obtain ⟨a0, b0, f0, g0, z0⟩ := Q0
  have P1 := Q1
  obtain ⟨a1, b1, f1, g1, z1⟩ := Q1
  go_wp2_with fail
  refine bodyPost_ret (v := _) (by simp [results, Try.results39, go_sem, a0, b0, a1, b1, z0, Nat.ne_of_lt z0, z1, Nat.ne_of_lt z1]) rfl ⟨rfl, ?_⟩
  repeat (first | exact Below.refl _ _ | refine bSet ?_ (by first | (simp; done) | (simp; omega)) _ | refine bAlloc ?_ _ | refine Below.drew ?_ | refine bDrewN ?_ _ | refine bTrans ?_ hb2 | refine bTrans ?_ hb1)

theorem specLit_bad (m o : Int) (w : World) (h1 : bladesB m o = false) :
    Calls Try.prog 40 #[fr m o] w fun e w' => e = .returned (.tuple #[fr 0 0, .int .i64 1]) ∧ Below w.heap.size w w' := by
  go_enter Try.func40, Try.ntmps40
  go_wp2_with fail
  refine (l09Ok_any _ m o _ (by refine ⟨?_, ?_, ?_, ?_, ?_⟩ <;> go_simp)).mono ?_
  rintro e u ⟨rfl, nd1, rfl⟩
  go_wp2_with fail
  refine bodyPost_ret (v := _) (by simp [results, Try.results40, go_sem]) rfl ⟨rfl, ?_⟩
  repeat (first | exact Below.refl _ _ | refine bSet ?_ (by first | (simp; done) | (simp; omega)) _ | refine bAlloc ?_ _ | refine Below.drew ?_ | refine bDrewN ?_ _)

theorem specLit_yes (m o : Int) (w : World) (h1 : bladesB m o = true) :
    Calls Try.prog 40 #[fr m o] w fun e w' => e = .returned (.tuple #[(fr ((o).tdiv (divI (o) ((1000 : Int)))) (((1000 : Int)).tdiv (divI (o) ((1000 : Int))))), .int .i64 0]) ∧ Below w.heap.size w w' := by
  obtain ⟨M, S, G, W⟩ := Wh.of h1
  obtain ⟨s1, s2, s3, s4, m1, m2, o1, o2, m0⟩ := W.sb
  go_enter Try.func40, Try.ntmps40
  go_wp2_with fail
  refine (l09Ok_any _ m o _ (by refine ⟨?_, ?_, ?_, ?_, ?_⟩ <;> go_simp)).mono ?_
  rintro e u ⟨rfl, nd1, rfl⟩
  go_wp2_with fail
  refine (l02Make_any o 1000 _ (by omega) (by omega) (by omega) (by omega)).mono ?_
  rintro e u2 ⟨rfl, hb2⟩
  have Q0 : Bk u2 (w.heap.size) m o := by exact bkOf hb2 (by refine ⟨?_, ?_, ?_, ?_, ?_⟩ <;> go_simp)
  have Q1 : Bk u2 (w.heap.size + 1) 0 0 := by exact bkOf hb2 (by refine ⟨?_, ?_, ?_, ?_, ?_⟩ <;> go_simp)
  have P0 := Q0
  obtain ⟨a0, b0, f0, g0, z0⟩ := Q0
  have P1 := Q1
  obtain ⟨a1, b1, f1, g1, z1⟩ := Q1
  go_wp2_with fail
  refine bodyPost_ret (v := _) (by simp [results, Try.results40, go_sem, a0, b0, a1, b1, z0, Nat.ne_of_lt z0, z1, Nat.ne_of_lt z1]) rfl ⟨rfl, ?_⟩
  repeat (first | exact Below.refl _ _ | refine bSet ?_ (by first | (simp; done) | (simp; omega)) _ | refine bAlloc ?_ _ | refine Below.drew ?_ | refine bDrewN ?_ _ | refine bTrans ?_ hb2)

end Go.Proofs.Ytflgjohknjgdcaa
