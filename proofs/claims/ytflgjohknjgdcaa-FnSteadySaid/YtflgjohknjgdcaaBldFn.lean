/- The functions on wheels with blades that reckon with fractions, in the program and in the model. -/
import Derived.Test.YtflgjohknjgdcaaProg
import Derived.Test.YtflgjohknjgdcaaBld
import Derived.Test.YtflgjohknjgdcaaFull
import Derived.Test.YtflgjohknjgdcaaSmall
import Derived.Laws.Cover1
import Derived.Deep.RegionWith
import Derived.Deep.DrawnRows
import Derived.Deep.RegionHeld3
import Derived.Tactics
import Derived.Tactics2
import Derived.WalkKit
import Derived.LoopTactic
import Derived.BigQuiet
import Derived.RegionTactic
import Derived.Deep.QuietTactic
import Derived.Outline
import Derived.Lib.Hide
import Derived.Below
import Derived.KernelRfl
namespace Go.Proofs.Ytflgjohknjgdcaa
set_option linter.unusedSimpArgs false
set_option linter.unusedVariables false
open Go.RowKit

/-- A fraction is a rate of a wheel. -/
def rateB (n d : Int) : Bool := inB n 1 1000 && inB d 1 1000
theorem rateB_bd {n d : Int} (h : rateB n d = true) : (1 ≤ n ∧ n ≤ 1000) ∧ 1 ≤ d ∧ d ≤ 1000 := by
  simp only [rateB, Bool.and_eq_true, inB_iff] at h
  exact h
theorem mulBd {x y : Int} (a b : Int) (x0 : 0 ≤ x) (x1 : x ≤ a) (y0 : 0 ≤ y) (y1 : y ≤ b) : 0 ≤ x * y ∧ x * y ≤ a * b :=
  ⟨Int.mul_nonneg x0 y0, Int.mul_le_mul x1 y1 y0 (by omega)⟩

/-- The code of a wheel and a rate, and of whether a third thing is right. -/
def code9 (m o n d : Int) (k : Bool) : Int := if bladesB m o && okB n d then (if rateB n d && k then 0 else 2) else 1
theorem code9_bad {m o n d : Int} {k : Bool} (h : (bladesB m o && okB n d) = false) : code9 m o n d k = 1 := by simp [code9, h]
theorem code9_off {m o n d : Int} {k : Bool} (h : (bladesB m o && okB n d) = true) (h2 : (rateB n d && k) = false) : code9 m o n d k = 2 := by simp [code9, h, h2]
theorem code9_yes {m o n d : Int} {k : Bool} (h : (bladesB m o && okB n d) = true) (h2 : (rateB n d && k) = true) : code9 m o n d k = 0 := by simp [code9, h, h2]

/-- impl.isLeast. -/
theorem isLeast_any (n : Int) (w : World)  :
    Calls Try.prog 58 #[.int .i64 n] w fun e w' => e = .returned (.bool (inB n 1 200)) ∧ w = w' := by
  go_enter Try.func58, Try.ntmps58
  go_wp2_with fail
  refine (isWithin_any _ _ _ _).mono ?_
  rintro e u ⟨rfl, rfl⟩
  go_wp2_with fail
  go_ret
  refine ⟨rfl, ?_⟩
  exact rfl

/-- impl.isPart. -/
theorem isPart_any (n : Int) (w : World)  :
    Calls Try.prog 79 #[.int .i64 n] w fun e w' => e = .returned (.bool (inB n 0 999)) ∧ w = w' := by
  go_enter Try.func79, Try.ntmps79
  go_wp2_with fail
  refine (isWithin_any _ _ _ _).mono ?_
  rintro e u ⟨rfl, rfl⟩
  go_wp2_with fail
  go_ret
  refine ⟨rfl, ?_⟩
  exact rfl

/-- spec.l09Least. -/
theorem l09Least_any (n : Int) (w : World)  :
    Calls Try.prog 61 #[.int .i64 n] w fun e w' => e = .returned (.bool (inB n 1 200)) ∧ w = w' := by
  go_enter Try.func61, Try.ntmps61
  go_wp2_with fail
  refine (l00In_any _ _ _ _).mono ?_
  rintro e u ⟨rfl, rfl⟩
  go_wp2_with fail
  go_ret
  refine ⟨rfl, ?_⟩
  exact rfl

theorem wheelRate_no (n d : Int) (w : World) (h : inB n 1 1000 = false) :
    Calls Try.prog 57 #[fr n d] w fun e w' => e = .returned (.bool false) ∧ Below w.heap.size w w' := by
  go_enter Try.func57, Try.ntmps57
  go_wp2_with fail
  refine (isWithin_any _ _ _ _).mono ?_
  rintro e u ⟨rfl, rfl⟩
  go_wp2_with fail
  go_ret
  refine ⟨rfl, ?_⟩
  repeat (first | exact Below.refl _ _ | refine bSet ?_ (by first | (simp; done) | (simp; omega)) _ | refine bAlloc ?_ _ | refine Below.drew ?_ | refine bDrewN ?_ _)

theorem wheelRate_go (n d : Int) (w : World) (h : inB n 1 1000 = true) :
    Calls Try.prog 57 #[fr n d] w fun e w' => e = .returned (.bool (inB d 1 1000)) ∧ Below w.heap.size w w' := by
  go_enter Try.func57, Try.ntmps57
  go_wp2_with fail
  refine (isWithin_any _ _ _ _).mono ?_
  rintro e u ⟨rfl, rfl⟩
  go_wp2_with fail
  refine (isWithin_any _ _ _ _).mono ?_
  rintro e u ⟨rfl, rfl⟩
  go_wp2_with fail
  go_ret
  refine ⟨rfl, ?_⟩
  repeat (first | exact Below.refl _ _ | refine bSet ?_ (by first | (simp; done) | (simp; omega)) _ | refine bAlloc ?_ _ | refine Below.drew ?_ | refine bDrewN ?_ _)

/-- impl.isWheelRate. -/
theorem wheelRate_any (n d : Int) (w : World) :
    Calls Try.prog 57 #[fr n d] w fun e w' => e = .returned (.bool (rateB n d)) ∧ Below w.heap.size w w' := by
  cases h : inB n 1 1000
  · have e : rateB n d = false := by simp [rateB, h]
    rw [e]; exact wheelRate_no n d w h
  · have e : rateB n d = inB d 1 1000 := by simp [rateB, h]
    rw [e]; exact wheelRate_go n d w h

theorem l09Rate_bad (n d : Int) (w : World) (hn : I64 n) (h : okB n d = false) :
    Calls Try.prog 66 #[fr n d] w fun e w' => e = .returned (.bool false) ∧ Below w.heap.size w w' := by
  obtain ⟨w1, w2⟩ := hn
  go_enter Try.func66, Try.ntmps66
  go_wp2_with fail
  refine (l02Ok_any _ _ _ (by omega) (by omega)).mono ?_
  rintro e u1 ⟨rfl, hb1⟩
  have Q0 : Bk u1 (w.heap.size) n d := by exact bkOf hb1 (by refine ⟨?_, ?_, ?_, ?_, ?_⟩ <;> go_simp)
  have P0 := Q0
  obtain ⟨a0, b0, f0, g0, z0⟩ := Q0
  go_wp2_with fail
  go_ret
  refine ⟨rfl, ?_⟩
  repeat (first | exact Below.refl _ _ | refine bSet ?_ (by first | (simp; done) | (simp; omega)) _ | refine bAlloc ?_ _ | refine Below.drew ?_ | refine bDrewN ?_ _ | refine bTrans ?_ hb1)

theorem l09Rate_no (n d : Int) (w : World) (hn : I64 n) (h : okB n d = true) (h2 : inB n 1 1000 = false) :
    Calls Try.prog 66 #[fr n d] w fun e w' => e = .returned (.bool false) ∧ Below w.heap.size w w' := by
  obtain ⟨w1, w2⟩ := hn
  go_enter Try.func66, Try.ntmps66
  go_wp2_with fail
  refine (l02Ok_any _ _ _ (by omega) (by omega)).mono ?_
  rintro e u1 ⟨rfl, hb1⟩
  have Q0 : Bk u1 (w.heap.size) n d := by exact bkOf hb1 (by refine ⟨?_, ?_, ?_, ?_, ?_⟩ <;> go_simp)
  have P0 := Q0
  obtain ⟨a0, b0, f0, g0, z0⟩ := Q0
  go_wp2_with fail
  refine (l00In_any _ _ _ _).mono ?_
  rintro e u ⟨rfl, rfl⟩
  go_wp2_with fail
  go_ret
  refine ⟨rfl, ?_⟩
  repeat (first | exact Below.refl _ _ | refine bSet ?_ (by first | (simp; done) | (simp; omega)) _ | refine bAlloc ?_ _ | refine Below.drew ?_ | refine bDrewN ?_ _ | refine bTrans ?_ hb1)

theorem l09Rate_go (n d : Int) (w : World) (hn : I64 n) (h : okB n d = true) (h2 : inB n 1 1000 = true) :
    Calls Try.prog 66 #[fr n d] w fun e w' => e = .returned (.bool (decide (d ≤ 1000))) ∧ Below w.heap.size w w' := by
  obtain ⟨w1, w2⟩ := hn
  go_enter Try.func66, Try.ntmps66
  go_wp2_with fail
  refine (l02Ok_any _ _ _ (by omega) (by omega)).mono ?_
  rintro e u1 ⟨rfl, hb1⟩
  have Q0 : Bk u1 (w.heap.size) n d := by exact bkOf hb1 (by refine ⟨?_, ?_, ?_, ?_, ?_⟩ <;> go_simp)
  have P0 := Q0
  obtain ⟨a0, b0, f0, g0, z0⟩ := Q0
  go_wp2_with fail
  refine (l00In_any _ _ _ _).mono ?_
  rintro e u ⟨rfl, rfl⟩
  go_wp2_with fail
  go_ret
  refine ⟨rfl, ?_⟩
  repeat (first | exact Below.refl _ _ | refine bSet ?_ (by first | (simp; done) | (simp; omega)) _ | refine bAlloc ?_ _ | refine Below.drew ?_ | refine bDrewN ?_ _ | refine bTrans ?_ hb1)

/-- spec.l09Rate. -/
theorem l09Rate_any (n d : Int) (w : World) (hn : I64 n) (h : okB n d = true) :
    Calls Try.prog 66 #[fr n d] w fun e w' => e = .returned (.bool (rateB n d)) ∧ Below w.heap.size w w' := by
  cases h2 : inB n 1 1000
  · have e : rateB n d = false := by simp [rateB, h2]
    rw [e]; exact l09Rate_no n d w hn h h2
  · have k := okB_bd h
    have e : rateB n d = decide (d ≤ 1000) := by
      rw [rateB, h2, Bool.true_and, Bool.eq_iff_iff, inB_iff, decide_eq_true_eq]
      omega
    rw [e]; exact l09Rate_go n d w hn h h2

theorem l09Code_bad1 (b : Nat) (m o n d : Int) (w : World) (hn : I64 n) (B : Bk w b m o) (h : bladesB m o = false) :
    Calls Try.prog 60 #[.pointer (some ⟨b, 0, none⟩), fr n d] w fun e w' => e = .returned (.int .i64 1) ∧ Below w.heap.size w w' := by
  have B0 : Bk (w.alloc (.cells #[.int .i64 n, .int .i64 d] 27)) b m o := bkOf (bAlloc (Below.refl _ _) _) B
  go_enter Try.func60, Try.ntmps60
  go_wp2_with fail
  refine (l09Ok_any _ m o _ B0).mono ?_
  rintro e u ⟨rfl, nd1, rfl⟩
  go_wp2_with fail
  go_ret
  refine ⟨rfl, ?_⟩
  repeat (first | exact Below.refl _ _ | refine bSet ?_ (by first | (simp; done) | (simp; omega)) _ | refine bAlloc ?_ _ | refine Below.drew ?_ | refine bDrewN ?_ _)

theorem l09Code_bad2 (b : Nat) (m o n d : Int) (w : World) (hn : I64 n) (B : Bk w b m o) (h : bladesB m o = true) (h2 : okB n d = false) :
    Calls Try.prog 60 #[.pointer (some ⟨b, 0, none⟩), fr n d] w fun e w' => e = .returned (.int .i64 1) ∧ Below w.heap.size w w' := by
  have B0 : Bk (w.alloc (.cells #[.int .i64 n, .int .i64 d] 27)) b m o := bkOf (bAlloc (Below.refl _ _) _) B
  obtain ⟨w1, w2⟩ := hn
  go_enter Try.func60, Try.ntmps60
  go_wp2_with fail
  refine (l09Ok_any _ m o _ B0).mono ?_
  rintro e u ⟨rfl, nd1, rfl⟩
  go_wp2_with fail
  refine (l02Ok_any n d _ (by omega) (by omega)).mono ?_
  rintro e u2 ⟨rfl, hb2⟩
  go_wp2_with fail
  go_ret
  refine ⟨rfl, ?_⟩
  repeat (first | exact Below.refl _ _ | refine bSet ?_ (by first | (simp; done) | (simp; omega)) _ | refine bAlloc ?_ _ | refine Below.drew ?_ | refine bDrewN ?_ _ | refine bTrans ?_ hb2)

theorem l09Code_off (b : Nat) (m o n d : Int) (w : World) (hn : I64 n) (B : Bk w b m o) (h : bladesB m o = true) (h2 : okB n d = true) (h3 : rateB n d = false) :
    Calls Try.prog 60 #[.pointer (some ⟨b, 0, none⟩), fr n d] w fun e w' => e = .returned (.int .i64 2) ∧ Below w.heap.size w w' := by
  have hn' := hn
  have B0 : Bk (w.alloc (.cells #[.int .i64 n, .int .i64 d] 27)) b m o := bkOf (bAlloc (Below.refl _ _) _) B
  obtain ⟨w1, w2⟩ := hn
  go_enter Try.func60, Try.ntmps60
  go_wp2_with fail
  refine (l09Ok_any _ m o _ B0).mono ?_
  rintro e u ⟨rfl, nd1, rfl⟩
  go_wp2_with fail
  refine (l02Ok_any n d _ (by omega) (by omega)).mono ?_
  rintro e u2 ⟨rfl, hb2⟩
  have Q0 : Bk u2 (w.heap.size) n d := by exact bkOf hb2 (by refine ⟨?_, ?_, ?_, ?_, ?_⟩ <;> go_simp)
  have P0 := Q0
  obtain ⟨a0, b0, f0, g0, z0⟩ := Q0
  go_wp2_with fail
  refine (l09Rate_any n d _ hn' h2).mono ?_
  rintro e u3 ⟨rfl, hb3⟩
  have Q0 : Bk u3 (w.heap.size) n d := bkOf hb3 P0
  clear P0 a0 b0 f0 g0 z0
  have P0 := Q0
  obtain ⟨a0, b0, f0, g0, z0⟩ := Q0
  go_wp2_with fail
  go_ret
  refine ⟨rfl, ?_⟩
  repeat (first | exact Below.refl _ _ | refine bSet ?_ (by first | (simp; done) | (simp; omega)) _ | refine bAlloc ?_ _ | refine Below.drew ?_ | refine bDrewN ?_ _ | refine bTrans ?_ hb3 | refine bTrans ?_ hb2)

theorem l09Code_yes (b : Nat) (m o n d : Int) (w : World) (hn : I64 n) (B : Bk w b m o) (h : bladesB m o = true) (h2 : okB n d = true) (h3 : rateB n d = true) :
    Calls Try.prog 60 #[.pointer (some ⟨b, 0, none⟩), fr n d] w fun e w' => e = .returned (.int .i64 0) ∧ Below w.heap.size w w' := by
  have hn' := hn
  have B0 : Bk (w.alloc (.cells #[.int .i64 n, .int .i64 d] 27)) b m o := bkOf (bAlloc (Below.refl _ _) _) B
  obtain ⟨w1, w2⟩ := hn
  go_enter Try.func60, Try.ntmps60
  go_wp2_with fail
  refine (l09Ok_any _ m o _ B0).mono ?_
  rintro e u ⟨rfl, nd1, rfl⟩
  go_wp2_with fail
  refine (l02Ok_any n d _ (by omega) (by omega)).mono ?_
  rintro e u2 ⟨rfl, hb2⟩
  have Q0 : Bk u2 (w.heap.size) n d := by exact bkOf hb2 (by refine ⟨?_, ?_, ?_, ?_, ?_⟩ <;> go_simp)
  have P0 := Q0
  obtain ⟨a0, b0, f0, g0, z0⟩ := Q0
  go_wp2_with fail
  refine (l09Rate_any n d _ hn' h2).mono ?_
  rintro e u3 ⟨rfl, hb3⟩
  have Q0 : Bk u3 (w.heap.size) n d := bkOf hb3 P0
  clear P0 a0 b0 f0 g0 z0
  have P0 := Q0
  obtain ⟨a0, b0, f0, g0, z0⟩ := Q0
  go_wp2_with fail
  go_ret
  refine ⟨rfl, ?_⟩
  repeat (first | exact Below.refl _ _ | refine bSet ?_ (by first | (simp; done) | (simp; omega)) _ | refine bAlloc ?_ _ | refine Below.drew ?_ | refine bDrewN ?_ _ | refine bTrans ?_ hb3 | refine bTrans ?_ hb2)

/-- spec.l09Code. -/
theorem l09Code_any (b : Nat) (m o n d : Int) (w : World) (hn : I64 n) (B : Bk w b m o) :
    Calls Try.prog 60 #[.pointer (some ⟨b, 0, none⟩), fr n d] w fun e w' => e = .returned (.int .i64 (code9 m o n d true)) ∧ Below w.heap.size w w' := by
  cases h : bladesB m o
  · rw [code9_bad (by simp [h])]; exact l09Code_bad1 b m o n d w hn B h
  · cases h2 : okB n d
    · rw [code9_bad (by simp [h2])]; exact l09Code_bad2 b m o n d w hn B h h2
    · cases h3 : rateB n d
      · rw [code9_off (by simp [h, h2]) (by simp [h3])]; exact l09Code_off b m o n d w hn B h h2 h3
      · rw [code9_yes (by simp [h, h2]) (by simp [h3])]; exact l09Code_yes b m o n d w hn B h h2 h3

end Go.Proofs.Ytflgjohknjgdcaa
