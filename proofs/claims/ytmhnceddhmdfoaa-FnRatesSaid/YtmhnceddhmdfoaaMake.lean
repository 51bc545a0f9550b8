/- Fractions out of two numbers, whole turns, rates behind a pair of wheels: in the program and in the model; and the statements' own walks. -/
import Derived.Test.YtmhnceddhmdfoaaProg
import Derived.Test.YtmhnceddhmdfoaaTwo
import Derived.Deep.RegionWith
import Derived.Deep.DrawnRows
import Derived.Laws.StructEq
import Derived.Tactics
import Derived.Tactics2
import Derived.WalkKit
import Derived.LoopTactic
import Derived.BigQuiet
import Derived.RegionTactic
import Derived.BigRegion
import Derived.ChangeAlike
import Derived.Deep.QuietTactic
import Derived.Deep.RegionHeld3
import Derived.Deep.DeepCutAuto
import Derived.Outline
import Derived.Lib.Hide
import Derived.Below
import Derived.KernelRfl
namespace Go.Proofs.Ytmhnceddhmdfoaa
set_option linter.unusedSimpArgs false
set_option linter.unusedVariables false
open Go.RowKit

theorem fullV_neg (n d : Int) (h : d < 0) : fullV (-n) (-d) = fullV n d := by
  have e1 : divI n d = -(Nat.gcd n.natAbs d.natAbs : Nat) := if_pos h
  have e2 : divI (-n) (-d) = (Nat.gcd n.natAbs d.natAbs : Nat) := by
    rw [divI, if_neg (by omega), Int.natAbs_neg, Int.natAbs_neg]
  rw [fullV, fullV, fullB, fullB, e1, e2, Int.neg_tdiv, Int.neg_tdiv, Int.tdiv_neg, Int.tdiv_neg]

/-- What MakeFraction takes. -/
def giveB (n d : Int) : Bool := inB n (-1000000000000) 1000000000000 && inB d (-1000000000000) 1000000000000 && !(d == 0)

theorem implMake_no (n d : Int) (w : World) (h : giveB n d = false) :
    Calls Try.prog 36 #[.int .i64 n, .int .i64 d] w fun e w' => e = .returned (.tuple #[fr 0 0, .int .i64 2]) ∧ Below w.heap.size w w' := by
  have hc : n < -1000000000000 ∨ (-1000000000000 ≤ n ∧ 1000000000000 < n) ∨ (-1000000000000 ≤ n ∧ n ≤ 1000000000000 ∧ d < -1000000000000) ∨ (-1000000000000 ≤ n ∧ n ≤ 1000000000000 ∧ -1000000000000 ≤ d ∧ 1000000000000 < d) ∨ (-1000000000000 ≤ n ∧ n ≤ 1000000000000 ∧ d = 0) := by
    simp [giveB, inB] at h
    omega
  clear h
  rcases hc with h1 | ⟨h1, h2⟩ | ⟨h1, h2, h3⟩ | ⟨h1, h2, h3, h4⟩ | ⟨h1, h2, rfl⟩
  all_goals
    go_enter Try.func36, Try.ntmps36
    go_wp2
    refine bodyPost_ret (v := _) (by simp [results, Try.results36, go_sem]) rfl ⟨rfl, ?_⟩
    repeat (first | exact Below.refl _ _ | refine bSet ?_ (by first | (simp; done) | (simp; omega)) _ | refine bAlloc ?_ _ | refine Below.drew ?_ | refine bDrewN ?_ _)

theorem implMake_yes (n d : Int) (w : World) (h : giveB n d = true) :
    Calls Try.prog 36 #[.int .i64 n, .int .i64 d] w fun e w' => e = .returned (fullV n d) ∧ Below w.heap.size w w' := by
  have hc : (-1000000000000 ≤ n ∧ n ≤ 1000000000000) ∧ (-1000000000000 ≤ d ∧ d ≤ 1000000000000) ∧ d ≠ 0 := by
    simp [giveB, inB] at h
    omega
  clear h
  obtain ⟨⟨h1, h2⟩, ⟨h3, h4⟩, h5⟩ := hc
  have h6 : (d == 0) = false := beq_eq_false_iff_ne.2 h5
  obtain ⟨x, y, z, hV⟩ := fullV_form n d
  have C := Lib.hid (fun w => fitted_any n d w (by omega) (by omega) (by omega) (by omega) h5)
  rw [hV] at C ⊢
  clear hV
  go_enter Try.func36, Try.ntmps36
  go_wp2_with fail
  refine (C.out _).mono ?_
  rintro e u1 ⟨rfl, hb1⟩
  have B2 : Bk u1 w.heap.size 0 0 := bkOf hb1 (by refine ⟨?_, ?_, ?_, ?_, ?_⟩ <;> go_simp)
  obtain ⟨c2, c3, f2, f3, z2⟩ := B2
  go_wp2_with fail
  refine bodyPost_ret (v := _) (by simp [results, Try.results36, go_sem, c2, c3, z2, Nat.ne_of_lt z2]) rfl ⟨rfl, ?_⟩
  repeat (first | exact Below.refl _ _ | refine bSet ?_ (by first | (simp; done) | (simp; omega)) _ | refine bAlloc ?_ _ | refine Below.drew ?_ | refine bDrewN ?_ _ | refine bTrans ?_ hb1)

theorem specMake_no (n d : Int) (w : World) (h : giveB n d = false) :
    Calls Try.prog 35 #[.int .i64 n, .int .i64 d] w fun e w' => e = .returned (.tuple #[fr 0 0, .int .i64 2]) ∧ Below w.heap.size w w' := by
  have hc : inB n (-1000000000000) 1000000000000 = false ∨ (inB n (-1000000000000) 1000000000000 = true ∧ inB d (-1000000000000) 1000000000000 = false) ∨ (inB n (-1000000000000) 1000000000000 = true ∧ inB d (-1000000000000) 1000000000000 = true ∧ d = 0) := by
    revert h
    unfold giveB
    cases inB n (-1000000000000) 1000000000000 <;> cases inB d (-1000000000000) 1000000000000 <;> simp
  clear h
  rcases hc with h1 | ⟨h1, h2⟩ | ⟨h1, h2, rfl⟩
  all_goals
    go_enter Try.func35, Try.ntmps35
    go_wp2_with (go_at_call 72; refine (l00In_any _ _ _ _).mono ?_; rintro e u ⟨rfl, rfl⟩)
    refine bodyPost_ret (v := _) (by simp [results, Try.results35, go_sem]) rfl ⟨rfl, ?_⟩
    repeat (first | exact Below.refl _ _ | refine bSet ?_ (by first | (simp; done) | (simp; omega)) _ | refine bAlloc ?_ _ | refine Below.drew ?_ | refine bDrewN ?_ _)

theorem specMake_yes (n d : Int) (w : World) (h : giveB n d = true) :
    Calls Try.prog 35 #[.int .i64 n, .int .i64 d] w fun e w' => e = .returned (fullV n d) ∧ Below w.heap.size w w' := by
  have hc : (-1000000000000 ≤ n ∧ n ≤ 1000000000000) ∧ (-1000000000000 ≤ d ∧ d ≤ 1000000000000) ∧ d ≠ 0 ∧ inB n (-1000000000000) 1000000000000 = true ∧ inB d (-1000000000000) 1000000000000 = true := by
    have h0 := h
    simp only [giveB, Bool.and_eq_true] at h0
    refine ⟨inB_iff.1 h0.1.1, inB_iff.1 h0.1.2, ?_, h0.1.1, h0.1.2⟩
    simpa using h0.2
  clear h
  obtain ⟨⟨h1, h2⟩, ⟨h3, h4⟩, h5, h6, h7⟩ := hc
  have h8 : (d == 0) = false := beq_eq_false_iff_ne.2 h5
  by_cases hd : d < 0
  · obtain ⟨x, y, z, hV⟩ := fullV_form n d
    have hN := fullV_neg n d hd
    have C := Lib.hid (fun w => l02Full_any (-n) (-d) w (by omega) (by omega) (by omega) (by omega))
    rw [hN] at C
    rw [hV] at C ⊢
    clear hV hN
    go_enter Try.func35, Try.ntmps35
    go_wp2_with (first | (go_at_call 72; refine (l00In_any _ _ _ _).mono ?_; rintro e u ⟨rfl, rfl⟩) | fail)
    refine (C.out _).mono ?_
    rintro e u1 ⟨rfl, hb1⟩
    have B2 : Bk u1 w.heap.size 0 0 := bkOf hb1 (by refine ⟨?_, ?_, ?_, ?_, ?_⟩ <;> go_simp)
    obtain ⟨c2, c3, f2, f3, z2⟩ := B2
    go_wp2_with fail
    refine bodyPost_ret (v := _) (by simp [results, Try.results35, go_sem, c2, c3, z2, Nat.ne_of_lt z2]) rfl ⟨rfl, ?_⟩
    repeat (first | exact Below.refl _ _ | refine bSet ?_ (by first | (simp; done) | (simp; omega)) _ | refine bAlloc ?_ _ | refine Below.drew ?_ | refine bDrewN ?_ _ | refine bTrans ?_ hb1)
  · obtain ⟨x, y, z, hV⟩ := fullV_form n d
    have C := Lib.hid (fun w => l02Full_any n d w (by omega) (by omega) (by omega) (by omega))
    rw [hV] at C ⊢
    clear hV
    go_enter Try.func35, Try.ntmps35
    go_wp2_with (first | (go_at_call 72; refine (l00In_any _ _ _ _).mono ?_; rintro e u ⟨rfl, rfl⟩) | fail)
    refine (C.out _).mono ?_
    rintro e u1 ⟨rfl, hb1⟩
    have B2 : Bk u1 w.heap.size 0 0 := bkOf hb1 (by refine ⟨?_, ?_, ?_, ?_, ?_⟩ <;> go_simp)
    obtain ⟨c2, c3, f2, f3, z2⟩ := B2
    go_wp2_with fail
    refine bodyPost_ret (v := _) (by simp [results, Try.results35, go_sem, c2, c3, z2, Nat.ne_of_lt z2]) rfl ⟨rfl, ?_⟩
    repeat (first | exact Below.refl _ _ | refine bSet ?_ (by first | (simp; done) | (simp; omega)) _ | refine bAlloc ?_ _ | refine Below.drew ?_ | refine bDrewN ?_ _ | refine bTrans ?_ hb1)

theorem lawMake_of (n d x y z : Int) (w : World)
    (hs : ∀ w : World, Calls Try.prog 35 #[.int .i64 n, .int .i64 d] w fun e w' => e = .returned (.tuple #[fr x y, .int .i64 z]) ∧ Below w.heap.size w w')
    (hi : ∀ w : World, Calls Try.prog 36 #[.int .i64 n, .int .i64 d] w fun e w' => e = .returned (.tuple #[fr x y, .int .i64 z]) ∧ Below w.heap.size w w') :
    Calls Try.prog 8 #[.int .i64 n, .int .i64 d] w fun e w' => e = .returned (.bool true) ∧ Below w.heap.size w w' := by
  have S := Lib.hid hs
  have I := Lib.hid hi
  clear hs hi
  go_enter Try.func8, Try.ntmps8
  go_wp2_with fail
  refine (S.out _).mono ?_
  rintro e u1 ⟨rfl, hb1⟩
  go_wp2_with fail
  refine (I.out _).mono ?_
  rintro e u2 ⟨rfl, hb2⟩
  have B2 : Bk u2 u1.heap.size x y := bkOf hb2 (by refine ⟨?_, ?_, ?_, ?_, ?_⟩ <;> go_simp)
  obtain ⟨c2, c3, f2, f3, z2⟩ := B2
  go_wp2_with fail
  refine (eqFraction_same _ _ _).mono ?_
  rintro e u3 ⟨rfl, hb3⟩
  go_wp2_with fail
  go_ret
  refine ⟨rfl, ?_⟩
  repeat (first | exact Below.refl _ _ | refine bSet ?_ (by first | (simp; done) | (simp; omega)) _ | refine bAlloc ?_ _ | refine Below.drew ?_ | refine bDrewN ?_ _ | refine bTrans ?_ hb3 | refine bTrans ?_ hb2 | refine bTrans ?_ hb1)

/-- laws.FnExactMakeFraction. -/
theorem law_MakeFraction (n d : Int) (w : World) (_hn : I64 n) (_hd : I64 d) :
    Calls Try.prog 8 #[.int .i64 n, .int .i64 d] w fun e w' => e = .returned (.bool true) ∧ Below w.heap.size w w' := by
  cases h : giveB n d
  · exact lawMake_of n d 0 0 2 w (fun w => specMake_no n d w h) (fun w => implMake_no n d w h)
  · obtain ⟨x, y, z, hV⟩ := fullV_form n d
    exact lawMake_of n d x y z w (fun w => by rw [← hV]; exact specMake_yes n d w h) (fun w => by rw [← hV]; exact implMake_yes n d w h)

end Go.Proofs.Ytmhnceddhmdfoaa
