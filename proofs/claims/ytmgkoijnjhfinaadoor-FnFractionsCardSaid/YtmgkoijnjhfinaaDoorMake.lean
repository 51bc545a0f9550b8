/- Fractions out of two numbers, whole turns, rates behind a pair of wheels: in the program and in the model; and the statements' own walks. -/
import Derived.Test.YtmgkoijnjhfinaaDoorProg
import Derived.Test.YtmgkoijnjhfinaaDoorTwo
import Derived.Deep.RegionWith
import Derived.Deep.DrawnRows
import Derived.Laws.StructEq
import Derived.Tactics
import Derived.Tactics2
import Derived.WalkKit
import Derived.LoopTactic
import Derived.BigQuiet
import Derived.RegionTactic
import Derived.BigRegion
import Derived.ChangeAlike
import Derived.Deep.QuietTactic
import Derived.Deep.RegionHeld3
import Derived.Deep.DeepCutAuto
import Derived.Outline
import Derived.Lib.Hide
import Derived.Below
import Derived.KernelRfl
namespace Go.Proofs.YtmgkoijnjhfinaaDoor
set_option linter.unusedSimpArgs false
set_option linter.unusedVariables false
open Go.RowKit

theorem fullV_neg (n d : Int) (h : d < 0) : fullV (-n) (-d) = fullV n d := by
  have e1 : divI n d = -(Nat.gcd n.natAbs d.natAbs : Nat) := if_pos h
  have e2 : divI (-n) (-d) = (Nat.gcd n.natAbs d.natAbs : Nat) := by
    rw [divI, if_neg (by omega), Int.natAbs_neg, Int.natAbs_neg]
  rw [fullV, fullV, fullB, fullB, e1, e2, Int.neg_tdiv, Int.neg_tdiv, Int.tdiv_neg, Int.tdiv_neg]

/-- What MakeFraction takes. -/
def giveB (n d : Int) : Bool := inB n (-1000000000000) 1000000000000 && inB d (-1000000000000) 1000000000000 && !(d == 0)

theorem implMake_no (n d : Int) (w : World) (h : giveB n d = false) :
    Calls Tryd.prog 13 #[.int .i64 n, .int .i64 d] w fun e w' => e = .returned (.tuple #[fr 0 0, .int .i64 2]) ∧ Below w.heap.size w w' := by
  have hc : n < -1000000000000 ∨ (-1000000000000 ≤ n ∧ 1000000000000 < n) ∨ (-1000000000000 ≤ n ∧ n ≤ 1000000000000 ∧ d < -1000000000000) ∨ (-1000000000000 ≤ n ∧ n ≤ 1000000000000 ∧ -1000000000000 ≤ d ∧ 1000000000000 < d) ∨ (-1000000000000 ≤ n ∧ n ≤ 1000000000000 ∧ d = 0) := by
    simp [giveB, inB] at h
    omega
  clear h
  rcases hc with h1 | ⟨h1, h2⟩ | ⟨h1, h2, h3⟩ | ⟨h1, h2, h3, h4⟩ | ⟨h1, h2, rfl⟩
  all_goals
    go_enter Tryd.func13, Tryd.ntmps13
    go_wp2
    refine bodyPost_ret (v := _) (by simp [results, Tryd.results13, go_sem]) rfl ⟨rfl, ?_⟩
    repeat (first | exact Below.refl _ _ | refine bSet ?_ (by first | (simp; done) | (simp; omega)) _ | refine bAlloc ?_ _ | refine Below.drew ?_ | refine bDrewN ?_ _)

theorem implMake_yes (n d : Int) (w : World) (h : giveB n d = true) :
    Calls Tryd.prog 13 #[.int .i64 n, .int .i64 d] w fun e w' => e = .returned (fullV n d) ∧ Below w.heap.size w w' := by
  have hc : (-1000000000000 ≤ n ∧ n ≤ 1000000000000) ∧ (-1000000000000 ≤ d ∧ d ≤ 1000000000000) ∧ d ≠ 0 := by
    simp [giveB, inB] at h
    omega
  clear h
  obtain ⟨⟨h1, h2⟩, ⟨h3, h4⟩, h5⟩ := hc
  have h6 : (d == 0) = false := beq_eq_false_iff_ne.2 h5
  obtain ⟨x, y, z, hV⟩ := fullV_form n d
  have C := Lib.hid (fun w => fitted_any n d w (by omega) (by omega) (by omega) (by omega) h5)
  rw [hV] at C ⊢
  clear hV
  go_enter Tryd.func13, Tryd.ntmps13
  go_wp2_with fail
  refine (C.out _).mono ?_
  rintro e u1 ⟨rfl, hb1⟩
  have B2 : Bk u1 w.heap.size 0 0 := bkOf hb1 (by refine ⟨?_, ?_, ?_, ?_, ?_⟩ <;> go_simp)
  obtain ⟨c2, c3, f2, f3, z2⟩ := B2
  go_wp2_with fail
  refine bodyPost_ret (v := _) (by simp [results, Tryd.results13, go_sem, c2, c3, z2, Nat.ne_of_lt z2]) rfl ⟨rfl, ?_⟩
  repeat (first | exact Below.refl _ _ | refine bSet ?_ (by first | (simp; done) | (simp; omega)) _ | refine bAlloc ?_ _ | refine Below.drew ?_ | refine bDrewN ?_ _ | refine bTrans ?_ hb1)

end Go.Proofs.YtmgkoijnjhfinaaDoor
