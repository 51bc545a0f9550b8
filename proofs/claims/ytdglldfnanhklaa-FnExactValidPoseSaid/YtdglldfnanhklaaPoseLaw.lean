/- Poses that are valid, that are equal: the statements' own walks. -/
import Derived.Test.YtdglldfnanhklaaProg
import Derived.Test.YtdglldfnanhklaaPose
import Derived.OwnWalk
import Derived.Deep.RegionWith
import Derived.Deep.DrawnRows
import Derived.Deep.RegionHeld3
import Derived.Tactics
import Derived.Tactics2
import Derived.WalkKit
import Derived.LoopTactic
import Derived.BigQuiet
import Derived.RegionTactic
import Derived.Deep.QuietTactic
import Derived.Outline
import Derived.Lib.Hide
import Derived.Below
import Derived.KernelRfl
namespace Go.Proofs.Ytdglldfnanhklaa
set_option linter.unusedSimpArgs false
set_option linter.unusedVariables false
open Go.RowKit

theorem maxLen_left {n : Nat} (h : n ≤ 1048576) : (if n ≤ 1048576 then ((1048576 - n : Nat) : Int) else -1) = ((1048576 - n : Nat) : Int) := if_pos h
theorem maxLen_over {n left : Nat} (h : ¬ n ≤ left) : (if n ≤ left then ((left - n : Nat) : Int) else -1) = -1 := if_neg h
theorem maxLen_in {n left : Nat} (h : n ≤ left) : (if n ≤ left then ((left - n : Nat) : Int) else -1) = ((left - n : Nat) : Int) := if_pos h
theorem sz_over (A : Option Addr) (n cap left : Nat) (w : World) (hn : n ≤ maxLen) (hl : left ≤ 1048576) (h : ¬ n ≤ left) :
    Calls Try.prog 45 #[.slice A n cap, .int .i64 left] w fun e w' => e = .returned (.int .i64 (-1)) ∧ w = w' := by
  have := szPointS_any A n cap left w hn hl
  rwa [maxLen_over h] at this
theorem sz_in (A : Option Addr) (n cap left : Nat) (w : World) (hn : n ≤ maxLen) (hl : left ≤ 1048576) (h : n ≤ left) :
    Calls Try.prog 45 #[.slice A n cap, .int .i64 left] w fun e w' => e = .returned (.int .i64 ((left - n : Nat) : Int)) ∧ w = w' := by
  have := szPointS_any A n cap left w hn hl
  rwa [maxLen_in h] at this

/-- The contract of laws.toPointS as the statements use it: a list that is read, of the call's own. -/
theorem toP (A : Option Addr) (n cap : Nat) (ps : List Pt) (w : World) (hp : PRow w A n ps) (hn : n ≤ 1048576) :
    Calls Try.prog 46 #[.slice A n cap] w fun e w' => ∃ A' c', e = .returned (.slice A' n c') ∧ Pts w' w.heap.size (.slice A' n c') ps ∧ Rd w' A' n ps ∧ Below w.heap.size w w' := by
  have hl := hp.1
  refine (toPointS_any A n cap ps w hp hn).mono ?_
  rintro e u ⟨v, rfl, hP, hb⟩
  obtain ⟨A', c', rfl, hr⟩ := hP.rd (by omega)
  rw [hl] at hr hP ⊢
  exact ⟨A', c', rfl, hP, hr, hb⟩

/-- laws.FnExactValidPose. -/
theorem law_ValidPose (A : Option Addr) (n cap : Nat) (ps : List Pt) (w : World) (hp : PRow w A n ps) :
    Calls Try.prog 5 #[.slice A n cap] w fun e w' => e = .returned (.bool true) ∧ Below w.heap.size w w' := by
  have hm := hp.2.1
  have HP := Lib.hid hp
  clear hp
  by_cases hn : n ≤ 1048576
  · go_enter Try.func5, Try.ntmps5
    go_wp2_with fail
    refine (sz_in A n cap 1048576 _ hm (by omega) hn).mono ?_
    rintro e u ⟨rfl, rfl⟩
    go_wp2_with fail
    refine (toP A n cap ps _ HP.out hn).mono ?_
    rintro e u1 ⟨A1, d1, rfl, p1, r1, hb1⟩
    have HP1 := Lib.hid (HP.out.below hb1)
    have R1 := Lib.hid r1
    have B1 := Lib.hid hb1
    clear p1 r1 hb1
    go_wp2_with fail
    refine (specValidPose_any A1 n d1 ps _ R1.out).mono ?_
    rintro e u ⟨rfl, rfl⟩
    go_wp2_with fail
    refine (toP A n cap ps _ HP1.out hn).mono ?_
    rintro e u2 ⟨A2, d2, rfl, p2, r2, hb2⟩
    have HP2 := Lib.hid (HP1.out.below hb2)
    have R2 := Lib.hid r2
    have B2 := Lib.hid (bTrans B1.out hb2)
    clear p2 r2 hb2
    go_wp2_with fail
    refine (validPose_any A2 n d2 ps _ R2.out).mono ?_
    rintro e u3 ⟨rfl, hb3⟩
    have HP3 := Lib.hid (HP2.out.below hb3)
    have R3 := Lib.hid (R2.out.below hb3)
    have B3 := Lib.hid (bTrans B2.out hb3)
    clear hb3
    go_wp2_with fail
    refine (toP A n cap ps _ HP3.out hn).mono ?_
    rintro e u4 ⟨A4, d4, rfl, p4, r4, hb4⟩
    have R4 := Lib.hid r4
    have R34 := Lib.hid (R3.out.below hb4)
    have B4 := Lib.hid (bTrans B3.out hb4)
    clear p4 r4 hb4
    go_wp2_with fail
    refine (eqPointS_same A2 A4 n d2 d4 ps _ R34.out R4.out).mono ?_
    rintro e u5 ⟨rfl, hb5⟩
    go_wp2_with fail
    go_ret
    exact ⟨rfl, bTrans B4.out hb5⟩
  · go_enter Try.func5, Try.ntmps5
    go_wp2_with fail
    refine (sz_over A n cap 1048576 _ hm (by omega) hn).mono ?_
    rintro e u ⟨rfl, rfl⟩
    go_wp2_with fail
    go_ret
    exact ⟨rfl, Below.refl _ _⟩

end Go.Proofs.Ytdglldfnanhklaa
