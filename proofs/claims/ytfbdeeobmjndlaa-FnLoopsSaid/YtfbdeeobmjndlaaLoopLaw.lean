/- The statements of chapter 5: their own walks. -/
import Derived.Test.YtfbdeeobmjndlaaProg
import Derived.Test.YtfbdeeobmjndlaaLoopMath
import Derived.Test.YtfbdeeobmjndlaaInts
import Derived.Test.YtfbdeeobmjndlaaLoop
import Derived.Test.YtfbdeeobmjndlaaLoop2
import Derived.Test.YtfbdeeobmjndlaaLoop3
import Derived.Test.YtfbdeeobmjndlaaIGrids
import Derived.Deep.AppendLies
import Derived.Deep.DrawnRows
import Derived.Test.YtfbdeeobmjndlaaHold
import Derived.IntWalk
import Derived.WalkSpells
import Derived.OwnWalk
import Derived.Laws.AppendOwn
import Derived.Laws.OwnMore
import Derived.Deep.RegionWith
import Derived.Deep.DrawnRows
import Derived.Deep.RegionHeld3
import Derived.Tactics
import Derived.Tactics2
import Derived.WalkKit
import Derived.LoopTactic
import Derived.BigQuiet
import Derived.RegionTactic
import Derived.Deep.QuietTactic
import Derived.Outline
import Derived.Lib.Hide
import Derived.Below
import Derived.KernelRfl
namespace Go.Proofs.Ytfbdeeobmjndlaa
set_option linter.unusedSimpArgs false
set_option linter.unusedVariables false
open Go.RowKit

set_option maxHeartbeats 2000000 in
set_option maxRecDepth 100000 in
/-- laws.FnExactValidLoop, out of contracts. -/
theorem lawValidLoop_of (A0 : Option Addr) (n0 c0 : Nat) (d0 : List Int) (z : Bool) (w : World) (hp0 : IRow w A0 n0 d0)  (ht0 : n0 ≤ 1048576)
    (hs : ∀ (E0 : Option Addr) (f0 : Nat) (u : World), RdI u E0 n0 d0 → Calls Try.prog 23 #[.slice E0 n0 f0] u fun e u' => e = .returned (.bool z) ∧ Below u.heap.size u u')
    (hi : ∀ (E0 : Option Addr) (f0 : Nat) (u : World), RdI u E0 n0 d0 → Calls Try.prog 25 #[.slice E0 n0 f0] u fun e u' => e = .returned (.bool z) ∧ Below u.heap.size u u')
    : Calls Try.prog 3 #[.slice A0 n0 c0] w fun e w' => e = .returned (.bool true) ∧ Below w.heap.size w w' := by
  have HL0 := Lib.hid hp0.1
  have hm0 := ht0
  have hl0 := Nat.le_of_eq hp0.1
  have HP0 := Lib.hid hp0
  clear hp0
  have S := Lib.hid hs
  have I := Lib.hid hi
  clear hs hi
  have B := Lib.hid (Below.refl w.heap.size w)
  go_enter Try.func3, Try.ntmps3
  go_wp2_with fail
  refine (toI A0 n0 c0 d0 _ (HP0.out.below B.out) (by omega)).mono ?_
  rintro e u1 ⟨ET0, fT0, rfl, p1, hb1⟩
  have T0 := Lib.hid (ownsBase p1 (B' := w.heap.size) B.out.size)
  replace B := Lib.hid (bTrans B.out hb1)
  clear p1 hb1
  go_wp2_with fail
  refine (S.out _ _ _ (Ints.rdOf T0.out HL0.out (by omega))).mono ?_
  rintro e u2 ⟨rfl, hb2⟩
  replace T0 := Lib.hid (Ints.below T0.out hb2)
  replace B := Lib.hid (bTrans B.out hb2)
  clear hb2
  clear T0
  go_wp2_with fail
  refine (toI A0 n0 c0 d0 _ (HP0.out.below B.out) (by omega)).mono ?_
  rintro e u3 ⟨EX0, fX0, rfl, p3, hb3⟩
  have X0 := Lib.hid (ownsBase p3 (B' := w.heap.size) B.out.size)
  replace B := Lib.hid (bTrans B.out hb3)
  clear p3 hb3
  go_wp2_with fail
  refine (I.out _ _ _ (Ints.rdOf X0.out HL0.out (by omega))).mono ?_
  rintro e u4 ⟨rfl, hb4⟩
  replace X0 := Lib.hid (Ints.below X0.out hb4)
  replace B := Lib.hid (bTrans B.out hb4)
  clear hb4
  go_wp2_with fail
  refine (toI A0 n0 c0 d0 _ (HP0.out.below B.out) (by omega)).mono ?_
  rintro e u5 ⟨EY0, fY0, rfl, p5, hb5⟩
  have Y0 := Lib.hid (ownsBase p5 (B' := w.heap.size) B.out.size)
  replace X0 := Lib.hid (Ints.below X0.out hb5)
  replace B := Lib.hid (bTrans B.out hb5)
  clear p5 hb5
  go_wp2_with fail
  refine (eqInt64S_rdB EX0 EY0 n0 fX0 fY0 d0 _ (Ints.rdOf X0.out HL0.out (by omega)) (Ints.rdOf Y0.out HL0.out (by omega))).mono ?_
  rintro e u6 ⟨rfl, hb6⟩
  replace X0 := Lib.hid (Ints.below X0.out hb6)
  replace Y0 := Lib.hid (Ints.below Y0.out hb6)
  replace B := Lib.hid (bTrans B.out hb6)
  clear hb6
  clear Y0
  go_wp2_with fail
  go_ret
  exact ⟨rfl, B.out⟩

set_option maxRecDepth 100000 in
/-- laws.FnExactValidLoop, of what is too large to be looked at. -/
theorem lawValidLoop_big (A0 : Option Addr) (n0 c0 : Nat) (d0 : List Int) (w : World) (hp0 : IRow w A0 n0 d0) (ht : ¬ (n0 ≤ 1048576)) :
    Calls Try.prog 3 #[.slice A0 n0 c0] w fun e w' => e = .returned (.bool true) ∧ Below w.heap.size w w' := by
  have hm0 := hp0.2.1
  unfold maxLen at hm0
  clear hp0
  go_enter Try.func3, Try.ntmps3
  go_wp2
  go_ret
  exact ⟨rfl, Below.refl _ _⟩


/-- laws.FnExactValidLoop. -/
theorem law_ValidLoop (A0 : Option Addr) (n0 c0 : Nat) (d0 : List Int) (w : World) (hp0 : IRow w A0 n0 d0) :
    Calls Try.prog 3 #[.slice A0 n0 c0] w fun e w' => e = .returned (.bool true) ∧ Below w.heap.size w w' := by
  by_cases ht : n0 ≤ 1048576
  · exact lawValidLoop_of A0 n0 c0 d0 (loopB d0) w hp0 ht
      (fun E f u h => specValidLoop_any E n0 f d0 u h)
      (fun E f u h => (validLoop_any E n0 f d0 u h).mono fun _ _ hh => ⟨hh.1, hh.2 ▸ Below.refl _ _⟩)
  · exact lawValidLoop_big A0 n0 c0 d0 w hp0 ht

set_option maxHeartbeats 2000000 in
set_option maxRecDepth 100000 in
/-- laws.FnExactStepsOfLoop, out of contracts. -/
theorem lawStepsOfLoop_of (A0 : Option Addr) (n0 c0 : Nat) (d0 : List Int) (z : Int) (qs : List Int) (w : World) (hp0 : IRow w A0 n0 d0) (hq : qs.length ≤ 1000) (ht0 : n0 ≤ 1048576)
    (hs : ∀ (E0 : Option Addr) (f0 : Nat) (u : World), RdI u E0 n0 d0 → Calls Try.prog 27 #[.slice E0 n0 f0] u fun e u' => ∃ v, e = .returned (.tuple #[v, .int .i64 z]) ∧ Ints u' u.heap.size v qs ∧ Below u.heap.size u u')
    (hi : ∀ (E0 : Option Addr) (f0 : Nat) (u : World), RdI u E0 n0 d0 → Calls Try.prog 28 #[.slice E0 n0 f0] u fun e u' => ∃ v, e = .returned (.tuple #[v, .int .i64 z]) ∧ Ints u' u.heap.size v qs ∧ Below u.heap.size u u')
    : Calls Try.prog 4 #[.slice A0 n0 c0] w fun e w' => e = .returned (.bool true) ∧ Below w.heap.size w w' := by
  have HL0 := Lib.hid hp0.1
  have hm0 := ht0
  have hl0 := Nat.le_of_eq hp0.1
  have HP0 := Lib.hid hp0
  clear hp0
  have S := Lib.hid hs
  have I := Lib.hid hi
  clear hs hi
  have B := Lib.hid (Below.refl w.heap.size w)
  go_enter Try.func4, Try.ntmps4
  go_wp2_with fail
  refine (toI A0 n0 c0 d0 _ (HP0.out.below B.out) (by omega)).mono ?_
  rintro e u1 ⟨ET0, fT0, rfl, p1, hb1⟩
  have T0 := Lib.hid (ownsBase p1 (B' := w.heap.size) B.out.size)
  replace B := Lib.hid (bTrans B.out hb1)
  clear p1 hb1
  go_wp2_with fail
  refine (S.out _ _ _ (Ints.rdOf T0.out HL0.out (by omega))).mono ?_
  rintro e u2 ⟨vW, rfl, p2, hb2⟩
  have W := Lib.hid (ownsBase p2 (B' := w.heap.size) B.out.size)
  replace T0 := Lib.hid (Ints.below T0.out hb2)
  replace B := Lib.hid (bTrans B.out hb2)
  clear p2 hb2
  clear T0
  go_wp2_with fail
  refine (toI A0 n0 c0 d0 _ (HP0.out.below B.out) (by omega)).mono ?_
  rintro e u3 ⟨EX0, fX0, rfl, p3, hb3⟩
  have SWX0 := Lib.hid (sepOf _ (fun q hq => (ownsLt W.out q hq).2) (fun q hq => (ownsLt p3 q hq).1))
  have X0 := Lib.hid (ownsBase p3 (B' := w.heap.size) B.out.size)
  replace W := Lib.hid (Ints.below W.out hb3)
  replace B := Lib.hid (bTrans B.out hb3)
  clear p3 hb3
  go_wp2_with fail
  refine (I.out _ _ _ (Ints.rdOf X0.out HL0.out (by omega))).mono ?_
  rintro e u4 ⟨vG, rfl, p4, hb4⟩
  have SWG := Lib.hid (sepOf _ (fun q hq => (ownsLt W.out q hq).2) (fun q hq => (ownsLt p4 q hq).1))
  have SX0G := Lib.hid (sepOf _ (fun q hq => (ownsLt X0.out q hq).2) (fun q hq => (ownsLt p4 q hq).1))
  have G := Lib.hid (ownsBase p4 (B' := w.heap.size) B.out.size)
  replace W := Lib.hid (Ints.below W.out hb4)
  replace X0 := Lib.hid (Ints.below X0.out hb4)
  replace B := Lib.hid (bTrans B.out hb4)
  clear p4 hb4
  go_wp2_with fail
  refine (eqI_same _ _ vG vW qs _ G.out W.out).mono ?_
  rintro e u5 ⟨rfl, hb5⟩
  replace W := Lib.hid (Ints.below W.out hb5)
  replace X0 := Lib.hid (Ints.below X0.out hb5)
  replace G := Lib.hid (Ints.below G.out hb5)
  replace B := Lib.hid (bTrans B.out hb5)
  clear hb5
  go_wp2_with fail
  refine (toI A0 n0 c0 d0 _ (HP0.out.below B.out) (by omega)).mono ?_
  rintro e u6 ⟨EY0, fY0, rfl, p6, hb6⟩
  have Y0 := Lib.hid (ownsBase p6 (B' := w.heap.size) B.out.size)
  replace W := Lib.hid (Ints.below W.out hb6)
  replace X0 := Lib.hid (Ints.below X0.out hb6)
  replace G := Lib.hid (Ints.below G.out hb6)
  replace B := Lib.hid (bTrans B.out hb6)
  clear p6 hb6
  go_wp2_with fail
  refine (eqInt64S_rdB EX0 EY0 n0 fX0 fY0 d0 _ (Ints.rdOf X0.out HL0.out (by omega)) (Ints.rdOf Y0.out HL0.out (by omega))).mono ?_
  rintro e u7 ⟨rfl, hb7⟩
  replace W := Lib.hid (Ints.below W.out hb7)
  replace X0 := Lib.hid (Ints.below X0.out hb7)
  replace G := Lib.hid (Ints.below G.out hb7)
  replace Y0 := Lib.hid (Ints.below Y0.out hb7)
  replace B := Lib.hid (bTrans B.out hb7)
  clear hb7
  clear Y0
  go_wp2_with fail
  refine (markZ_any _ _ _ _ _ X0.out (by omega) (by omega) (by omega)).mono ?_
  rintro e u8 ⟨rfl, p8, g8⟩
  replace W := Lib.hid (ownsChg W.out (Chg.ofGrown g8) SWX0.out)
  replace G := Lib.hid (ownsChg G.out (Chg.ofGrown g8) SX0G.out.symm)
  replace B := Lib.hid (belowChg B.out (Chg.ofGrown g8) (fun q hq => (ownsLt X0.out q hq).1))
  clear p8 g8
  clear X0
  go_wp2_with fail
  refine (eqI_same _ _ vG vW qs _ G.out W.out).mono ?_
  rintro e u9 ⟨rfl, hb9⟩
  replace W := Lib.hid (Ints.below W.out hb9)
  replace G := Lib.hid (Ints.below G.out hb9)
  replace B := Lib.hid (bTrans B.out hb9)
  clear hb9
  go_wp2_with fail
  refine (mark1 _ _ _ _ G.out (by omega)).mono ?_
  rintro e u10 ⟨rfl, p10, g10⟩
  replace W := Lib.hid (ownsChg W.out (Chg.ofGrown g10) SWG.out)
  replace B := Lib.hid (belowChg B.out (Chg.ofGrown g10) (fun q hq => (ownsLt G.out q hq).1))
  replace G := Lib.hid p10
  clear p10 g10
  go_wp2_with fail
  refine (held1 _ qs.length vG _ G.out (by omega)).mono ?_
  rintro e u ⟨rfl, rfl⟩
  go_wp2_with fail
  refine (toI A0 n0 c0 d0 _ (HP0.out.below B.out) (by omega)).mono ?_
  rintro e u11 ⟨EZ0, fZ0, rfl, p11, hb11⟩
  have Z0 := Lib.hid (ownsBase p11 (B' := w.heap.size) B.out.size)
  replace W := Lib.hid (Ints.below W.out hb11)
  replace G := Lib.hid (Ints.below G.out hb11)
  replace B := Lib.hid (bTrans B.out hb11)
  clear p11 hb11
  go_wp2_with fail
  refine (I.out _ _ _ (Ints.rdOf Z0.out HL0.out (by omega))).mono ?_
  rintro e u12 ⟨vH, rfl, p12, hb12⟩
  have H := Lib.hid (ownsBase p12 (B' := w.heap.size) B.out.size)
  replace W := Lib.hid (Ints.below W.out hb12)
  replace G := Lib.hid (Ints.below G.out hb12)
  replace Z0 := Lib.hid (Ints.below Z0.out hb12)
  replace B := Lib.hid (bTrans B.out hb12)
  clear p12 hb12
  clear Z0
  go_wp2_with fail
  refine (eqI_same _ _ vH vW qs _ H.out W.out).mono ?_
  rintro e u13 ⟨rfl, hb13⟩
  replace W := Lib.hid (Ints.below W.out hb13)
  replace G := Lib.hid (Ints.below G.out hb13)
  replace H := Lib.hid (Ints.below H.out hb13)
  replace B := Lib.hid (bTrans B.out hb13)
  clear hb13
  go_wp2_with fail
  refine (held1 _ qs.length vG _ G.out (by omega)).mono ?_
  rintro e u ⟨rfl, rfl⟩
  go_wp2_with fail
  go_ret
  exact ⟨rfl, B.out⟩

set_option maxRecDepth 100000 in
/-- laws.FnExactStepsOfLoop, of what is too large to be looked at. -/
theorem lawStepsOfLoop_big (A0 : Option Addr) (n0 c0 : Nat) (d0 : List Int) (w : World) (hp0 : IRow w A0 n0 d0) (ht : ¬ (n0 ≤ 1048576)) :
    Calls Try.prog 4 #[.slice A0 n0 c0] w fun e w' => e = .returned (.bool true) ∧ Below w.heap.size w w' := by
  have hm0 := hp0.2.1
  unfold maxLen at hm0
  clear hp0
  go_enter Try.func4, Try.ntmps4
  go_wp2
  go_ret
  exact ⟨rfl, Below.refl _ _⟩

/-- laws.FnExactStepsOfLoop. -/
theorem law_StepsOfLoop (A0 : Option Addr) (n0 c0 : Nat) (d0 : List Int) (w : World) (hp0 : IRow w A0 n0 d0) :
    Calls Try.prog 4 #[.slice A0 n0 c0] w fun e w' => e = .returned (.bool true) ∧ Below w.heap.size w w' := by
  by_cases ht : n0 ≤ 1048576
  · cases hz : loopB d0
    · exact lawStepsOfLoop_of A0 n0 c0 d0 1 [] w hp0 (by simp) ht (fun E f u h => specSteps_bad E n0 f d0 u h hz) (fun E f u h => implSteps_bad E n0 f d0 u h hz)
    · have hl := loopB_len hz
      exact lawStepsOfLoop_of A0 n0 c0 d0 0 (stepsL d0) w hp0 (by rw [stepsL_length]; omega) ht (fun E f u h => specSteps_ok E n0 f d0 u h hz) (fun E f u h => implSteps_ok E n0 f d0 u h hz)
  · exact lawStepsOfLoop_big A0 n0 c0 d0 w hp0 ht

end Go.Proofs.Ytfbdeeobmjndlaa
