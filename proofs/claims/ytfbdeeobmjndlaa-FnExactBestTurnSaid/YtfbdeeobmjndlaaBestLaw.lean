/- The best turn of a loop: the statement. -/
import Derived.Test.YtfbdeeobmjndlaaProg
import Derived.Test.YtfbdeeobmjndlaaLoopMath
import Derived.Test.YtfbdeeobmjndlaaInts
import Derived.Test.YtfbdeeobmjndlaaLoop
import Derived.Test.YtfbdeeobmjndlaaLoop2
import Derived.Test.YtfbdeeobmjndlaaLoop3
import Derived.Test.YtfbdeeobmjndlaaIGrids
import Derived.Test.YtfbdeeobmjndlaaBest2
import Derived.Deep.AppendLies
import Derived.Deep.DrawnRows
import Derived.Test.YtfbdeeobmjndlaaHold
import Derived.IntWalk
import Derived.WalkSpells
import Derived.OwnWalk
import Derived.Laws.AppendOwn
import Derived.Laws.OwnMore
import Derived.Deep.RegionWith
import Derived.Deep.DrawnRows
import Derived.Deep.RegionHeld3
import Derived.Tactics
import Derived.Tactics2
import Derived.WalkKit
import Derived.LoopTactic
import Derived.BigQuiet
import Derived.RegionTactic
import Derived.Deep.QuietTactic
import Derived.Outline
import Derived.Lib.Hide
import Derived.Below
import Derived.KernelRfl
namespace Go.Proofs.Ytfbdeeobmjndlaa
set_option linter.unusedSimpArgs false
set_option linter.unusedVariables false
open Go.RowKit

set_option maxHeartbeats 2000000 in
set_option maxRecDepth 100000 in
/-- laws.FnExactBestTurn, out of contracts. -/
theorem lawBestTurn_of (A0 : Option Addr) (n0 c0 : Nat) (d0 : List Int) (A1 : Option Addr) (n1 c1 : Nat) (d1 : List Int) (z0 z1 z2 : Int) (w : World) (hp0 : IRow w A0 n0 d0) (hp1 : IRow w A1 n1 d1)  (ht0 : n0 ≤ 1048576) (ht1 : n1 ≤ 1048576)
    (hs : ∀ (E0 : Option Addr) (f0 : Nat) (E1 : Option Addr) (f1 : Nat) (u : World), RdI u E0 n0 d0 → RdI u E1 n1 d1 → Calls Try.prog 44 #[.slice E0 n0 f0, .slice E1 n1 f1] u fun e u' => e = .returned (.tuple #[.int .i64 z0, .int .i64 z1, .int .i64 z2]) ∧ Below u.heap.size u u')
    (hi : ∀ (E0 : Option Addr) (f0 : Nat) (E1 : Option Addr) (f1 : Nat) (u : World), RdI u E0 n0 d0 → RdI u E1 n1 d1 → Calls Try.prog 45 #[.slice E0 n0 f0, .slice E1 n1 f1] u fun e u' => e = .returned (.tuple #[.int .i64 z0, .int .i64 z1, .int .i64 z2]) ∧ Below u.heap.size u u')
    : Calls Try.prog 10 #[.slice A0 n0 c0, .slice A1 n1 c1] w fun e w' => e = .returned (.bool true) ∧ Below w.heap.size w w' := by
  have HL0 := Lib.hid hp0.1
  have hm0 := ht0
  have hl0 := Nat.le_of_eq hp0.1
  have HP0 := Lib.hid hp0
  clear hp0
  have HL1 := Lib.hid hp1.1
  have hm1 := ht1
  have hl1 := Nat.le_of_eq hp1.1
  have HP1 := Lib.hid hp1
  clear hp1
  have S := Lib.hid hs
  have I := Lib.hid hi
  clear hs hi
  have B := Lib.hid (Below.refl w.heap.size w)
  go_enter Try.func10, Try.ntmps10
  go_wp2_with fail
  refine (toI A0 n0 c0 d0 _ (HP0.out.below B.out) (by omega)).mono ?_
  rintro e u1 ⟨ET0, fT0, rfl, p1, hb1⟩
  have T0 := Lib.hid (ownsBase p1 (B' := w.heap.size) B.out.size)
  replace B := Lib.hid (bTrans B.out hb1)
  clear p1 hb1
  go_wp2_with fail
  refine (toI A1 n1 c1 d1 _ (HP1.out.below B.out) (by omega)).mono ?_
  rintro e u2 ⟨ET1, fT1, rfl, p2, hb2⟩
  have T1 := Lib.hid (ownsBase p2 (B' := w.heap.size) B.out.size)
  replace T0 := Lib.hid (Ints.below T0.out hb2)
  replace B := Lib.hid (bTrans B.out hb2)
  clear p2 hb2
  go_wp2_with fail
  refine (S.out _ _ _ _ _ (Ints.rdOf T0.out HL0.out (by omega)) (Ints.rdOf T1.out HL1.out (by omega))).mono ?_
  rintro e u3 ⟨rfl, hb3⟩
  replace T0 := Lib.hid (Ints.below T0.out hb3)
  replace T1 := Lib.hid (Ints.below T1.out hb3)
  replace B := Lib.hid (bTrans B.out hb3)
  clear hb3
  clear T0 T1
  go_wp2_with fail
  refine (toI A0 n0 c0 d0 _ (HP0.out.below B.out) (by omega)).mono ?_
  rintro e u4 ⟨EX0, fX0, rfl, p4, hb4⟩
  have X0 := Lib.hid (ownsBase p4 (B' := w.heap.size) B.out.size)
  replace B := Lib.hid (bTrans B.out hb4)
  clear p4 hb4
  go_wp2_with fail
  refine (toI A1 n1 c1 d1 _ (HP1.out.below B.out) (by omega)).mono ?_
  rintro e u5 ⟨EX1, fX1, rfl, p5, hb5⟩
  have SX0X1 := Lib.hid (sepOf _ (fun q hq => (ownsLt X0.out q hq).2) (fun q hq => (ownsLt p5 q hq).1))
  have X1 := Lib.hid (ownsBase p5 (B' := w.heap.size) B.out.size)
  replace X0 := Lib.hid (Ints.below X0.out hb5)
  replace B := Lib.hid (bTrans B.out hb5)
  clear p5 hb5
  go_wp2_with fail
  refine (I.out _ _ _ _ _ (Ints.rdOf X0.out HL0.out (by omega)) (Ints.rdOf X1.out HL1.out (by omega))).mono ?_
  rintro e u6 ⟨rfl, hb6⟩
  replace X0 := Lib.hid (Ints.below X0.out hb6)
  replace X1 := Lib.hid (Ints.below X1.out hb6)
  replace B := Lib.hid (bTrans B.out hb6)
  clear hb6
  go_wp2_with fail
  refine (toI A0 n0 c0 d0 _ (HP0.out.below B.out) (by omega)).mono ?_
  rintro e u7 ⟨EY0, fY0, rfl, p7, hb7⟩
  have Y0 := Lib.hid (ownsBase p7 (B' := w.heap.size) B.out.size)
  replace X0 := Lib.hid (Ints.below X0.out hb7)
  replace X1 := Lib.hid (Ints.below X1.out hb7)
  replace B := Lib.hid (bTrans B.out hb7)
  clear p7 hb7
  go_wp2_with fail
  refine (eqInt64S_rdB EX0 EY0 n0 fX0 fY0 d0 _ (Ints.rdOf X0.out HL0.out (by omega)) (Ints.rdOf Y0.out HL0.out (by omega))).mono ?_
  rintro e u8 ⟨rfl, hb8⟩
  replace X0 := Lib.hid (Ints.below X0.out hb8)
  replace X1 := Lib.hid (Ints.below X1.out hb8)
  replace Y0 := Lib.hid (Ints.below Y0.out hb8)
  replace B := Lib.hid (bTrans B.out hb8)
  clear hb8
  clear Y0
  go_wp2_with fail
  refine (toI A1 n1 c1 d1 _ (HP1.out.below B.out) (by omega)).mono ?_
  rintro e u9 ⟨EY1, fY1, rfl, p9, hb9⟩
  have Y1 := Lib.hid (ownsBase p9 (B' := w.heap.size) B.out.size)
  replace X0 := Lib.hid (Ints.below X0.out hb9)
  replace X1 := Lib.hid (Ints.below X1.out hb9)
  replace B := Lib.hid (bTrans B.out hb9)
  clear p9 hb9
  go_wp2_with fail
  refine (eqInt64S_rdB EX1 EY1 n1 fX1 fY1 d1 _ (Ints.rdOf X1.out HL1.out (by omega)) (Ints.rdOf Y1.out HL1.out (by omega))).mono ?_
  rintro e u10 ⟨rfl, hb10⟩
  replace X0 := Lib.hid (Ints.below X0.out hb10)
  replace X1 := Lib.hid (Ints.below X1.out hb10)
  replace Y1 := Lib.hid (Ints.below Y1.out hb10)
  replace B := Lib.hid (bTrans B.out hb10)
  clear hb10
  clear Y1
  go_wp2_with fail
  go_ret
  exact ⟨rfl, B.out⟩

set_option maxRecDepth 100000 in
/-- laws.FnExactBestTurn, of what is too large to be looked at. -/
theorem lawBestTurn_big (A0 : Option Addr) (n0 c0 : Nat) (d0 : List Int) (A1 : Option Addr) (n1 c1 : Nat) (d1 : List Int) (w : World) (hp0 : IRow w A0 n0 d0) (hp1 : IRow w A1 n1 d1) (ht : ¬ (n0 ≤ 1048576 ∧ n1 ≤ 1048576)) :
    Calls Try.prog 10 #[.slice A0 n0 c0, .slice A1 n1 c1] w fun e w' => e = .returned (.bool true) ∧ Below w.heap.size w w' := by
  have hm0 := hp0.2.1
  have hm1 := hp1.2.1
  unfold maxLen at hm0 hm1
  clear hp0
  clear hp1
  by_cases h1 : n0 ≤ 1048576
  · have h2 : ¬ n1 ≤ 1048576 := fun h => ht ⟨h1, h⟩
    clear ht
    go_enter Try.func10, Try.ntmps10
    go_wp2
    go_ret
    exact ⟨rfl, Below.refl _ _⟩
  · clear ht
    go_enter Try.func10, Try.ntmps10
    go_wp2
    go_ret
    exact ⟨rfl, Below.refl _ _⟩


/-- laws.FnExactBestTurn. -/
theorem law_BestTurn (A0 : Option Addr) (n0 c0 : Nat) (d0 : List Int) (A1 : Option Addr) (n1 c1 : Nat) (d1 : List Int) (w : World) (hp0 : IRow w A0 n0 d0) (hp1 : IRow w A1 n1 d1) :
    Calls Try.prog 10 #[.slice A0 n0 c0, .slice A1 n1 c1] w fun e w' => e = .returned (.bool true) ∧ Below w.heap.size w w' := by
  by_cases ht : n0 ≤ 1048576 ∧ n1 ≤ 1048576
  · cases hz : loopB d0 && loopB d1
    · exact lawBestTurn_of A0 n0 c0 d0 A1 n1 c1 d1 0 0 1 w hp0 hp1 ht.1 ht.2 (fun E f E' f' u h h' => specBest_bad E E' n0 f n1 f' d0 d1 u h h' hz) (fun E f E' f' u h h' => implBest_bad E E' n0 f n1 f' d0 d1 u h h' hz)
    · have hz2 := hz
      simp only [Bool.and_eq_true] at hz2
      obtain ⟨hx, hy⟩ := hz2
      by_cases hn : n0 = n1
      · subst hn
        exact lawBestTurn_of A0 n0 c0 d0 A1 n0 c1 d1 _ _ 0 w hp0 hp1 ht.1 ht.2 (fun E f E' f' u h h' => specBest_ok E E' n0 f f' d0 d1 u h h' hx hy) (fun E f E' f' u h h' => implBest_ok E E' n0 f f' d0 d1 u h h' hx hy)
      · exact lawBestTurn_of A0 n0 c0 d0 A1 n1 c1 d1 0 0 8 w hp0 hp1 ht.1 ht.2 (fun E f E' f' u h h' => specBest_format E E' n0 f n1 f' d0 d1 u h h' hx hy hn) (fun E f E' f' u h h' => implBest_format E E' n0 f n1 f' d0 d1 u h h' hz hn)
  · exact lawBestTurn_big A0 n0 c0 d0 A1 n1 c1 d1 w hp0 hp1 ht

end Go.Proofs.Ytfbdeeobmjndlaa
