/- Poses that are valid, that are equal: the statements' own walks. -/
import Derived.Test.YtdglldfnanhklaaProg
import Derived.Test.YtdglldfnanhklaaPose
import Derived.Test.YtdglldfnanhklaaKeys
import Derived.OwnWalk
import Derived.Deep.RegionWith
import Derived.Deep.DrawnRows
import Derived.Deep.RegionHeld3
import Derived.Tactics
import Derived.Tactics2
import Derived.WalkKit
import Derived.LoopTactic
import Derived.BigQuiet
import Derived.RegionTactic
import Derived.Deep.QuietTactic
import Derived.Outline
import Derived.Lib.Hide
import Derived.Below
import Derived.KernelRfl
namespace Go.Proofs.Ytdglldfnanhklaa
set_option linter.unusedSimpArgs false
set_option linter.unusedVariables false
open Go.RowKit

set_option maxHeartbeats 2000000 in
set_option maxRecDepth 100000 in
/-- laws.FnExactValidPose, out of contracts. -/
theorem lawValidPose_of (A0 : Option Addr) (n0 c0 : Nat) (d0 : List Pt) (z : Bool) (w : World) (hp0 : PRow w A0 n0 d0)  (ht : n0 ≤ 1048576)
    (hs : ∀ (E0 : Option Addr) (f0 : Nat) (u : World), Rd u E0 n0 d0 → Calls Try.prog 32 #[.slice E0 n0 f0] u fun e u' => e = .returned (.bool z) ∧ Below u.heap.size u u')
    (hi : ∀ (E0 : Option Addr) (f0 : Nat) (u : World), Rd u E0 n0 d0 → Calls Try.prog 31 #[.slice E0 n0 f0] u fun e u' => e = .returned (.bool z) ∧ Below u.heap.size u u')
    : Calls Try.prog 5 #[.slice A0 n0 c0] w fun e w' => e = .returned (.bool true) ∧ Below w.heap.size w w' := by
  have HL0 := Lib.hid hp0.1
  have hm0 := hp0.2.1
  have HP0 := Lib.hid hp0
  clear hp0
  have S := Lib.hid hs
  have I := Lib.hid hi
  clear hs hi
  have B := Lib.hid (Below.refl w.heap.size w)
  go_enter Try.func5, Try.ntmps5
  go_wp2_with fail
  refine (sz_in A0 n0 c0 (1048576) _ hm0 (by omega) (by omega)).mono ?_
  rintro e u ⟨rfl, rfl⟩
  go_wp2_with fail
  refine (toP A0 n0 c0 d0 _ (HP0.out.below B.out) (by omega)).mono ?_
  rintro e u1 ⟨ET0, fT0, rfl, p1, hb1⟩
  have T0 := Lib.hid (Pts.base p1 (B' := w.heap.size) B.out.size)
  replace B := Lib.hid (bTrans B.out hb1)
  clear p1 hb1
  go_wp2_with fail
  refine (S.out _ _ _ (T0.out.rdOf HL0.out (by omega))).mono ?_
  rintro e u2 ⟨rfl, hb2⟩
  replace T0 := Lib.hid (Pts.below T0.out hb2)
  replace B := Lib.hid (bTrans B.out hb2)
  clear hb2
  clear T0
  go_wp2_with fail
  refine (toP A0 n0 c0 d0 _ (HP0.out.below B.out) (by omega)).mono ?_
  rintro e u3 ⟨EX0, fX0, rfl, p3, hb3⟩
  have X0 := Lib.hid (Pts.base p3 (B' := w.heap.size) B.out.size)
  replace B := Lib.hid (bTrans B.out hb3)
  clear p3 hb3
  go_wp2_with fail
  refine (I.out _ _ _ (X0.out.rdOf HL0.out (by omega))).mono ?_
  rintro e u4 ⟨rfl, hb4⟩
  replace X0 := Lib.hid (Pts.below X0.out hb4)
  replace B := Lib.hid (bTrans B.out hb4)
  clear hb4
  go_wp2_with fail
  refine (toP A0 n0 c0 d0 _ (HP0.out.below B.out) (by omega)).mono ?_
  rintro e u5 ⟨EY0, fY0, rfl, p5, hb5⟩
  have Y0 := Lib.hid (Pts.base p5 (B' := w.heap.size) B.out.size)
  replace X0 := Lib.hid (Pts.below X0.out hb5)
  replace B := Lib.hid (bTrans B.out hb5)
  clear p5 hb5
  go_wp2_with fail
  refine (eqPointS_same EX0 EY0 n0 fX0 fY0 d0 _ (X0.out.rdOf HL0.out (by omega)) (Y0.out.rdOf HL0.out (by omega))).mono ?_
  rintro e u6 ⟨rfl, hb6⟩
  replace X0 := Lib.hid (Pts.below X0.out hb6)
  replace Y0 := Lib.hid (Pts.below Y0.out hb6)
  replace B := Lib.hid (bTrans B.out hb6)
  clear hb6
  clear Y0
  go_wp2_with fail
  go_ret
  exact ⟨rfl, B.out⟩

set_option maxRecDepth 100000 in
/-- laws.FnExactValidPose, of what is too large to be looked at. -/
theorem lawValidPose_big (A0 : Option Addr) (n0 c0 : Nat) (d0 : List Pt) (w : World) (hp0 : PRow w A0 n0 d0) (ht : ¬ n0 ≤ 1048576) :
    Calls Try.prog 5 #[.slice A0 n0 c0] w fun e w' => e = .returned (.bool true) ∧ Below w.heap.size w w' := by
  have hm0 := hp0.2.1
  have HP0 := Lib.hid hp0
  clear hp0
  go_enter Try.func5, Try.ntmps5
  go_wp2_with fail
  refine (sz_over A0 n0 c0 1048576 _ hm0 (by omega) (by omega)).mono ?_
  rintro e u ⟨rfl, rfl⟩
  go_wp2_with fail
  go_ret
  exact ⟨rfl, Below.refl _ _⟩


set_option maxHeartbeats 2000000 in
set_option maxRecDepth 100000 in
/-- laws.FnExactSamePose, out of contracts. -/
theorem lawSamePose_of (A0 : Option Addr) (n0 c0 : Nat) (d0 : List Pt) (A1 : Option Addr) (n1 c1 : Nat) (d1 : List Pt) (z : Bool) (w : World) (hp0 : PRow w A0 n0 d0) (hp1 : PRow w A1 n1 d1)  (ht : n0 + n1 ≤ 1048576)
    (hs : ∀ (E0 : Option Addr) (f0 : Nat) (E1 : Option Addr) (f1 : Nat) (u : World), Rd u E0 n0 d0 → Rd u E1 n1 d1 → Calls Try.prog 29 #[.slice E0 n0 f0, .slice E1 n1 f1] u fun e u' => e = .returned (.bool z) ∧ Below u.heap.size u u')
    (hi : ∀ (E0 : Option Addr) (f0 : Nat) (E1 : Option Addr) (f1 : Nat) (u : World), Rd u E0 n0 d0 → Rd u E1 n1 d1 → Calls Try.prog 30 #[.slice E0 n0 f0, .slice E1 n1 f1] u fun e u' => e = .returned (.bool z) ∧ Below u.heap.size u u')
    : Calls Try.prog 6 #[.slice A0 n0 c0, .slice A1 n1 c1] w fun e w' => e = .returned (.bool true) ∧ Below w.heap.size w w' := by
  have HL0 := Lib.hid hp0.1
  have hm0 := hp0.2.1
  have HP0 := Lib.hid hp0
  clear hp0
  have HL1 := Lib.hid hp1.1
  have hm1 := hp1.2.1
  have HP1 := Lib.hid hp1
  clear hp1
  have S := Lib.hid hs
  have I := Lib.hid hi
  clear hs hi
  have B := Lib.hid (Below.refl w.heap.size w)
  go_enter Try.func6, Try.ntmps6
  go_wp2_with fail
  refine (sz_in A0 n0 c0 (1048576) _ hm0 (by omega) (by omega)).mono ?_
  rintro e u ⟨rfl, rfl⟩
  go_wp2_with fail
  refine (sz_in A1 n1 c1 (1048576 - n0) _ hm1 (by omega) (by omega)).mono ?_
  rintro e u ⟨rfl, rfl⟩
  go_wp2_with fail
  refine (toP A0 n0 c0 d0 _ (HP0.out.below B.out) (by omega)).mono ?_
  rintro e u1 ⟨ET0, fT0, rfl, p1, hb1⟩
  have T0 := Lib.hid (Pts.base p1 (B' := w.heap.size) B.out.size)
  replace B := Lib.hid (bTrans B.out hb1)
  clear p1 hb1
  go_wp2_with fail
  refine (toP A1 n1 c1 d1 _ (HP1.out.below B.out) (by omega)).mono ?_
  rintro e u2 ⟨ET1, fT1, rfl, p2, hb2⟩
  have T1 := Lib.hid (Pts.base p2 (B' := w.heap.size) B.out.size)
  replace T0 := Lib.hid (Pts.below T0.out hb2)
  replace B := Lib.hid (bTrans B.out hb2)
  clear p2 hb2
  go_wp2_with fail
  refine (S.out _ _ _ _ _ (T0.out.rdOf HL0.out (by omega)) (T1.out.rdOf HL1.out (by omega))).mono ?_
  rintro e u3 ⟨rfl, hb3⟩
  replace T0 := Lib.hid (Pts.below T0.out hb3)
  replace T1 := Lib.hid (Pts.below T1.out hb3)
  replace B := Lib.hid (bTrans B.out hb3)
  clear hb3
  clear T0 T1
  go_wp2_with fail
  refine (toP A0 n0 c0 d0 _ (HP0.out.below B.out) (by omega)).mono ?_
  rintro e u4 ⟨EX0, fX0, rfl, p4, hb4⟩
  have X0 := Lib.hid (Pts.base p4 (B' := w.heap.size) B.out.size)
  replace B := Lib.hid (bTrans B.out hb4)
  clear p4 hb4
  go_wp2_with fail
  refine (toP A1 n1 c1 d1 _ (HP1.out.below B.out) (by omega)).mono ?_
  rintro e u5 ⟨EX1, fX1, rfl, p5, hb5⟩
  have SX0X1 := Lib.hid (sepOf _ (fun q hq => (ownsLt X0.out q hq).2) (fun q hq => (ownsLt p5 q hq).1))
  have X1 := Lib.hid (Pts.base p5 (B' := w.heap.size) B.out.size)
  replace X0 := Lib.hid (Pts.below X0.out hb5)
  replace B := Lib.hid (bTrans B.out hb5)
  clear p5 hb5
  go_wp2_with fail
  refine (I.out _ _ _ _ _ (X0.out.rdOf HL0.out (by omega)) (X1.out.rdOf HL1.out (by omega))).mono ?_
  rintro e u6 ⟨rfl, hb6⟩
  replace X0 := Lib.hid (Pts.below X0.out hb6)
  replace X1 := Lib.hid (Pts.below X1.out hb6)
  replace B := Lib.hid (bTrans B.out hb6)
  clear hb6
  go_wp2_with fail
  refine (toP A0 n0 c0 d0 _ (HP0.out.below B.out) (by omega)).mono ?_
  rintro e u7 ⟨EY0, fY0, rfl, p7, hb7⟩
  have Y0 := Lib.hid (Pts.base p7 (B' := w.heap.size) B.out.size)
  replace X0 := Lib.hid (Pts.below X0.out hb7)
  replace X1 := Lib.hid (Pts.below X1.out hb7)
  replace B := Lib.hid (bTrans B.out hb7)
  clear p7 hb7
  go_wp2_with fail
  refine (eqPointS_same EX0 EY0 n0 fX0 fY0 d0 _ (X0.out.rdOf HL0.out (by omega)) (Y0.out.rdOf HL0.out (by omega))).mono ?_
  rintro e u8 ⟨rfl, hb8⟩
  replace X0 := Lib.hid (Pts.below X0.out hb8)
  replace X1 := Lib.hid (Pts.below X1.out hb8)
  replace Y0 := Lib.hid (Pts.below Y0.out hb8)
  replace B := Lib.hid (bTrans B.out hb8)
  clear hb8
  clear Y0
  go_wp2_with fail
  refine (toP A1 n1 c1 d1 _ (HP1.out.below B.out) (by omega)).mono ?_
  rintro e u9 ⟨EY1, fY1, rfl, p9, hb9⟩
  have Y1 := Lib.hid (Pts.base p9 (B' := w.heap.size) B.out.size)
  replace X0 := Lib.hid (Pts.below X0.out hb9)
  replace X1 := Lib.hid (Pts.below X1.out hb9)
  replace B := Lib.hid (bTrans B.out hb9)
  clear p9 hb9
  go_wp2_with fail
  refine (eqPointS_same EX1 EY1 n1 fX1 fY1 d1 _ (X1.out.rdOf HL1.out (by omega)) (Y1.out.rdOf HL1.out (by omega))).mono ?_
  rintro e u10 ⟨rfl, hb10⟩
  replace X0 := Lib.hid (Pts.below X0.out hb10)
  replace X1 := Lib.hid (Pts.below X1.out hb10)
  replace Y1 := Lib.hid (Pts.below Y1.out hb10)
  replace B := Lib.hid (bTrans B.out hb10)
  clear hb10
  clear Y1
  go_wp2_with fail
  go_ret
  exact ⟨rfl, B.out⟩

set_option maxRecDepth 100000 in
/-- laws.FnExactSamePose, of what is too large to be looked at. -/
theorem lawSamePose_big (A0 : Option Addr) (n0 c0 : Nat) (d0 : List Pt) (A1 : Option Addr) (n1 c1 : Nat) (d1 : List Pt) (w : World) (hp0 : PRow w A0 n0 d0) (hp1 : PRow w A1 n1 d1) (ht : ¬ n0 + n1 ≤ 1048576) :
    Calls Try.prog 6 #[.slice A0 n0 c0, .slice A1 n1 c1] w fun e w' => e = .returned (.bool true) ∧ Below w.heap.size w w' := by
  have hm0 := hp0.2.1
  have HP0 := Lib.hid hp0
  clear hp0
  have hm1 := hp1.2.1
  have HP1 := Lib.hid hp1
  clear hp1
  by_cases h1 : n0 ≤ 1048576
  · go_enter Try.func6, Try.ntmps6
    go_wp2_with fail
    refine (sz_in A0 n0 c0 1048576 _ hm0 (by omega) (by omega)).mono ?_
    rintro e u ⟨rfl, rfl⟩
    go_wp2_with fail
    refine (sz_over A1 n1 c1 (1048576 - n0) _ hm1 (by omega) (by omega)).mono ?_
    rintro e u ⟨rfl, rfl⟩
    go_wp2_with fail
    go_ret
    exact ⟨rfl, Below.refl _ _⟩
  · go_enter Try.func6, Try.ntmps6
    go_wp2_with fail
    refine (sz_over A0 n0 c0 1048576 _ hm0 (by omega) (by omega)).mono ?_
    rintro e u ⟨rfl, rfl⟩
    go_wp2_with fail
    go_ret
    exact ⟨rfl, Below.refl _ _⟩


theorem belowDrewn {w u : World} (h : ∃ d, u = w.drewN d) : Below w.heap.size w u := by
  obtain ⟨d, rfl⟩ := h
  exact bDrewN (Below.refl _ _) d
theorem belowSame {w u : World} (h : w = u) : Below w.heap.size w u := by
  subst h
  exact Below.refl _ _

/-- laws.FnExactValidPose. -/
theorem law_ValidPose (A : Option Addr) (n c : Nat) (d : List Pt) (w : World) (hp : PRow w A n d) :
    Calls Try.prog 5 #[.slice A n c] w fun e w' => e = .returned (.bool true) ∧ Below w.heap.size w w' := by
  by_cases ht : n ≤ 1048576
  · exact lawValidPose_of A n c d (poseB d) w hp ht (fun E f u h => (specValidPose_any E n f d u h).mono fun _ _ hh => ⟨hh.1, belowSame hh.2⟩) (fun E f u h => validPose_any E n f d u h)
  · exact lawValidPose_big A n c d w hp ht

/-- laws.FnExactSamePose. -/
theorem law_SamePose (A : Option Addr) (n c : Nat) (d : List Pt) (A' : Option Addr) (n' c' : Nat) (d' : List Pt) (w : World) (hp : PRow w A n d) (hp' : PRow w A' n' d') :
    Calls Try.prog 6 #[.slice A n c, .slice A' n' c'] w fun e w' => e = .returned (.bool true) ∧ Below w.heap.size w w' := by
  by_cases ht : n + n' ≤ 1048576
  · exact lawSamePose_of A n c d A' n' c' d' (sameB d d') w hp hp' ht (fun E f E' f' u h h' => (specSamePose_any E E' n n' f f' d d' u h h').mono fun _ _ hh => ⟨hh.1, belowDrewn hh.2⟩) (fun E f E' f' u h h' => (samePose_any E E' n n' f f' d d' u h h').mono fun _ _ hh => ⟨hh.1, belowDrewn hh.2⟩)
  · exact lawSamePose_big A n c d A' n' c' d' w hp hp' ht

end Go.Proofs.Ytdglldfnanhklaa
