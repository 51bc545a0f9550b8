/- The statements of scenes: valid, equal, their length, their errors, the exact tick, the best tick: out of contracts. -/
import Derived.Test.YtibafngidpmgdabScn
import Derived.Tactics
import Derived.Tactics2
import Derived.WalkKit
import Derived.LoopTactic
import Derived.Outline
import Derived.Lib.Hide
import Derived.Below
import Derived.KernelRfl
namespace Go.Proofs.Ytibafngidpmgdab
set_option linter.unusedSimpArgs false
set_option linter.unusedVariables false
open Go.RowKit

set_option maxHeartbeats 2000000 in
set_option maxRecDepth 100000 in
/-- laws.FnExactValidScenes, out of contracts. -/
theorem lawValidScenes_of (A0 : Option Addr) (n0 c0 : Nat) (d0 : List Scn) (z0 : Bool) (w : World) (hp0 : CRow w A0 n0 d0) (ht : (n0 + totC d0) ≤ 1048576)
    (hs : ∀ (E0 : Option Addr) (f0 : Nat) (u : World), RdC u E0 n0 d0 → Calls Try.prog 27 #[.slice E0 n0 f0] u fun e u' => e = .returned (.bool z0) ∧ Below u.heap.size u u')
    (hi : ∀ (E0 : Option Addr) (f0 : Nat) (u : World), RdC u E0 n0 d0 → Calls Try.prog 29 #[.slice E0 n0 f0] u fun e u' => e = .returned (.bool z0) ∧ Below u.heap.size u u')
    : Calls Try.prog 5 #[.slice A0 n0 c0] w fun e w' => e = .returned (.bool true) ∧ Below w.heap.size w w' := by
  have HL0 := Lib.hid hp0.1
  have HP0 := Lib.hid hp0
  clear hp0
  have S := Lib.hid hs
  have I := Lib.hid hi
  clear hs hi
  have B := Lib.hid (Below.refl w.heap.size w)
  go_enter Try.func5, Try.ntmps5
  go_wp2_with fail
  refine (szC_in A0 n0 c0 d0 (1048576) _ (HP0.out.below B.out) (by omega) (by omega)).mono ?_
  rintro e u1 ⟨rfl, hb1⟩
  replace B := Lib.hid (bTrans B.out hb1)
  clear hb1
  go_wp2_with fail
  refine (toC A0 n0 c0 d0 _ (HP0.out.below B.out) (by omega)).mono ?_
  rintro e u2 ⟨ET0, fT0, rfl, p2, hb2⟩
  have T0 := Lib.hid (Scs.base p2 (B' := w.heap.size) B.out.size)
  replace B := Lib.hid (bTrans B.out hb2)
  clear p2 hb2
  go_wp2_with fail
  refine (S.out _ _ _ (Scs.rdOf T0.out HL0.out (by omega))).mono ?_
  rintro e u3 ⟨rfl, hb3⟩
  replace T0 := Lib.hid (Scs.below T0.out hb3)
  replace B := Lib.hid (bTrans B.out hb3)
  clear hb3
  clear T0
  go_wp2_with fail
  refine (toC A0 n0 c0 d0 _ (HP0.out.below B.out) (by omega)).mono ?_
  rintro e u4 ⟨EX0, fX0, rfl, p4, hb4⟩
  have X0 := Lib.hid (Scs.base p4 (B' := w.heap.size) B.out.size)
  replace B := Lib.hid (bTrans B.out hb4)
  clear p4 hb4
  go_wp2_with fail
  refine (I.out _ _ _ (Scs.rdOf X0.out HL0.out (by omega))).mono ?_
  rintro e u5 ⟨rfl, hb5⟩
  replace X0 := Lib.hid (Scs.below X0.out hb5)
  replace B := Lib.hid (bTrans B.out hb5)
  clear hb5
  go_wp2_with fail
  refine (toC A0 n0 c0 d0 _ (HP0.out.below B.out) (by omega)).mono ?_
  rintro e u6 ⟨EY0, fY0, rfl, p6, hb6⟩
  replace X0 := Lib.hid (Scs.below X0.out hb6)
  have Y0 := Lib.hid (Scs.base p6 (B' := w.heap.size) B.out.size)
  replace B := Lib.hid (bTrans B.out hb6)
  clear p6 hb6
  go_wp2_with fail
  refine (eqSceneS_same EX0 EY0 n0 fX0 fY0 d0 _ (Scs.rdOf X0.out HL0.out (by omega)) (Scs.rdOf Y0.out HL0.out (by omega))).mono ?_
  rintro e u7 ⟨rfl, hb7⟩
  replace X0 := Lib.hid (Scs.below X0.out hb7)
  replace Y0 := Lib.hid (Scs.below Y0.out hb7)
  replace B := Lib.hid (bTrans B.out hb7)
  clear hb7
  clear Y0
  go_wp2_with fail
  go_ret
  exact ⟨rfl, B.out⟩

set_option maxRecDepth 100000 in
/-- laws.FnExactValidScenes, of what is too large to be looked at. -/
theorem lawValidScenes_big (A0 : Option Addr) (n0 c0 : Nat) (d0 : List Scn) (w : World) (hp0 : CRow w A0 n0 d0) (ht : ¬ (n0 + totC d0) ≤ 1048576) :
    Calls Try.prog 5 #[.slice A0 n0 c0] w fun e w' => e = .returned (.bool true) ∧ Below w.heap.size w w' := by
  have HP0 := Lib.hid hp0
  clear hp0
  go_enter Try.func5, Try.ntmps5
  go_wp2_with fail
  refine (szC_over A0 n0 c0 d0 (1048576) _ HP0.out (by omega) (by omega)).mono ?_
  rintro e v ⟨rfl, hb⟩
  go_wp2_with fail
  go_ret
  exact ⟨rfl, hb⟩

set_option maxHeartbeats 2000000 in
set_option maxRecDepth 100000 in
/-- laws.FnExactSameScenes, out of contracts. -/
theorem lawSameScenes_of (A0 : Option Addr) (n0 c0 : Nat) (d0 : List Scn) (A1 : Option Addr) (n1 c1 : Nat) (d1 : List Scn) (z0 : Bool) (w : World) (hp0 : CRow w A0 n0 d0) (hp1 : CRow w A1 n1 d1) (ht : (n0 + totC d0) + (n1 + totC d1) ≤ 1048576)
    (hs : ∀ (E0 : Option Addr) (f0 : Nat) (E1 : Option Addr) (f1 : Nat) (u : World), RdC u E0 n0 d0 → RdC u E1 n1 d1 → Calls Try.prog 22 #[.slice E0 n0 f0, .slice E1 n1 f1] u fun e u' => e = .returned (.bool z0) ∧ Below u.heap.size u u')
    (hi : ∀ (E0 : Option Addr) (f0 : Nat) (E1 : Option Addr) (f1 : Nat) (u : World), RdC u E0 n0 d0 → RdC u E1 n1 d1 → Calls Try.prog 31 #[.slice E0 n0 f0, .slice E1 n1 f1] u fun e u' => e = .returned (.bool z0) ∧ Below u.heap.size u u')
    : Calls Try.prog 6 #[.slice A0 n0 c0, .slice A1 n1 c1] w fun e w' => e = .returned (.bool true) ∧ Below w.heap.size w w' := by
  have HL0 := Lib.hid hp0.1
  have HP0 := Lib.hid hp0
  clear hp0
  have HL1 := Lib.hid hp1.1
  have HP1 := Lib.hid hp1
  clear hp1
  have S := Lib.hid hs
  have I := Lib.hid hi
  clear hs hi
  have B := Lib.hid (Below.refl w.heap.size w)
  go_enter Try.func6, Try.ntmps6
  go_wp2_with fail
  refine (szC_in A0 n0 c0 d0 (1048576) _ (HP0.out.below B.out) (by omega) (by omega)).mono ?_
  rintro e u1 ⟨rfl, hb1⟩
  replace B := Lib.hid (bTrans B.out hb1)
  clear hb1
  go_wp2_with fail
  refine (szC_in A1 n1 c1 d1 (1048576 - (n0 + totC d0)) _ (HP1.out.below B.out) (by omega) (by omega)).mono ?_
  rintro e u2 ⟨rfl, hb2⟩
  replace B := Lib.hid (bTrans B.out hb2)
  clear hb2
  go_wp2_with fail
  refine (toC A0 n0 c0 d0 _ (HP0.out.below B.out) (by omega)).mono ?_
  rintro e u3 ⟨ET0, fT0, rfl, p3, hb3⟩
  have T0 := Lib.hid (Scs.base p3 (B' := w.heap.size) B.out.size)
  replace B := Lib.hid (bTrans B.out hb3)
  clear p3 hb3
  go_wp2_with fail
  refine (toC A1 n1 c1 d1 _ (HP1.out.below B.out) (by omega)).mono ?_
  rintro e u4 ⟨ET1, fT1, rfl, p4, hb4⟩
  replace T0 := Lib.hid (Scs.below T0.out hb4)
  have T1 := Lib.hid (Scs.base p4 (B' := w.heap.size) B.out.size)
  replace B := Lib.hid (bTrans B.out hb4)
  clear p4 hb4
  go_wp2_with fail
  refine (S.out _ _ _ _ _ (Scs.rdOf T0.out HL0.out (by omega)) (Scs.rdOf T1.out HL1.out (by omega))).mono ?_
  rintro e u5 ⟨rfl, hb5⟩
  replace T0 := Lib.hid (Scs.below T0.out hb5)
  replace T1 := Lib.hid (Scs.below T1.out hb5)
  replace B := Lib.hid (bTrans B.out hb5)
  clear hb5
  clear T0 T1
  go_wp2_with fail
  refine (toC A0 n0 c0 d0 _ (HP0.out.below B.out) (by omega)).mono ?_
  rintro e u6 ⟨EX0, fX0, rfl, p6, hb6⟩
  have X0 := Lib.hid (Scs.base p6 (B' := w.heap.size) B.out.size)
  replace B := Lib.hid (bTrans B.out hb6)
  clear p6 hb6
  go_wp2_with fail
  refine (toC A1 n1 c1 d1 _ (HP1.out.below B.out) (by omega)).mono ?_
  rintro e u7 ⟨EX1, fX1, rfl, p7, hb7⟩
  replace X0 := Lib.hid (Scs.below X0.out hb7)
  have X1 := Lib.hid (Scs.base p7 (B' := w.heap.size) B.out.size)
  replace B := Lib.hid (bTrans B.out hb7)
  clear p7 hb7
  go_wp2_with fail
  refine (I.out _ _ _ _ _ (Scs.rdOf X0.out HL0.out (by omega)) (Scs.rdOf X1.out HL1.out (by omega))).mono ?_
  rintro e u8 ⟨rfl, hb8⟩
  replace X0 := Lib.hid (Scs.below X0.out hb8)
  replace X1 := Lib.hid (Scs.below X1.out hb8)
  replace B := Lib.hid (bTrans B.out hb8)
  clear hb8
  go_wp2_with fail
  refine (toC A0 n0 c0 d0 _ (HP0.out.below B.out) (by omega)).mono ?_
  rintro e u9 ⟨EY0, fY0, rfl, p9, hb9⟩
  replace X0 := Lib.hid (Scs.below X0.out hb9)
  replace X1 := Lib.hid (Scs.below X1.out hb9)
  have Y0 := Lib.hid (Scs.base p9 (B' := w.heap.size) B.out.size)
  replace B := Lib.hid (bTrans B.out hb9)
  clear p9 hb9
  go_wp2_with fail
  refine (eqSceneS_same EX0 EY0 n0 fX0 fY0 d0 _ (Scs.rdOf X0.out HL0.out (by omega)) (Scs.rdOf Y0.out HL0.out (by omega))).mono ?_
  rintro e u10 ⟨rfl, hb10⟩
  replace X0 := Lib.hid (Scs.below X0.out hb10)
  replace X1 := Lib.hid (Scs.below X1.out hb10)
  replace Y0 := Lib.hid (Scs.below Y0.out hb10)
  replace B := Lib.hid (bTrans B.out hb10)
  clear hb10
  clear Y0
  go_wp2_with fail
  refine (toC A1 n1 c1 d1 _ (HP1.out.below B.out) (by omega)).mono ?_
  rintro e u11 ⟨EY1, fY1, rfl, p11, hb11⟩
  replace X0 := Lib.hid (Scs.below X0.out hb11)
  replace X1 := Lib.hid (Scs.below X1.out hb11)
  have Y1 := Lib.hid (Scs.base p11 (B' := w.heap.size) B.out.size)
  replace B := Lib.hid (bTrans B.out hb11)
  clear p11 hb11
  go_wp2_with fail
  refine (eqSceneS_same EX1 EY1 n1 fX1 fY1 d1 _ (Scs.rdOf X1.out HL1.out (by omega)) (Scs.rdOf Y1.out HL1.out (by omega))).mono ?_
  rintro e u12 ⟨rfl, hb12⟩
  replace X0 := Lib.hid (Scs.below X0.out hb12)
  replace X1 := Lib.hid (Scs.below X1.out hb12)
  replace Y1 := Lib.hid (Scs.below Y1.out hb12)
  replace B := Lib.hid (bTrans B.out hb12)
  clear hb12
  clear Y1
  go_wp2_with fail
  go_ret
  exact ⟨rfl, B.out⟩

set_option maxRecDepth 100000 in
/-- laws.FnExactSameScenes, of what is too large to be looked at. -/
theorem lawSameScenes_big (A0 : Option Addr) (n0 c0 : Nat) (d0 : List Scn) (A1 : Option Addr) (n1 c1 : Nat) (d1 : List Scn) (w : World) (hp0 : CRow w A0 n0 d0) (hp1 : CRow w A1 n1 d1) (ht : ¬ (n0 + totC d0) + (n1 + totC d1) ≤ 1048576) :
    Calls Try.prog 6 #[.slice A0 n0 c0, .slice A1 n1 c1] w fun e w' => e = .returned (.bool true) ∧ Below w.heap.size w w' := by
  have HP0 := Lib.hid hp0
  clear hp0
  have HP1 := Lib.hid hp1
  clear hp1
  by_cases h1 : (n0 + totC d0) ≤ 1048576
  · go_enter Try.func6, Try.ntmps6
    go_wp2_with fail
    refine (szC_in A0 n0 c0 d0 (1048576) _ HP0.out (by omega) (by omega)).mono ?_
    rintro e u ⟨rfl, hb0⟩
    have B0 := Lib.hid hb0
    clear hb0
    go_wp2_with fail
    refine (szC_over A1 n1 c1 d1 (1048576 - (n0 + totC d0)) _ (HP1.out.below B0.out) (by omega) (by omega)).mono ?_
    rintro e v ⟨rfl, hb⟩
    go_wp2_with fail
    go_ret
    exact ⟨rfl, bTrans B0.out hb⟩
  · go_enter Try.func6, Try.ntmps6
    go_wp2_with fail
    refine (szC_over A0 n0 c0 d0 (1048576) _ HP0.out (by omega) (by omega)).mono ?_
    rintro e v ⟨rfl, hb⟩
    go_wp2_with fail
    go_ret
    exact ⟨rfl, hb⟩

set_option maxHeartbeats 2000000 in
set_option maxRecDepth 100000 in
/-- laws.FnExactExactTick, out of contracts. -/
theorem lawExactTick_of (A0 : Option Addr) (n0 c0 : Nat) (d0 : List Scn) (z0 : Int) (z1 : Int) (w : World) (hp0 : CRow w A0 n0 d0) (ht : (n0 + totC d0) ≤ 1048576)
    (hs : ∀ (E0 : Option Addr) (f0 : Nat) (u : World), RdC u E0 n0 d0 → Calls Try.prog 36 #[.slice E0 n0 f0] u fun e u' => e = .returned (.tuple #[.int .i64 z0, .int .i64 z1]) ∧ Below u.heap.size u u')
    (hi : ∀ (E0 : Option Addr) (f0 : Nat) (u : World), RdC u E0 n0 d0 → Calls Try.prog 17 #[.slice E0 n0 f0] u fun e u' => e = .returned (.tuple #[.int .i64 z0, .int .i64 z1]) ∧ Below u.heap.size u u')
    : Calls Try.prog 9 #[.slice A0 n0 c0] w fun e w' => e = .returned (.bool true) ∧ Below w.heap.size w w' := by
  have HL0 := Lib.hid hp0.1
  have HP0 := Lib.hid hp0
  clear hp0
  have S := Lib.hid hs
  have I := Lib.hid hi
  clear hs hi
  have B := Lib.hid (Below.refl w.heap.size w)
  go_enter Try.func9, Try.ntmps9
  go_wp2_with fail
  refine (szC_in A0 n0 c0 d0 (1048576) _ (HP0.out.below B.out) (by omega) (by omega)).mono ?_
  rintro e u1 ⟨rfl, hb1⟩
  replace B := Lib.hid (bTrans B.out hb1)
  clear hb1
  go_wp2_with fail
  refine (toC A0 n0 c0 d0 _ (HP0.out.below B.out) (by omega)).mono ?_
  rintro e u2 ⟨ET0, fT0, rfl, p2, hb2⟩
  have T0 := Lib.hid (Scs.base p2 (B' := w.heap.size) B.out.size)
  replace B := Lib.hid (bTrans B.out hb2)
  clear p2 hb2
  go_wp2_with fail
  refine (S.out _ _ _ (Scs.rdOf T0.out HL0.out (by omega))).mono ?_
  rintro e u3 ⟨rfl, hb3⟩
  replace T0 := Lib.hid (Scs.below T0.out hb3)
  replace B := Lib.hid (bTrans B.out hb3)
  clear hb3
  clear T0
  go_wp2_with fail
  refine (toC A0 n0 c0 d0 _ (HP0.out.below B.out) (by omega)).mono ?_
  rintro e u4 ⟨EX0, fX0, rfl, p4, hb4⟩
  have X0 := Lib.hid (Scs.base p4 (B' := w.heap.size) B.out.size)
  replace B := Lib.hid (bTrans B.out hb4)
  clear p4 hb4
  go_wp2_with fail
  refine (I.out _ _ _ (Scs.rdOf X0.out HL0.out (by omega))).mono ?_
  rintro e u5 ⟨rfl, hb5⟩
  replace X0 := Lib.hid (Scs.below X0.out hb5)
  replace B := Lib.hid (bTrans B.out hb5)
  clear hb5
  go_wp2_with fail
  refine (toC A0 n0 c0 d0 _ (HP0.out.below B.out) (by omega)).mono ?_
  rintro e u6 ⟨EY0, fY0, rfl, p6, hb6⟩
  replace X0 := Lib.hid (Scs.below X0.out hb6)
  have Y0 := Lib.hid (Scs.base p6 (B' := w.heap.size) B.out.size)
  replace B := Lib.hid (bTrans B.out hb6)
  clear p6 hb6
  go_wp2_with fail
  refine (eqSceneS_same EX0 EY0 n0 fX0 fY0 d0 _ (Scs.rdOf X0.out HL0.out (by omega)) (Scs.rdOf Y0.out HL0.out (by omega))).mono ?_
  rintro e u7 ⟨rfl, hb7⟩
  replace X0 := Lib.hid (Scs.below X0.out hb7)
  replace Y0 := Lib.hid (Scs.below Y0.out hb7)
  replace B := Lib.hid (bTrans B.out hb7)
  clear hb7
  clear Y0
  go_wp2_with fail
  go_ret
  exact ⟨rfl, B.out⟩

set_option maxRecDepth 100000 in
/-- laws.FnExactExactTick, of what is too large to be looked at. -/
theorem lawExactTick_big (A0 : Option Addr) (n0 c0 : Nat) (d0 : List Scn) (w : World) (hp0 : CRow w A0 n0 d0) (ht : ¬ (n0 + totC d0) ≤ 1048576) :
    Calls Try.prog 9 #[.slice A0 n0 c0] w fun e w' => e = .returned (.bool true) ∧ Below w.heap.size w w' := by
  have HP0 := Lib.hid hp0
  clear hp0
  go_enter Try.func9, Try.ntmps9
  go_wp2_with fail
  refine (szC_over A0 n0 c0 d0 (1048576) _ HP0.out (by omega) (by omega)).mono ?_
  rintro e v ⟨rfl, hb⟩
  go_wp2_with fail
  go_ret
  exact ⟨rfl, hb⟩

set_option maxHeartbeats 2000000 in
set_option maxRecDepth 100000 in
/-- laws.FnExactBookFor, out of contracts. -/
theorem lawBookFor_of (A0 : Option Addr) (n0 c0 : Nat) (d0 : List Scn) (a1 : Int) (z0 : ByteArray) (z1 : Int) (w : World) (hp0 : CRow w A0 n0 d0) (ht : (n0 + totC d0) ≤ 1048576)
    (hs : ∀ (E0 : Option Addr) (f0 : Nat) (u : World), RdC u E0 n0 d0 → Calls Try.prog 37 #[.slice E0 n0 f0, .int .i64 a1] u fun e u' => e = .returned (.tuple #[.string z0, .int .i64 z1]) ∧ Below u.heap.size u u')
    (hi : ∀ (E0 : Option Addr) (f0 : Nat) (u : World), RdC u E0 n0 d0 → Calls Try.prog 19 #[.slice E0 n0 f0, .int .i64 a1] u fun e u' => e = .returned (.tuple #[.string z0, .int .i64 z1]) ∧ Below u.heap.size u u')
    : Calls Try.prog 10 #[.slice A0 n0 c0, .int .i64 a1] w fun e w' => e = .returned (.bool true) ∧ Below w.heap.size w w' := by
  have HL0 := Lib.hid hp0.1
  have HP0 := Lib.hid hp0
  clear hp0
  have S := Lib.hid hs
  have I := Lib.hid hi
  clear hs hi
  have B := Lib.hid (Below.refl w.heap.size w)
  go_enter Try.func10, Try.ntmps10
  go_wp2_with fail
  refine (szC_in A0 n0 c0 d0 (1048576) _ (HP0.out.below B.out) (by omega) (by omega)).mono ?_
  rintro e u1 ⟨rfl, hb1⟩
  replace B := Lib.hid (bTrans B.out hb1)
  clear hb1
  go_wp2_with fail
  refine (toC A0 n0 c0 d0 _ (HP0.out.below B.out) (by omega)).mono ?_
  rintro e u2 ⟨ET0, fT0, rfl, p2, hb2⟩
  have T0 := Lib.hid (Scs.base p2 (B' := w.heap.size) B.out.size)
  replace B := Lib.hid (bTrans B.out hb2)
  clear p2 hb2
  go_wp2_with fail
  refine (S.out _ _ _ (Scs.rdOf T0.out HL0.out (by omega))).mono ?_
  rintro e u3 ⟨rfl, hb3⟩
  replace T0 := Lib.hid (Scs.below T0.out hb3)
  replace B := Lib.hid (bTrans B.out hb3)
  clear hb3
  clear T0
  go_wp2_with fail
  refine (toC A0 n0 c0 d0 _ (HP0.out.below B.out) (by omega)).mono ?_
  rintro e u4 ⟨EX0, fX0, rfl, p4, hb4⟩
  have X0 := Lib.hid (Scs.base p4 (B' := w.heap.size) B.out.size)
  replace B := Lib.hid (bTrans B.out hb4)
  clear p4 hb4
  go_wp2_with fail
  refine (I.out _ _ _ (Scs.rdOf X0.out HL0.out (by omega))).mono ?_
  rintro e u5 ⟨rfl, hb5⟩
  replace X0 := Lib.hid (Scs.below X0.out hb5)
  replace B := Lib.hid (bTrans B.out hb5)
  clear hb5
  go_wp2_with fail
  refine (toC A0 n0 c0 d0 _ (HP0.out.below B.out) (by omega)).mono ?_
  rintro e u6 ⟨EY0, fY0, rfl, p6, hb6⟩
  replace X0 := Lib.hid (Scs.below X0.out hb6)
  have Y0 := Lib.hid (Scs.base p6 (B' := w.heap.size) B.out.size)
  replace B := Lib.hid (bTrans B.out hb6)
  clear p6 hb6
  go_wp2_with fail
  refine (eqSceneS_same EX0 EY0 n0 fX0 fY0 d0 _ (Scs.rdOf X0.out HL0.out (by omega)) (Scs.rdOf Y0.out HL0.out (by omega))).mono ?_
  rintro e u7 ⟨rfl, hb7⟩
  replace X0 := Lib.hid (Scs.below X0.out hb7)
  replace Y0 := Lib.hid (Scs.below Y0.out hb7)
  replace B := Lib.hid (bTrans B.out hb7)
  clear hb7
  clear Y0
  go_wp2_with fail
  go_ret
  exact ⟨rfl, B.out⟩

set_option maxRecDepth 100000 in
/-- laws.FnExactBookFor, of what is too large to be looked at. -/
theorem lawBookFor_big (A0 : Option Addr) (n0 c0 : Nat) (d0 : List Scn) (a1 : Int) (w : World) (hp0 : CRow w A0 n0 d0) (ht : ¬ (n0 + totC d0) ≤ 1048576) :
    Calls Try.prog 10 #[.slice A0 n0 c0, .int .i64 a1] w fun e w' => e = .returned (.bool true) ∧ Below w.heap.size w w' := by
  have HP0 := Lib.hid hp0
  clear hp0
  go_enter Try.func10, Try.ntmps10
  go_wp2_with fail
  refine (szC_over A0 n0 c0 d0 (1048576) _ HP0.out (by omega) (by omega)).mono ?_
  rintro e v ⟨rfl, hb⟩
  go_wp2_with fail
  go_ret
  exact ⟨rfl, hb⟩

set_option maxHeartbeats 2000000 in
set_option maxRecDepth 100000 in
/-- laws.FnExactErrorOfBook, out of contracts. -/
theorem lawErrorOfBook_of (A0 : Option Addr) (n0 c0 : Nat) (d0 : List Scn) (a1 : Int) (z0 : Int) (z1 : Int) (w : World) (hp0 : CRow w A0 n0 d0) (ht : (n0 + totC d0) ≤ 1048576)
    (hs : ∀ (E0 : Option Addr) (f0 : Nat) (u : World), RdC u E0 n0 d0 → Calls Try.prog 38 #[.slice E0 n0 f0, .int .i64 a1] u fun e u' => e = .returned (.tuple #[.int .i64 z0, .int .i64 z1]) ∧ Below u.heap.size u u')
    (hi : ∀ (E0 : Option Addr) (f0 : Nat) (u : World), RdC u E0 n0 d0 → Calls Try.prog 20 #[.slice E0 n0 f0, .int .i64 a1] u fun e u' => e = .returned (.tuple #[.int .i64 z0, .int .i64 z1]) ∧ Below u.heap.size u u')
    : Calls Try.prog 11 #[.slice A0 n0 c0, .int .i64 a1] w fun e w' => e = .returned (.bool true) ∧ Below w.heap.size w w' := by
  have HL0 := Lib.hid hp0.1
  have HP0 := Lib.hid hp0
  clear hp0
  have S := Lib.hid hs
  have I := Lib.hid hi
  clear hs hi
  have B := Lib.hid (Below.refl w.heap.size w)
  go_enter Try.func11, Try.ntmps11
  go_wp2_with fail
  refine (szC_in A0 n0 c0 d0 (1048576) _ (HP0.out.below B.out) (by omega) (by omega)).mono ?_
  rintro e u1 ⟨rfl, hb1⟩
  replace B := Lib.hid (bTrans B.out hb1)
  clear hb1
  go_wp2_with fail
  refine (toC A0 n0 c0 d0 _ (HP0.out.below B.out) (by omega)).mono ?_
  rintro e u2 ⟨ET0, fT0, rfl, p2, hb2⟩
  have T0 := Lib.hid (Scs.base p2 (B' := w.heap.size) B.out.size)
  replace B := Lib.hid (bTrans B.out hb2)
  clear p2 hb2
  go_wp2_with fail
  refine (S.out _ _ _ (Scs.rdOf T0.out HL0.out (by omega))).mono ?_
  rintro e u3 ⟨rfl, hb3⟩
  replace T0 := Lib.hid (Scs.below T0.out hb3)
  replace B := Lib.hid (bTrans B.out hb3)
  clear hb3
  clear T0
  go_wp2_with fail
  refine (toC A0 n0 c0 d0 _ (HP0.out.below B.out) (by omega)).mono ?_
  rintro e u4 ⟨EX0, fX0, rfl, p4, hb4⟩
  have X0 := Lib.hid (Scs.base p4 (B' := w.heap.size) B.out.size)
  replace B := Lib.hid (bTrans B.out hb4)
  clear p4 hb4
  go_wp2_with fail
  refine (I.out _ _ _ (Scs.rdOf X0.out HL0.out (by omega))).mono ?_
  rintro e u5 ⟨rfl, hb5⟩
  replace X0 := Lib.hid (Scs.below X0.out hb5)
  replace B := Lib.hid (bTrans B.out hb5)
  clear hb5
  go_wp2_with fail
  refine (toC A0 n0 c0 d0 _ (HP0.out.below B.out) (by omega)).mono ?_
  rintro e u6 ⟨EY0, fY0, rfl, p6, hb6⟩
  replace X0 := Lib.hid (Scs.below X0.out hb6)
  have Y0 := Lib.hid (Scs.base p6 (B' := w.heap.size) B.out.size)
  replace B := Lib.hid (bTrans B.out hb6)
  clear p6 hb6
  go_wp2_with fail
  refine (eqSceneS_same EX0 EY0 n0 fX0 fY0 d0 _ (Scs.rdOf X0.out HL0.out (by omega)) (Scs.rdOf Y0.out HL0.out (by omega))).mono ?_
  rintro e u7 ⟨rfl, hb7⟩
  replace X0 := Lib.hid (Scs.below X0.out hb7)
  replace Y0 := Lib.hid (Scs.below Y0.out hb7)
  replace B := Lib.hid (bTrans B.out hb7)
  clear hb7
  clear Y0
  go_wp2_with fail
  go_ret
  exact ⟨rfl, B.out⟩

set_option maxRecDepth 100000 in
/-- laws.FnExactErrorOfBook, of what is too large to be looked at. -/
theorem lawErrorOfBook_big (A0 : Option Addr) (n0 c0 : Nat) (d0 : List Scn) (a1 : Int) (w : World) (hp0 : CRow w A0 n0 d0) (ht : ¬ (n0 + totC d0) ≤ 1048576) :
    Calls Try.prog 11 #[.slice A0 n0 c0, .int .i64 a1] w fun e w' => e = .returned (.bool true) ∧ Below w.heap.size w w' := by
  have HP0 := Lib.hid hp0
  clear hp0
  go_enter Try.func11, Try.ntmps11
  go_wp2_with fail
  refine (szC_over A0 n0 c0 d0 (1048576) _ HP0.out (by omega) (by omega)).mono ?_
  rintro e v ⟨rfl, hb⟩
  go_wp2_with fail
  go_ret
  exact ⟨rfl, hb⟩

set_option maxHeartbeats 2000000 in
set_option maxRecDepth 100000 in
/-- laws.FnExactBestTick, out of contracts. -/
theorem lawBestTick_of (A0 : Option Addr) (n0 c0 : Nat) (d0 : List Scn) (a1 : Int) (z0 : Int) (z1 : Int) (z2 : Int) (w : World) (hp0 : CRow w A0 n0 d0) (ht : (n0 + totC d0) ≤ 1048576)
    (hs : ∀ (E0 : Option Addr) (f0 : Nat) (u : World), RdC u E0 n0 d0 → Calls Try.prog 39 #[.slice E0 n0 f0, .int .i64 a1] u fun e u' => e = .returned (.tuple #[.int .i64 z0, .int .i64 z1, .int .i64 z2]) ∧ Below u.heap.size u u')
    (hi : ∀ (E0 : Option Addr) (f0 : Nat) (u : World), RdC u E0 n0 d0 → Calls Try.prog 25 #[.slice E0 n0 f0, .int .i64 a1] u fun e u' => e = .returned (.tuple #[.int .i64 z0, .int .i64 z1, .int .i64 z2]) ∧ Below u.heap.size u u')
    : Calls Try.prog 12 #[.slice A0 n0 c0, .int .i64 a1] w fun e w' => e = .returned (.bool true) ∧ Below w.heap.size w w' := by
  have HL0 := Lib.hid hp0.1
  have HP0 := Lib.hid hp0
  clear hp0
  have S := Lib.hid hs
  have I := Lib.hid hi
  clear hs hi
  have B := Lib.hid (Below.refl w.heap.size w)
  go_enter Try.func12, Try.ntmps12
  go_wp2_with fail
  refine (szC_in A0 n0 c0 d0 (1048576) _ (HP0.out.below B.out) (by omega) (by omega)).mono ?_
  rintro e u1 ⟨rfl, hb1⟩
  replace B := Lib.hid (bTrans B.out hb1)
  clear hb1
  go_wp2_with fail
  refine (toC A0 n0 c0 d0 _ (HP0.out.below B.out) (by omega)).mono ?_
  rintro e u2 ⟨ET0, fT0, rfl, p2, hb2⟩
  have T0 := Lib.hid (Scs.base p2 (B' := w.heap.size) B.out.size)
  replace B := Lib.hid (bTrans B.out hb2)
  clear p2 hb2
  go_wp2_with fail
  refine (S.out _ _ _ (Scs.rdOf T0.out HL0.out (by omega))).mono ?_
  rintro e u3 ⟨rfl, hb3⟩
  replace T0 := Lib.hid (Scs.below T0.out hb3)
  replace B := Lib.hid (bTrans B.out hb3)
  clear hb3
  clear T0
  go_wp2_with fail
  refine (toC A0 n0 c0 d0 _ (HP0.out.below B.out) (by omega)).mono ?_
  rintro e u4 ⟨EX0, fX0, rfl, p4, hb4⟩
  have X0 := Lib.hid (Scs.base p4 (B' := w.heap.size) B.out.size)
  replace B := Lib.hid (bTrans B.out hb4)
  clear p4 hb4
  go_wp2_with fail
  refine (I.out _ _ _ (Scs.rdOf X0.out HL0.out (by omega))).mono ?_
  rintro e u5 ⟨rfl, hb5⟩
  replace X0 := Lib.hid (Scs.below X0.out hb5)
  replace B := Lib.hid (bTrans B.out hb5)
  clear hb5
  go_wp2_with fail
  refine (toC A0 n0 c0 d0 _ (HP0.out.below B.out) (by omega)).mono ?_
  rintro e u6 ⟨EY0, fY0, rfl, p6, hb6⟩
  replace X0 := Lib.hid (Scs.below X0.out hb6)
  have Y0 := Lib.hid (Scs.base p6 (B' := w.heap.size) B.out.size)
  replace B := Lib.hid (bTrans B.out hb6)
  clear p6 hb6
  go_wp2_with fail
  refine (eqSceneS_same EX0 EY0 n0 fX0 fY0 d0 _ (Scs.rdOf X0.out HL0.out (by omega)) (Scs.rdOf Y0.out HL0.out (by omega))).mono ?_
  rintro e u7 ⟨rfl, hb7⟩
  replace X0 := Lib.hid (Scs.below X0.out hb7)
  replace Y0 := Lib.hid (Scs.below Y0.out hb7)
  replace B := Lib.hid (bTrans B.out hb7)
  clear hb7
  clear Y0
  go_wp2_with fail
  go_ret
  exact ⟨rfl, B.out⟩

set_option maxRecDepth 100000 in
/-- laws.FnExactBestTick, of what is too large to be looked at. -/
theorem lawBestTick_big (A0 : Option Addr) (n0 c0 : Nat) (d0 : List Scn) (a1 : Int) (w : World) (hp0 : CRow w A0 n0 d0) (ht : ¬ (n0 + totC d0) ≤ 1048576) :
    Calls Try.prog 12 #[.slice A0 n0 c0, .int .i64 a1] w fun e w' => e = .returned (.bool true) ∧ Below w.heap.size w w' := by
  have HP0 := Lib.hid hp0
  clear hp0
  go_enter Try.func12, Try.ntmps12
  go_wp2_with fail
  refine (szC_over A0 n0 c0 d0 (1048576) _ HP0.out (by omega) (by omega)).mono ?_
  rintro e v ⟨rfl, hb⟩
  go_wp2_with fail
  go_ret
  exact ⟨rfl, hb⟩

set_option maxHeartbeats 2000000 in
set_option maxRecDepth 100000 in
/-- laws.FnExactLengthOfScenes, out of contracts. -/
theorem lawLengthOfScenes_of (A0 : Option Addr) (n0 c0 : Nat) (d0 : List Scn) (z0 : Int) (z1 : Int) (w : World) (hp0 : CRow w A0 n0 d0) (ht : (n0 + totC d0) ≤ 1048576)
    (hs : ∀ (E0 : Option Addr) (f0 : Nat) (u : World), RdC u E0 n0 d0 → Calls Try.prog 40 #[.slice E0 n0 f0] u fun e u' => e = .returned (.tuple #[.int .i64 z0, .int .i64 z1]) ∧ Below u.heap.size u u')
    (hi : ∀ (E0 : Option Addr) (f0 : Nat) (u : World), RdC u E0 n0 d0 → Calls Try.prog 18 #[.slice E0 n0 f0] u fun e u' => e = .returned (.tuple #[.int .i64 z0, .int .i64 z1]) ∧ Below u.heap.size u u')
    : Calls Try.prog 13 #[.slice A0 n0 c0] w fun e w' => e = .returned (.bool true) ∧ Below w.heap.size w w' := by
  have HL0 := Lib.hid hp0.1
  have HP0 := Lib.hid hp0
  clear hp0
  have S := Lib.hid hs
  have I := Lib.hid hi
  clear hs hi
  have B := Lib.hid (Below.refl w.heap.size w)
  go_enter Try.func13, Try.ntmps13
  go_wp2_with fail
  refine (szC_in A0 n0 c0 d0 (1048576) _ (HP0.out.below B.out) (by omega) (by omega)).mono ?_
  rintro e u1 ⟨rfl, hb1⟩
  replace B := Lib.hid (bTrans B.out hb1)
  clear hb1
  go_wp2_with fail
  refine (toC A0 n0 c0 d0 _ (HP0.out.below B.out) (by omega)).mono ?_
  rintro e u2 ⟨ET0, fT0, rfl, p2, hb2⟩
  have T0 := Lib.hid (Scs.base p2 (B' := w.heap.size) B.out.size)
  replace B := Lib.hid (bTrans B.out hb2)
  clear p2 hb2
  go_wp2_with fail
  refine (S.out _ _ _ (Scs.rdOf T0.out HL0.out (by omega))).mono ?_
  rintro e u3 ⟨rfl, hb3⟩
  replace T0 := Lib.hid (Scs.below T0.out hb3)
  replace B := Lib.hid (bTrans B.out hb3)
  clear hb3
  clear T0
  go_wp2_with fail
  refine (toC A0 n0 c0 d0 _ (HP0.out.below B.out) (by omega)).mono ?_
  rintro e u4 ⟨EX0, fX0, rfl, p4, hb4⟩
  have X0 := Lib.hid (Scs.base p4 (B' := w.heap.size) B.out.size)
  replace B := Lib.hid (bTrans B.out hb4)
  clear p4 hb4
  go_wp2_with fail
  refine (I.out _ _ _ (Scs.rdOf X0.out HL0.out (by omega))).mono ?_
  rintro e u5 ⟨rfl, hb5⟩
  replace X0 := Lib.hid (Scs.below X0.out hb5)
  replace B := Lib.hid (bTrans B.out hb5)
  clear hb5
  go_wp2_with fail
  refine (toC A0 n0 c0 d0 _ (HP0.out.below B.out) (by omega)).mono ?_
  rintro e u6 ⟨EY0, fY0, rfl, p6, hb6⟩
  replace X0 := Lib.hid (Scs.below X0.out hb6)
  have Y0 := Lib.hid (Scs.base p6 (B' := w.heap.size) B.out.size)
  replace B := Lib.hid (bTrans B.out hb6)
  clear p6 hb6
  go_wp2_with fail
  refine (eqSceneS_same EX0 EY0 n0 fX0 fY0 d0 _ (Scs.rdOf X0.out HL0.out (by omega)) (Scs.rdOf Y0.out HL0.out (by omega))).mono ?_
  rintro e u7 ⟨rfl, hb7⟩
  replace X0 := Lib.hid (Scs.below X0.out hb7)
  replace Y0 := Lib.hid (Scs.below Y0.out hb7)
  replace B := Lib.hid (bTrans B.out hb7)
  clear hb7
  clear Y0
  go_wp2_with fail
  go_ret
  exact ⟨rfl, B.out⟩

set_option maxRecDepth 100000 in
/-- laws.FnExactLengthOfScenes, of what is too large to be looked at. -/
theorem lawLengthOfScenes_big (A0 : Option Addr) (n0 c0 : Nat) (d0 : List Scn) (w : World) (hp0 : CRow w A0 n0 d0) (ht : ¬ (n0 + totC d0) ≤ 1048576) :
    Calls Try.prog 13 #[.slice A0 n0 c0] w fun e w' => e = .returned (.bool true) ∧ Below w.heap.size w w' := by
  have HP0 := Lib.hid hp0
  clear hp0
  go_enter Try.func13, Try.ntmps13
  go_wp2_with fail
  refine (szC_over A0 n0 c0 d0 (1048576) _ HP0.out (by omega) (by omega)).mono ?_
  rintro e v ⟨rfl, hb⟩
  go_wp2_with fail
  go_ret
  exact ⟨rfl, hb⟩

end Go.Proofs.Ytibafngidpmgdab
