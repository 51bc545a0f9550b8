/- The statements of chapter 6 that are about texts, out of contracts. -/
import Derived.Test.YtibafngidpmgdaaMotRow
import Derived.Tactics
import Derived.Tactics2
import Derived.WalkKit
import Derived.Outline
import Derived.Lib.Hide
import Derived.Below
import Derived.KernelRfl
namespace Go.Proofs.Ytibafngidpmgdaa
open Go.RowKit
set_option linter.unusedSimpArgs false
set_option linter.unusedVariables false

set_option maxHeartbeats 1000000 in
/-- laws.FnExactMotionOf, out of contracts. -/
theorem lawMotionOf_of (s0 : ByteArray) (n1 : Int) (z : ByteArray) (c : Int) (w : World) (hs0 : s0.size ≤ maxLen) (hl0 : ¬ 1048576 < s0.size)
    (hs : ∀ u : World, Calls Try.prog 75 #[.string s0, .int .i64 n1] u fun e u' => e = .returned (.tuple #[.string z, .int .i64 c]) ∧ Below u.heap.size u u')
    (hi : ∀ u : World, Calls Try.prog 62 #[.string s0, .int .i64 n1] u fun e u' => e = .returned (.tuple #[.string z, .int .i64 c]) ∧ Below u.heap.size u u') :
    Calls Try.prog 10 #[.string s0, .int .i64 n1] w fun e w' => e = .returned (.bool true) ∧ Below w.heap.size w w' := by
  unfold maxLen at hs0
  have S := Lib.hid hs
  have I := Lib.hid hi
  clear hs hi
  go_enter Try.func10, Try.ntmps10
  go_wp2_with fail
  refine (S.out _).mono ?_
  rintro e u1 ⟨rfl, hb1⟩
  go_wp2_with fail
  refine (I.out _).mono ?_
  rintro e u2 ⟨rfl, hb2⟩
  go_wp2_with fail
  go_ret
  exact ⟨rfl, bTrans hb1 hb2⟩

/-- laws.FnExactMotionOf, of what is too large to be looked at. -/
theorem lawMotionOf_big0 (s0 : ByteArray) (n1 : Int) (w : World) (hs0 : s0.size ≤ maxLen)  (hb : 1048576 < s0.size) :
    Calls Try.prog 10 #[.string s0, .int .i64 n1] w fun e w' => e = .returned (.bool true) ∧ Below w.heap.size w w' := by
  unfold maxLen at hs0
  go_enter Try.func10, Try.ntmps10
  go_wp2
  go_ret
  exact ⟨rfl, Below.refl _ _⟩

set_option maxHeartbeats 1000000 in
/-- laws.FnExactDiscFor, out of contracts. -/
theorem lawDiscFor_of (s0 : ByteArray) (n1 : Int) (z : ByteArray) (c : Int) (w : World) (hs0 : s0.size ≤ maxLen) (hl0 : ¬ 1048576 < s0.size)
    (hs : ∀ u : World, Calls Try.prog 76 #[.string s0, .int .i64 n1] u fun e u' => e = .returned (.tuple #[.string z, .int .i64 c]) ∧ Below u.heap.size u u')
    (hi : ∀ u : World, Calls Try.prog 63 #[.string s0, .int .i64 n1] u fun e u' => e = .returned (.tuple #[.string z, .int .i64 c]) ∧ Below u.heap.size u u') :
    Calls Try.prog 11 #[.string s0, .int .i64 n1] w fun e w' => e = .returned (.bool true) ∧ Below w.heap.size w w' := by
  unfold maxLen at hs0
  have S := Lib.hid hs
  have I := Lib.hid hi
  clear hs hi
  go_enter Try.func11, Try.ntmps11
  go_wp2_with fail
  refine (S.out _).mono ?_
  rintro e u1 ⟨rfl, hb1⟩
  go_wp2_with fail
  refine (I.out _).mono ?_
  rintro e u2 ⟨rfl, hb2⟩
  go_wp2_with fail
  go_ret
  exact ⟨rfl, bTrans hb1 hb2⟩

/-- laws.FnExactDiscFor, of what is too large to be looked at. -/
theorem lawDiscFor_big0 (s0 : ByteArray) (n1 : Int) (w : World) (hs0 : s0.size ≤ maxLen)  (hb : 1048576 < s0.size) :
    Calls Try.prog 11 #[.string s0, .int .i64 n1] w fun e w' => e = .returned (.bool true) ∧ Below w.heap.size w w' := by
  unfold maxLen at hs0
  go_enter Try.func11, Try.ntmps11
  go_wp2
  go_ret
  exact ⟨rfl, Below.refl _ _⟩

set_option maxHeartbeats 1000000 in
/-- laws.FnExactFewestPictures, out of contracts. -/
theorem lawFewestPictures_of (s0 : ByteArray) (z : Int) (c : Int) (w : World) (hs0 : s0.size ≤ maxLen) (hl0 : ¬ 1048576 < s0.size)
    (hs : ∀ u : World, Calls Try.prog 77 #[.string s0] u fun e u' => e = .returned (.tuple #[.int .i64 z, .int .i64 c]) ∧ Below u.heap.size u u')
    (hi : ∀ u : World, Calls Try.prog 64 #[.string s0] u fun e u' => e = .returned (.tuple #[.int .i64 z, .int .i64 c]) ∧ Below u.heap.size u u') :
    Calls Try.prog 12 #[.string s0] w fun e w' => e = .returned (.bool true) ∧ Below w.heap.size w w' := by
  unfold maxLen at hs0
  have S := Lib.hid hs
  have I := Lib.hid hi
  clear hs hi
  go_enter Try.func12, Try.ntmps12
  go_wp2_with fail
  refine (S.out _).mono ?_
  rintro e u1 ⟨rfl, hb1⟩
  go_wp2_with fail
  refine (I.out _).mono ?_
  rintro e u2 ⟨rfl, hb2⟩
  go_wp2_with fail
  go_ret
  exact ⟨rfl, bTrans hb1 hb2⟩

/-- laws.FnExactFewestPictures, of what is too large to be looked at. -/
theorem lawFewestPictures_big0 (s0 : ByteArray) (w : World) (hs0 : s0.size ≤ maxLen)  (hb : 1048576 < s0.size) :
    Calls Try.prog 12 #[.string s0] w fun e w' => e = .returned (.bool true) ∧ Below w.heap.size w w' := by
  unfold maxLen at hs0
  go_enter Try.func12, Try.ntmps12
  go_wp2
  go_ret
  exact ⟨rfl, Below.refl _ _⟩

set_option maxHeartbeats 1000000 in
/-- laws.FnExactPeriodOf, out of contracts. -/
theorem lawPeriodOf_of (s0 : ByteArray) (z : Int) (c : Int) (w : World) (hs0 : s0.size ≤ maxLen) (hl0 : ¬ 1048576 < s0.size)
    (hs : ∀ u : World, Calls Try.prog 78 #[.string s0] u fun e u' => e = .returned (.tuple #[.int .i64 z, .int .i64 c]) ∧ Below u.heap.size u u')
    (hi : ∀ u : World, Calls Try.prog 66 #[.string s0] u fun e u' => e = .returned (.tuple #[.int .i64 z, .int .i64 c]) ∧ Below u.heap.size u u') :
    Calls Try.prog 13 #[.string s0] w fun e w' => e = .returned (.bool true) ∧ Below w.heap.size w w' := by
  unfold maxLen at hs0
  have S := Lib.hid hs
  have I := Lib.hid hi
  clear hs hi
  go_enter Try.func13, Try.ntmps13
  go_wp2_with fail
  refine (S.out _).mono ?_
  rintro e u1 ⟨rfl, hb1⟩
  go_wp2_with fail
  refine (I.out _).mono ?_
  rintro e u2 ⟨rfl, hb2⟩
  go_wp2_with fail
  go_ret
  exact ⟨rfl, bTrans hb1 hb2⟩

/-- laws.FnExactPeriodOf, of what is too large to be looked at. -/
theorem lawPeriodOf_big0 (s0 : ByteArray) (w : World) (hs0 : s0.size ≤ maxLen)  (hb : 1048576 < s0.size) :
    Calls Try.prog 13 #[.string s0] w fun e w' => e = .returned (.bool true) ∧ Below w.heap.size w w' := by
  unfold maxLen at hs0
  go_enter Try.func13, Try.ntmps13
  go_wp2
  go_ret
  exact ⟨rfl, Below.refl _ _⟩

set_option maxHeartbeats 1000000 in
/-- laws.FnExactSameMotion, out of contracts. -/
theorem lawSameMotion_of (s0 : ByteArray) (s1 : ByteArray) (z : Bool) (c : Int) (w : World) (hs0 : s0.size ≤ maxLen) (hs1 : s1.size ≤ maxLen) (hl0 : ¬ 1048576 < s0.size) (hl1 : ¬ 1048576 < s1.size)
    (hs : ∀ u : World, Calls Try.prog 71 #[.string s0, .string s1] u fun e u' => e = .returned (.tuple #[.bool z, .int .i64 c]) ∧ Below u.heap.size u u')
    (hi : ∀ u : World, Calls Try.prog 67 #[.string s0, .string s1] u fun e u' => e = .returned (.tuple #[.bool z, .int .i64 c]) ∧ Below u.heap.size u u') :
    Calls Try.prog 14 #[.string s0, .string s1] w fun e w' => e = .returned (.bool true) ∧ Below w.heap.size w w' := by
  unfold maxLen at hs0
  unfold maxLen at hs1
  have S := Lib.hid hs
  have I := Lib.hid hi
  clear hs hi
  go_enter Try.func14, Try.ntmps14
  go_wp2_with fail
  refine (S.out _).mono ?_
  rintro e u1 ⟨rfl, hb1⟩
  go_wp2_with fail
  refine (I.out _).mono ?_
  rintro e u2 ⟨rfl, hb2⟩
  go_wp2_with fail
  go_ret
  exact ⟨rfl, bTrans hb1 hb2⟩

/-- laws.FnExactSameMotion, of what is too large to be looked at. -/
theorem lawSameMotion_big0 (s0 : ByteArray) (s1 : ByteArray) (w : World) (hs0 : s0.size ≤ maxLen) (hs1 : s1.size ≤ maxLen)  (hb : 1048576 < s0.size) :
    Calls Try.prog 14 #[.string s0, .string s1] w fun e w' => e = .returned (.bool true) ∧ Below w.heap.size w w' := by
  unfold maxLen at hs0
  unfold maxLen at hs1
  go_enter Try.func14, Try.ntmps14
  go_wp2
  go_ret
  exact ⟨rfl, Below.refl _ _⟩

/-- laws.FnExactSameMotion, of what is too large to be looked at. -/
theorem lawSameMotion_big1 (s0 : ByteArray) (s1 : ByteArray) (w : World) (hs0 : s0.size ≤ maxLen) (hs1 : s1.size ≤ maxLen) (hl0 : ¬ 1048576 < s0.size) (hb : 1048576 < s1.size) :
    Calls Try.prog 14 #[.string s0, .string s1] w fun e w' => e = .returned (.bool true) ∧ Below w.heap.size w w' := by
  unfold maxLen at hs0
  unfold maxLen at hs1
  go_enter Try.func14, Try.ntmps14
  go_wp2
  go_ret
  exact ⟨rfl, Below.refl _ _⟩

set_option maxHeartbeats 1000000 in
/-- laws.FnExactFirstTurn, out of contracts. -/
theorem lawFirstTurn_of (s0 : ByteArray) (z : ByteArray) (c : Int) (w : World) (hs0 : s0.size ≤ maxLen) (hl0 : ¬ 1048576 < s0.size)
    (hs : ∀ u : World, Calls Try.prog 79 #[.string s0] u fun e u' => e = .returned (.tuple #[.string z, .int .i64 c]) ∧ Below u.heap.size u u')
    (hi : ∀ u : World, Calls Try.prog 68 #[.string s0] u fun e u' => e = .returned (.tuple #[.string z, .int .i64 c]) ∧ Below u.heap.size u u') :
    Calls Try.prog 15 #[.string s0] w fun e w' => e = .returned (.bool true) ∧ Below w.heap.size w w' := by
  unfold maxLen at hs0
  have S := Lib.hid hs
  have I := Lib.hid hi
  clear hs hi
  go_enter Try.func15, Try.ntmps15
  go_wp2_with fail
  refine (S.out _).mono ?_
  rintro e u1 ⟨rfl, hb1⟩
  go_wp2_with fail
  refine (I.out _).mono ?_
  rintro e u2 ⟨rfl, hb2⟩
  go_wp2_with fail
  go_ret
  exact ⟨rfl, bTrans hb1 hb2⟩

/-- laws.FnExactFirstTurn, of what is too large to be looked at. -/
theorem lawFirstTurn_big0 (s0 : ByteArray) (w : World) (hs0 : s0.size ≤ maxLen)  (hb : 1048576 < s0.size) :
    Calls Try.prog 15 #[.string s0] w fun e w' => e = .returned (.bool true) ∧ Below w.heap.size w w' := by
  unfold maxLen at hs0
  go_enter Try.func15, Try.ntmps15
  go_wp2
  go_ret
  exact ⟨rfl, Below.refl _ _⟩

set_option maxHeartbeats 1000000 in
/-- laws.FnExactBackMotion, out of contracts. -/
theorem lawBackMotion_of (s0 : ByteArray) (z : ByteArray) (c : Int) (w : World) (hs0 : s0.size ≤ maxLen) (hl0 : ¬ 1048576 < s0.size)
    (hs : ∀ u : World, Calls Try.prog 80 #[.string s0] u fun e u' => e = .returned (.tuple #[.string z, .int .i64 c]) ∧ Below u.heap.size u u')
    (hi : ∀ u : World, Calls Try.prog 69 #[.string s0] u fun e u' => e = .returned (.tuple #[.string z, .int .i64 c]) ∧ Below u.heap.size u u') :
    Calls Try.prog 16 #[.string s0] w fun e w' => e = .returned (.bool true) ∧ Below w.heap.size w w' := by
  unfold maxLen at hs0
  have S := Lib.hid hs
  have I := Lib.hid hi
  clear hs hi
  go_enter Try.func16, Try.ntmps16
  go_wp2_with fail
  refine (S.out _).mono ?_
  rintro e u1 ⟨rfl, hb1⟩
  go_wp2_with fail
  refine (I.out _).mono ?_
  rintro e u2 ⟨rfl, hb2⟩
  go_wp2_with fail
  go_ret
  exact ⟨rfl, bTrans hb1 hb2⟩

/-- laws.FnExactBackMotion, of what is too large to be looked at. -/
theorem lawBackMotion_big0 (s0 : ByteArray) (w : World) (hs0 : s0.size ≤ maxLen)  (hb : 1048576 < s0.size) :
    Calls Try.prog 16 #[.string s0] w fun e w' => e = .returned (.bool true) ∧ Below w.heap.size w w' := by
  unfold maxLen at hs0
  go_enter Try.func16, Try.ntmps16
  go_wp2
  go_ret
  exact ⟨rfl, Below.refl _ _⟩

set_option maxHeartbeats 1000000 in
/-- laws.FnExactLooksBack, out of contracts. -/
theorem lawLooksBack_of (s0 : ByteArray) (z : Bool) (c : Int) (w : World) (hs0 : s0.size ≤ maxLen) (hl0 : ¬ 1048576 < s0.size)
    (hs : ∀ u : World, Calls Try.prog 81 #[.string s0] u fun e u' => e = .returned (.tuple #[.bool z, .int .i64 c]) ∧ Below u.heap.size u u')
    (hi : ∀ u : World, Calls Try.prog 70 #[.string s0] u fun e u' => e = .returned (.tuple #[.bool z, .int .i64 c]) ∧ Below u.heap.size u u') :
    Calls Try.prog 17 #[.string s0] w fun e w' => e = .returned (.bool true) ∧ Below w.heap.size w w' := by
  unfold maxLen at hs0
  have S := Lib.hid hs
  have I := Lib.hid hi
  clear hs hi
  go_enter Try.func17, Try.ntmps17
  go_wp2_with fail
  refine (S.out _).mono ?_
  rintro e u1 ⟨rfl, hb1⟩
  go_wp2_with fail
  refine (I.out _).mono ?_
  rintro e u2 ⟨rfl, hb2⟩
  go_wp2_with fail
  go_ret
  exact ⟨rfl, bTrans hb1 hb2⟩

/-- laws.FnExactLooksBack, of what is too large to be looked at. -/
theorem lawLooksBack_big0 (s0 : ByteArray) (w : World) (hs0 : s0.size ≤ maxLen)  (hb : 1048576 < s0.size) :
    Calls Try.prog 17 #[.string s0] w fun e w' => e = .returned (.bool true) ∧ Below w.heap.size w w' := by
  unfold maxLen at hs0
  go_enter Try.func17, Try.ntmps17
  go_wp2
  go_ret
  exact ⟨rfl, Below.refl _ _⟩

set_option maxHeartbeats 1000000 in
/-- laws.FnExactChangesIn, out of contracts. -/
theorem lawChangesIn_of (s0 : ByteArray) (z : Int) (c : Int) (w : World) (hs0 : s0.size ≤ maxLen) (hl0 : ¬ 1048576 < s0.size)
    (hs : ∀ u : World, Calls Try.prog 82 #[.string s0] u fun e u' => e = .returned (.tuple #[.int .i64 z, .int .i64 c]) ∧ Below u.heap.size u u')
    (hi : ∀ u : World, Calls Try.prog 72 #[.string s0] u fun e u' => e = .returned (.tuple #[.int .i64 z, .int .i64 c]) ∧ Below u.heap.size u u') :
    Calls Try.prog 18 #[.string s0] w fun e w' => e = .returned (.bool true) ∧ Below w.heap.size w w' := by
  unfold maxLen at hs0
  have S := Lib.hid hs
  have I := Lib.hid hi
  clear hs hi
  go_enter Try.func18, Try.ntmps18
  go_wp2_with fail
  refine (S.out _).mono ?_
  rintro e u1 ⟨rfl, hb1⟩
  go_wp2_with fail
  refine (I.out _).mono ?_
  rintro e u2 ⟨rfl, hb2⟩
  go_wp2_with fail
  go_ret
  exact ⟨rfl, bTrans hb1 hb2⟩

/-- laws.FnExactChangesIn, of what is too large to be looked at. -/
theorem lawChangesIn_big0 (s0 : ByteArray) (w : World) (hs0 : s0.size ≤ maxLen)  (hb : 1048576 < s0.size) :
    Calls Try.prog 18 #[.string s0] w fun e w' => e = .returned (.bool true) ∧ Below w.heap.size w w' := by
  unfold maxLen at hs0
  go_enter Try.func18, Try.ntmps18
  go_wp2
  go_ret
  exact ⟨rfl, Below.refl _ _⟩

end Go.Proofs.Ytibafngidpmgdaa
