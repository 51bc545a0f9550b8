/- MotionOf: the model, the program, the statement. -/
import Derived.Test.YtibafngidpmgdaaMotRow
import Derived.Test.YtibafngidpmgdaaMotLaws
import Derived.Tactics
import Derived.Tactics2
import Derived.WalkKit
import Derived.Outline
import Derived.Lib.Hide
import Derived.Below
import Derived.KernelRfl
namespace Go.Proofs.Ytibafngidpmgdaa
set_option linter.unusedSimpArgs false
set_option linter.unusedVariables false
open Go.RowKit

/-- What a function of a motion and a number returns. -/
def withV (s : ByteArray) (n : Int) (z : ByteArray) (c : Int) : Value :=
  if motB s = true then (if inB n 1 24 = true then .tuple #[.string z, .int .i64 c] else .tuple #[.string ⟨#[]⟩, .int .i64 2]) else .tuple #[.string ⟨#[]⟩, .int .i64 1]
theorem withV_bad {s : ByteArray} {n : Int} {z : ByteArray} {c : Int} (h : motB s = false) : withV s n z c = .tuple #[.string ⟨#[]⟩, .int .i64 1] := by simp [withV, h]
theorem withV_off {s : ByteArray} {n : Int} {z : ByteArray} {c : Int} (h : motB s = true) (h2 : inB n 1 24 = false) : withV s n z c = .tuple #[.string ⟨#[]⟩, .int .i64 2] := by simp [withV, h, h2]
theorem withV_yes {s : ByteArray} {n : Int} {z : ByteArray} {c : Int} (h : motB s = true) (h2 : inB n 1 24 = true) : withV s n z c = .tuple #[.string z, .int .i64 c] := by simp [withV, h, h2]

/-- spec.l06Code. -/
theorem l06Code_any (s : ByteArray) (n : Int) (w : World) (hs : s.size ≤ maxLen) :
    Calls Try.prog 136 #[.string s, .int .i64 n] w fun e w' => e = .returned (.int .i64 (if motB s = true then (if inB n 1 24 = true then 0 else 2) else 1)) ∧ w = w' := by
  have A1 := Lib.hid (fun w => l06Ok_any s w hs)
  cases h1 : motB s
  · rw [h1] at A1
    go_enter Try.func136, Try.ntmps136
    go_wp2_with fail
    refine (A1.out _).mono ?_
    rintro e u ⟨rfl, rfl⟩
    go_wp2_with fail
    go_ret
    exact ⟨rfl, rfl⟩
  · rw [h1] at A1
    have M := Lib.hid (fun w => l06Many_any n w)
    cases h2 : inB n 1 24
    all_goals
      rw [h2] at M
      go_enter Try.func136, Try.ntmps136
      go_wp2_with fail
      refine (A1.out _).mono ?_
      rintro e u ⟨rfl, rfl⟩
      go_wp2_with fail
      refine (M.out _).mono ?_
      rintro e u ⟨rfl, rfl⟩
      go_wp2_with fail
      go_ret
      exact ⟨rfl, rfl⟩

/-- spec.MotionOf. -/
theorem specMotionOf_any (s : ByteArray) (n : Int) (w : World) (hs : s.size ≤ maxLen) :
    Calls Try.prog 75 #[.string s, .int .i64 n] w fun e w' => e = .returned (withV s n (txt (showL s n.toNat)) 0) ∧ Below w.heap.size w w' := by
  have C := Lib.hid (fun w => l06Code_any s n w hs)
  cases h1 : motB s
  · rw [withV_bad h1]
    rw [h1] at C
    go_enter Try.func75, Try.ntmps75
    go_wp2_with fail
    refine (C.out _).mono ?_
    rintro e u ⟨rfl, rfl⟩
    go_wp2_with fail
    go_ret2
    exact ⟨rfl, Below.refl _ _⟩
  · rw [h1] at C
    cases h2 : inB n 1 24
    · rw [withV_off h1 h2]
      rw [h2] at C
      go_enter Try.func75, Try.ntmps75
      go_wp2_with fail
      refine (C.out _).mono ?_
      rintro e u ⟨rfl, rfl⟩
      go_wp2_with fail
      go_ret2
      exact ⟨rfl, Below.refl _ _⟩
    · rw [withV_yes h1 h2]
      rw [h2] at C
      obtain ⟨n1, n2⟩ := inB_iff.1 h2
      obtain ⟨k, rfl⟩ := Int.eq_ofNat_of_zero_le (show 0 ≤ n by omega)
      obtain ⟨s1, s2⟩ := motB_size h1
      have M := Lib.hid (fun w => l06Motion_any s k w s1 s2 (by omega) (by omega))
      rw [Int.toNat_natCast]
      generalize txt (showL s k) = x at *
      go_enter Try.func75, Try.ntmps75
      go_wp2_with fail
      refine (C.out _).mono ?_
      rintro e u ⟨rfl, rfl⟩
      go_wp2_with fail
      refine (M.out _).mono ?_
      rintro e u2 ⟨rfl, hb⟩
      go_wp2_with fail
      go_ret2
      exact ⟨rfl, hb⟩

/-- impl.MotionOf. -/
theorem implMotionOf_any (s : ByteArray) (n : Int) (w : World) (hs : s.size ≤ maxLen) :
    Calls Try.prog 62 #[.string s, .int .i64 n] w fun e w' => e = .returned (withV s n (txt (showL s n.toNat)) 0) ∧ Below w.heap.size w w' := by
  have A1 := Lib.hid (fun w => areMot_any s w hs)
  have C := Lib.hid (fun w => isPoseCount_any n w)
  cases h1 : motB s
  · rw [withV_bad h1]
    rw [h1] at A1
    go_enter Try.func62, Try.ntmps62
    go_wp2_with fail
    refine (A1.out _).mono ?_
    rintro e u ⟨rfl, hb1⟩
    go_wp2_with fail
    go_ret2
    exact ⟨rfl, hb1⟩
  · rw [h1] at A1
    cases h2 : inB n 1 24
    · rw [withV_off h1 h2]
      rw [h2] at C
      go_enter Try.func62, Try.ntmps62
      go_wp2_with fail
      refine (A1.out _).mono ?_
      rintro e u ⟨rfl, hb1⟩
      go_wp2_with fail
      refine (C.out _).mono ?_
      rintro e u ⟨rfl, rfl⟩
      go_wp2_with fail
      go_ret2
      exact ⟨rfl, hb1⟩
    · rw [withV_yes h1 h2]
      rw [h2] at C
      obtain ⟨n1, n2⟩ := inB_iff.1 h2
      obtain ⟨k, rfl⟩ := Int.eq_ofNat_of_zero_le (show 0 ≤ n by omega)
      obtain ⟨s1, s2⟩ := motB_size h1
      have M := Lib.hid (fun w => motionOf_any s k w s1 s2 (by omega) (by omega))
      rw [Int.toNat_natCast]
      generalize txt (showL s k) = x at *
      go_enter Try.func62, Try.ntmps62
      go_wp2_with fail
      refine (A1.out _).mono ?_
      rintro e u ⟨rfl, hb1⟩
      go_wp2_with fail
      refine (C.out _).mono ?_
      rintro e u ⟨rfl, rfl⟩
      go_wp2_with fail
      refine (M.out _).mono ?_
      rintro e u2 ⟨rfl, hb⟩
      go_wp2_with fail
      go_ret2
      exact ⟨rfl, bTrans hb1 hb⟩

theorem withV_pair (s : ByteArray) (n : Int) (z : ByteArray) (c : Int) : ∃ x y, withV s n z c = .tuple #[.string x, .int .i64 y] := by
  unfold withV
  split
  · split
    · exact ⟨_, _, rfl⟩
    · exact ⟨_, _, rfl⟩
  · exact ⟨_, _, rfl⟩
/-- laws.FnExactMotionOf. -/
theorem law_MotionOf (s : ByteArray) (n : Int) (w : World) (hs : s.size ≤ maxLen) (_hn : I64 n) :
    Calls Try.prog 10 #[.string s, .int .i64 n] w fun e w' => e = .returned (.bool true) ∧ Below w.heap.size w w' := by
  by_cases hl : 1048576 < s.size
  · exact lawMotionOf_big0 s n w hs hl
  · obtain ⟨x, y, h⟩ := withV_pair s n (txt (showL s n.toNat)) 0
    refine lawMotionOf_of s n x y w hs hl (fun u => ?_) (fun u => ?_)
    · rw [← h]; exact specMotionOf_any s n u hs
    · rw [← h]; exact implMotionOf_any s n u hs

end Go.Proofs.Ytibafngidpmgdaa
