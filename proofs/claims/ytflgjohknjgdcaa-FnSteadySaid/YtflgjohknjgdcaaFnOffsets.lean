/- The statement on offsets: its own walk. -/
import Derived.Test.YtflgjohknjgdcaaProg
import Derived.Test.YtflgjohknjgdcaaLitImpl
import Derived.Test.YtflgjohknjgdcaaBoth
import Derived.Test.YtflgjohknjgdcaaBldDraw3
import Derived.Test.YtflgjohknjgdcaaBldLaws1
import Derived.Laws.Cover1
import Derived.Deep.RegionWith
import Derived.Deep.DrawnRows
import Derived.Deep.RegionHeld3
import Derived.Deep.DeepCutAuto
import Derived.Laws.StructEq
import Derived.Tactics
import Derived.Tactics2
import Derived.WalkKit
import Derived.LoopTactic
import Derived.BigQuiet
import Derived.RegionTactic
import Derived.Deep.QuietTactic
import Derived.Outline
import Derived.Lib.Hide
import Derived.Below
import Derived.KernelRfl
namespace Go.Proofs.Ytflgjohknjgdcaa
set_option linter.unusedSimpArgs false
set_option linter.unusedVariables false
open Go.RowKit

set_option maxRecDepth 100000 in
/-- What is known of two wheels. -/
theorem off_facts (a b c d : Int) :
    (∃ x y z : Int, ¬ z = 0 ∧ (∀ w : World, Calls Try.prog 48 #[fr a b, fr c d] w fun e w' => e = .returned (.tuple #[.int .i64 x, .int .i64 y, .int .i64 z]) ∧ Below w.heap.size w w') ∧
      (∀ w : World, Calls Try.prog 47 #[fr a b, fr c d] w fun e w' => e = .returned (.tuple #[.int .i64 x, .int .i64 y, .int .i64 z]) ∧ Below w.heap.size w w')) ∨
    (∃ x y s : Int, s ≤ y ∧ (∀ w : World, Calls Try.prog 48 #[fr a b, fr c d] w fun e w' => e = .returned (.tuple #[.int .i64 x, .int .i64 y, .int .i64 0]) ∧ Below w.heap.size w w') ∧
      (∀ w : World, Calls Try.prog 47 #[fr a b, fr c d] w fun e w' => e = .returned (.tuple #[.int .i64 x, .int .i64 y, .int .i64 0]) ∧ Below w.heap.size w w') ∧
      (∀ w : World, Calls Try.prog 36 #[fr a b, fr c d, .int .i64 x] w fun e w' => e = .returned (.tuple #[.int .i64 y, .int .i64 0]) ∧ Below w.heap.size w w') ∧
      (∀ w : World, Calls Try.prog 36 #[fr a b, fr c d, .int .i64 0] w fun e w' => e = .returned (.tuple #[.int .i64 s, .int .i64 0]) ∧ Below w.heap.size w w')) := by
  cases h1 : bladesB a b
  · exact .inl ⟨_, _, 1, by decide, fun w => specBest_bad1 a b c d w h1, fun w => implBest_bad1 a b c d w h1⟩
  · cases h2 : bladesB c d
    · exact .inl ⟨_, _, 1, by decide, fun w => specBest_bad2 a b c d w h1 h2, fun w => implBest_bad2 a b c d w h1 h2⟩
    · obtain ⟨Ma, Sa, Ga, WA⟩ := Wh.of h1
      obtain ⟨Mb, Sb, Gb, WB⟩ := Wh.of h2
      obtain ⟨B, M, hT⟩ := IsTop.exists (litN Sa Ga Sb Gb) 999
      have hlt := hT.lt
      have hat := hT.at_
      have hle := hT.le 0 (by omega)
      refine .inr ⟨B, M, (litN Sa Ga Sb Gb 0 : Nat), by omega, fun w => specBest_yes a b c d WA WB h1 h2 B M hT w, fun w => implBest_yes a b c d WA WB h1 h2 B M hT w, fun w => ?_, fun w => ?_⟩
      · rw [← hat]
        exact implTwo_yes a b c d WA WB h1 h2 B (inB_iff.2 (by omega)) w
      · exact implTwo_yes a b c d WA WB h1 h2 0 (inB_iff.2 (by omega)) w

/-- laws.f6big. -/
theorem f6bigO_any (a : Option Addr) (len cap : Nat) (w : World) :
    Calls Try.prog 17 #[.slice a len cap] w fun e w' => e = .returned (.bool (decide (4096 < (len : Int)))) ∧ w = w' := by
  by_cases h : 4096 < (len : Int)
  · rw [decide_eq_true h]
    go_enter Try.func17, Try.ntmps17
    go_wp2
    go_ret
    exact ⟨rfl, rfl⟩
  · rw [decide_eq_false h]
    go_enter Try.func17, Try.ntmps17
    go_wp2
    go_ret
    exact ⟨rfl, rfl⟩

set_option maxHeartbeats 4000000 in
set_option maxRecDepth 100000 in
theorem lawFnOffsets_ok (p : Option Addr) (len cap : Nat) (cs : List Int) (w : World) (hr : Row w p len cap cs) (hlen : ¬ 4096 < (len : Int)) :
    Calls Try.prog 5 #[.slice p len cap] w fun e w' => e = .returned (.bool true) ∧ Below w.heap.size w w' := by
  have HR := Lib.hid hr
  have hz := decide_eq_false hlen
  clear hr
  go_enter Try.func5, Try.ntmps5
  go_wp2_with fail
  refine (f6bigO_any _ _ _ _).mono ?_
  rintro e u0 ⟨rfl, rfl⟩
  rw [hz]
  clear hz
  go_wp2_with fail
  refine (DrawBestOffset_any p len cap cs _ HR.out).mono ?_
  rintro e u1 ⟨a, b, c, d, rfl, -, hb1⟩
  clear HR
  have R1 : Bk ((u1.alloc (.cells #[.int .i64 a, .int .i64 b] 25)).alloc (.cells #[.int .i64 c, .int .i64 d] 25)) u1.heap.size a b := by refine ⟨?_, ?_, ?_, ?_, ?_⟩ <;> go_simp
  have R2 : Bk ((u1.alloc (.cells #[.int .i64 a, .int .i64 b] 25)).alloc (.cells #[.int .i64 c, .int .i64 d] 25)) (u1.heap.size + 1) c d := by refine ⟨?_, ?_, ?_, ?_, ?_⟩ <;> go_simp
  have HB1 := Lib.hid (bAlloc (bAlloc hb1 (.cells #[.int .i64 a, .int .i64 b] 25)) (.cells #[.int .i64 c, .int .i64 d] 25))
  have hk := hb1.size
  clear hb1
  go_upto_region 4 with fail
  generalize (u1.alloc (.cells #[.int .i64 a, .int .i64 b] 25)).alloc (.cells #[.int .i64 c, .int .i64 d] 25) = v at *
  generalize u1.heap.size = k at *
  have B1 := R1
  have B2 := R2
  obtain ⟨i0, i1, j0, j1, l1⟩ := R1
  obtain ⟨i2, i3, j2, j3, l2⟩ := R2
  rcases off_facts a b c d with ⟨x, y, z, hz, hs, hi⟩ | ⟨x, y, s, hsy, hs, hi, ht, h0⟩
  · have S := Lib.hid hs
    have I := Lib.hid hi
    clear hs hi
    go_wp2_with fail
    refine (I.out _).mono ?_
    rintro e v4 ⟨rfl, hb4⟩
    replace B1 := bkOf hb4 B1
    replace B2 := bkOf hb4 B2
    have HB4 := Lib.hid (bTrans HB1.out hb4)
    clear i0 i1 j0 j1 l1 i2 i3 j2 j3 l2 hb4 HB1
    have B1' := B1
    have B2' := B2
    obtain ⟨i0, i1, j0, j1, l1⟩ := B1'
    obtain ⟨i2, i3, j2, j3, l2⟩ := B2'
    go_wp2_with fail
    refine (S.out _).mono ?_
    rintro e v5 ⟨rfl, hb5⟩
    replace B1 := bkOf hb5 B1
    replace B2 := bkOf hb5 B2
    have HB5 := Lib.hid (bTrans HB4.out hb5)
    clear i0 i1 j0 j1 l1 i2 i3 j2 j3 l2 hb5 HB4
    have B1' := B1
    have B2' := B2
    obtain ⟨i0, i1, j0, j1, l1⟩ := B1'
    obtain ⟨i2, i3, j2, j3, l2⟩ := B2'
    go_wp2_with fail
    go_ret
    exact ⟨rfl, HB5.out⟩
  · have S := Lib.hid hs
    have I := Lib.hid hi
    have T := Lib.hid ht
    have T0 := Lib.hid h0
    clear hs hi ht h0
    go_wp2_with fail
    refine (I.out _).mono ?_
    rintro e v4 ⟨rfl, hb4⟩
    replace B1 := bkOf hb4 B1
    replace B2 := bkOf hb4 B2
    have HB4 := Lib.hid (bTrans HB1.out hb4)
    clear i0 i1 j0 j1 l1 i2 i3 j2 j3 l2 hb4 HB1
    have B1' := B1
    have B2' := B2
    obtain ⟨i0, i1, j0, j1, l1⟩ := B1'
    obtain ⟨i2, i3, j2, j3, l2⟩ := B2'
    go_wp2_with fail
    refine (S.out _).mono ?_
    rintro e v5 ⟨rfl, hb5⟩
    replace B1 := bkOf hb5 B1
    replace B2 := bkOf hb5 B2
    have HB5 := Lib.hid (bTrans HB4.out hb5)
    clear i0 i1 j0 j1 l1 i2 i3 j2 j3 l2 hb5 HB4
    have B1' := B1
    have B2' := B2
    obtain ⟨i0, i1, j0, j1, l1⟩ := B1'
    obtain ⟨i2, i3, j2, j3, l2⟩ := B2'
    go_wp2_with fail
    refine (T.out _).mono ?_
    rintro e v6 ⟨rfl, hb6⟩
    replace B1 := bkOf hb6 B1
    replace B2 := bkOf hb6 B2
    have HB6 := Lib.hid (bTrans HB5.out hb6)
    clear i0 i1 j0 j1 l1 i2 i3 j2 j3 l2 hb6 HB5
    have B1' := B1
    have B2' := B2
    obtain ⟨i0, i1, j0, j1, l1⟩ := B1'
    obtain ⟨i2, i3, j2, j3, l2⟩ := B2'
    go_wp2_with fail
    refine (T0.out _).mono ?_
    rintro e v7 ⟨rfl, hb7⟩
    replace B1 := bkOf hb7 B1
    replace B2 := bkOf hb7 B2
    have HB7 := Lib.hid (bTrans HB6.out hb7)
    clear i0 i1 j0 j1 l1 i2 i3 j2 j3 l2 hb7 HB6
    have B1' := B1
    have B2' := B2
    obtain ⟨i0, i1, j0, j1, l1⟩ := B1'
    obtain ⟨i2, i3, j2, j3, l2⟩ := B2'
    go_wp2_with fail
    go_ret
    exact ⟨rfl, HB7.out⟩

/-- laws.FnOffsets. -/
theorem law_FnOffsets (a : Option Addr) (len cap : Nat) (cs : List Int) (w : World) (hr : Row w a len cap cs) :
    Calls Try.prog 5 #[.slice a len cap] w fun e w' => e = .returned (.bool true) ∧ Below w.heap.size w w' := by
  by_cases h : 4096 < (len : Int)
  · have hz := decide_eq_true h
    go_enter Try.func5, Try.ntmps5
    go_wp2_with fail
    refine (f6bigO_any _ _ _ _).mono ?_
    rintro e u0 ⟨rfl, rfl⟩
    rw [hz]
    go_wp2_with fail
    go_ret
    exact ⟨rfl, Below.refl _ _⟩
  · exact lawFnOffsets_ok a len cap cs w hr h

end Go.Proofs.Ytflgjohknjgdcaa
