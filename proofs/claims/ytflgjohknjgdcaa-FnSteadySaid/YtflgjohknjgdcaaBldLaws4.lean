/- The statements on one wheel: their own walks. -/
import Derived.Test.YtflgjohknjgdcaaProg
import Derived.Test.YtflgjohknjgdcaaParts2
import Derived.Test.YtflgjohknjgdcaaParts3
import Derived.Test.YtflgjohknjgdcaaBldLaws1
import Derived.Laws.Cover1
import Derived.Deep.RegionWith
import Derived.Deep.DrawnRows
import Derived.Deep.RegionHeld3
import Derived.Deep.DeepCutAuto
import Derived.Laws.StructEq
import Derived.Tactics
import Derived.Tactics2
import Derived.WalkKit
import Derived.LoopTactic
import Derived.BigQuiet
import Derived.RegionTactic
import Derived.Deep.QuietTactic
import Derived.Outline
import Derived.Lib.Hide
import Derived.Below
import Derived.KernelRfl
namespace Go.Proofs.Ytflgjohknjgdcaa
set_option linter.unusedSimpArgs false
set_option linter.unusedVariables false
open Go.RowKit

theorem lawValidBlades_of (m o : Int) (t : Bool) (w : World)
    (hs : ∀ w : World, Calls Try.prog 33 #[fr m o] w fun e w' => e = .returned (.bool t) ∧ Below w.heap.size w w')
    (hi : ∀ w : World, Calls Try.prog 32 #[fr m o] w fun e w' => e = .returned (.bool t) ∧ Below w.heap.size w w') :
    Calls Try.prog 6 #[fr m o] w fun e w' => e = .returned (.bool true) ∧ Below w.heap.size w w' := by
  have S := Lib.hid hs
  have I := Lib.hid hi
  clear hs hi
  go_enter Try.func6, Try.ntmps6
  go_wp2_with fail
  refine (toBlades_any _ _ _).mono ?_
  rintro e u1 ⟨rfl, hb1⟩
  have P0 : Bk u1 w.heap.size m o := bkOf hb1 (bkNew _ _ _ _)
  go_wp2_with fail
  refine (S.out _).mono ?_
  rintro e u2 ⟨rfl, hb2⟩
  have P1 := bkOf hb2 P0
  obtain ⟨c0, c1, f0, f1, z0⟩ := P1
  go_wp2_with fail
  refine (toBlades_any _ _ _).mono ?_
  rintro e u3 ⟨rfl, hb3⟩
  go_wp2_with fail
  refine (I.out _).mono ?_
  rintro e u4 ⟨rfl, hb4⟩
  go_wp2_with fail
  go_ret
  exact ⟨rfl, bTrans (bTrans (bTrans (bTrans (bAlloc (Below.refl _ _) _) hb1) hb2) hb3) hb4⟩

theorem lawIsOpenAt_of (m o : Int) (p : Int) (t : Bool) (z : Int) (w : World)
    (hs : ∀ w : World, Calls Try.prog 45 #[fr m o, .int .i64 p] w fun e w' => e = .returned (.tuple #[.bool t, .int .i64 z]) ∧ Below w.heap.size w w')
    (hi : ∀ w : World, Calls Try.prog 34 #[fr m o, .int .i64 p] w fun e w' => e = .returned (.tuple #[.bool t, .int .i64 z]) ∧ Below w.heap.size w w') :
    Calls Try.prog 7 #[fr m o, .int .i64 p] w fun e w' => e = .returned (.bool true) ∧ Below w.heap.size w w' := by
  have S := Lib.hid hs
  have I := Lib.hid hi
  clear hs hi
  go_enter Try.func7, Try.ntmps7
  go_wp2_with fail
  refine (toBlades_any _ _ _).mono ?_
  rintro e u1 ⟨rfl, hb1⟩
  have P0 : Bk u1 w.heap.size m o := bkOf hb1 (bkNew _ _ _ _)
  go_wp2_with fail
  refine (S.out _).mono ?_
  rintro e u2 ⟨rfl, hb2⟩
  have P1 := bkOf hb2 P0
  obtain ⟨c0, c1, f0, f1, z0⟩ := P1
  go_wp2_with fail
  refine (toBlades_any _ _ _).mono ?_
  rintro e u3 ⟨rfl, hb3⟩
  go_wp2_with fail
  refine (I.out _).mono ?_
  rintro e u4 ⟨rfl, hb4⟩
  go_wp2_with fail
  go_ret
  exact ⟨rfl, bTrans (bTrans (bTrans (bTrans (bAlloc (Below.refl _ _) _) hb1) hb2) hb3) hb4⟩

theorem lawOpenParts_of (m o : Int) (p q : Int) (y z : Int) (w : World)
    (hs : ∀ w : World, Calls Try.prog 29 #[fr m o, .int .i64 p, .int .i64 q] w fun e w' => e = .returned (.tuple #[.int .i64 y, .int .i64 z]) ∧ Below w.heap.size w w')
    (hi : ∀ w : World, Calls Try.prog 28 #[fr m o, .int .i64 p, .int .i64 q] w fun e w' => e = .returned (.tuple #[.int .i64 y, .int .i64 z]) ∧ Below w.heap.size w w') :
    Calls Try.prog 14 #[fr m o, .int .i64 p, .int .i64 q] w fun e w' => e = .returned (.bool true) ∧ Below w.heap.size w w' := by
  have S := Lib.hid hs
  have I := Lib.hid hi
  clear hs hi
  go_enter Try.func14, Try.ntmps14
  go_wp2_with fail
  refine (toBlades_any _ _ _).mono ?_
  rintro e u1 ⟨rfl, hb1⟩
  have P0 : Bk u1 w.heap.size m o := bkOf hb1 (bkNew _ _ _ _)
  go_wp2_with fail
  refine (S.out _).mono ?_
  rintro e u2 ⟨rfl, hb2⟩
  have P1 := bkOf hb2 P0
  obtain ⟨c0, c1, f0, f1, z0⟩ := P1
  go_wp2_with fail
  refine (toBlades_any _ _ _).mono ?_
  rintro e u3 ⟨rfl, hb3⟩
  go_wp2_with fail
  refine (I.out _).mono ?_
  rintro e u4 ⟨rfl, hb4⟩
  go_wp2_with fail
  go_ret
  exact ⟨rfl, bTrans (bTrans (bTrans (bTrans (bAlloc (Below.refl _ _) _) hb1) hb2) hb3) hb4⟩

theorem lawSlowestSteady_of (m o : Int) (l : Int) (x y z : Int) (w : World)
    (hs : ∀ w : World, Calls Try.prog 26 #[fr m o, .int .i64 l] w fun e w' => e = .returned (.tuple #[fr x y, .int .i64 z]) ∧ Below w.heap.size w w')
    (hi : ∀ w : World, Calls Try.prog 25 #[fr m o, .int .i64 l] w fun e w' => e = .returned (.tuple #[fr x y, .int .i64 z]) ∧ Below w.heap.size w w') :
    Calls Try.prog 10 #[fr m o, .int .i64 l] w fun e w' => e = .returned (.bool true) ∧ Below w.heap.size w w' := by
  have S := Lib.hid hs
  have I := Lib.hid hi
  clear hs hi
  go_enter Try.func10, Try.ntmps10
  go_wp2_with fail
  refine (toBlades_any _ _ _).mono ?_
  rintro e u1 ⟨rfl, hb1⟩
  have P0 : Bk u1 w.heap.size m o := bkOf hb1 (bkNew _ _ _ _)
  go_wp2_with fail
  refine (S.out _).mono ?_
  rintro e u2 ⟨rfl, hb2⟩
  have P1 := bkOf hb2 P0
  obtain ⟨c0, c1, f0, f1, z0⟩ := P1
  obtain ⟨p0, p1⟩ := neOf19 z0
  go_wp2_with fail
  refine (toBlades_any _ _ _).mono ?_
  rintro e u3 ⟨rfl, hb3⟩
  have G0 : Bk u3 u2.heap.size x y := bkOf hb3 (bkNew _ _ _ _)
  clear c0 c1 f0 f1 z0 p0 p1
  go_wp2_with fail
  refine (I.out _).mono ?_
  rintro e u4 ⟨rfl, hb4⟩
  have G1 := bkOf hb4 G0
  obtain ⟨c0, c1, f0, f1, z0⟩ := G1
  obtain ⟨p0, p1⟩ := neOf19 z0
  go_wp2_with fail
  refine (eqFraction_same _ _ _).mono ?_
  rintro e u5 ⟨rfl, hb5⟩
  go_wp2_with fail
  go_ret
  refine ⟨rfl, ?_⟩
  repeat (first | exact Below.refl _ _ | refine bTrans ?_ hb5 | refine bTrans ?_ hb4 | refine bTrans ?_ hb3 | refine bTrans ?_ hb2 | refine bTrans ?_ hb1 | refine bAlloc ?_ _)

theorem lawLitShare_of (m o : Int) (x y z : Int) (w : World)
    (hs : ∀ w : World, Calls Try.prog 40 #[fr m o] w fun e w' => e = .returned (.tuple #[fr x y, .int .i64 z]) ∧ Below w.heap.size w w')
    (hi : ∀ w : World, Calls Try.prog 39 #[fr m o] w fun e w' => e = .returned (.tuple #[fr x y, .int .i64 z]) ∧ Below w.heap.size w w') :
    Calls Try.prog 12 #[fr m o] w fun e w' => e = .returned (.bool true) ∧ Below w.heap.size w w' := by
  have S := Lib.hid hs
  have I := Lib.hid hi
  clear hs hi
  go_enter Try.func12, Try.ntmps12
  go_wp2_with fail
  refine (toBlades_any _ _ _).mono ?_
  rintro e u1 ⟨rfl, hb1⟩
  have P0 : Bk u1 w.heap.size m o := bkOf hb1 (bkNew _ _ _ _)
  go_wp2_with fail
  refine (S.out _).mono ?_
  rintro e u2 ⟨rfl, hb2⟩
  have P1 := bkOf hb2 P0
  obtain ⟨c0, c1, f0, f1, z0⟩ := P1
  obtain ⟨p0, p1⟩ := neOf19 z0
  go_wp2_with fail
  refine (toBlades_any _ _ _).mono ?_
  rintro e u3 ⟨rfl, hb3⟩
  have G0 : Bk u3 u2.heap.size x y := bkOf hb3 (bkNew _ _ _ _)
  clear c0 c1 f0 f1 z0 p0 p1
  go_wp2_with fail
  refine (I.out _).mono ?_
  rintro e u4 ⟨rfl, hb4⟩
  have G1 := bkOf hb4 G0
  obtain ⟨c0, c1, f0, f1, z0⟩ := G1
  obtain ⟨p0, p1⟩ := neOf19 z0
  go_wp2_with fail
  refine (eqFraction_same _ _ _).mono ?_
  rintro e u5 ⟨rfl, hb5⟩
  go_wp2_with fail
  go_ret
  refine ⟨rfl, ?_⟩
  repeat (first | exact Below.refl _ _ | refine bTrans ?_ hb5 | refine bTrans ?_ hb4 | refine bTrans ?_ hb3 | refine bTrans ?_ hb2 | refine bTrans ?_ hb1 | refine bAlloc ?_ _)

/-- laws.FnExactValidBlades. -/
theorem law_ValidBlades (m o : Int) (w : World) :
    Calls Try.prog 6 #[fr m o] w fun e w' => e = .returned (.bool true) ∧ Below w.heap.size w w' :=
  lawValidBlades_of m o _ w (fun w => specValidBlades_any m o w) (fun w => validBlades_any m o w)

/-- laws.FnExactIsOpenAt. -/
theorem law_IsOpenAt (m o p : Int) (w : World) (_hp : I64 p) :
    Calls Try.prog 7 #[fr m o, .int .i64 p] w fun e w' => e = .returned (.bool true) ∧ Below w.heap.size w w' := by
  cases h1 : bladesB m o
  · exact lawIsOpenAt_of m o p _ 1 w (fun w => specOpen_bad m o p w h1) (fun w => implOpen_bad m o p w h1)
  · cases h4 : inB p 0 999
    · exact lawIsOpenAt_of m o p _ 2 w (fun w => specOpen_off m o p w h1 h4) (fun w => implOpen_off m o p w h1 h4)
    · obtain ⟨M, S, G, W⟩ := Wh.of h1
      obtain ⟨p0, p1⟩ := inB_iff.1 h4
      obtain ⟨k, rfl⟩ := Int.eq_ofNat_of_zero_le p0
      exact lawIsOpenAt_of m o k _ 0 w (fun w => specOpen_yes m o W h1 k h4 w) (fun w => implOpen_yes m o W h1 k h4 w)

/-- laws.FnExactOpenParts. -/
theorem law_OpenParts (m o p q : Int) (w : World) (_hp : I64 p) (_hq : I64 q) :
    Calls Try.prog 14 #[fr m o, .int .i64 p, .int .i64 q] w fun e w' => e = .returned (.bool true) ∧ Below w.heap.size w w' := by
  cases h1 : bladesB m o
  · exact lawOpenParts_of m o p q _ 1 w (fun w => specParts_bad m o p q w h1) (fun w => implParts_bad m o p q w h1)
  · by_cases h4 : p < 0
    · exact lawOpenParts_of m o p q _ 2 w (fun w => specParts_off1 m o p q w h1 (inB_not.2 (by omega))) (fun w => implParts_off1 m o p q w h1 h4)
    · by_cases h5 : q < p
      · by_cases h7 : p ≤ 1000
        · exact lawOpenParts_of m o p q _ 2 w (fun w => specParts_off2 m o p q w h1 (inB_iff.2 (by omega)) (inB_not.2 (by omega))) (fun w => implParts_off2 m o p q w h1 h4 h5)
        · exact lawOpenParts_of m o p q _ 2 w (fun w => specParts_off1 m o p q w h1 (inB_not.2 (by omega))) (fun w => implParts_off2 m o p q w h1 h4 h5)
      · by_cases h6 : 1000 < q
        · by_cases h7 : p ≤ 1000
          · exact lawOpenParts_of m o p q _ 2 w (fun w => specParts_off2 m o p q w h1 (inB_iff.2 (by omega)) (inB_not.2 (by omega))) (fun w => implParts_off3 m o p q w h1 h4 h5 h6)
          · exact lawOpenParts_of m o p q _ 2 w (fun w => specParts_off1 m o p q w h1 (inB_not.2 (by omega))) (fun w => implParts_off3 m o p q w h1 h4 h5 h6)
        · obtain ⟨M, S, G, W⟩ := Wh.of h1
          obtain ⟨x, rfl⟩ := Int.eq_ofNat_of_zero_le (show 0 ≤ p by omega)
          obtain ⟨y, rfl⟩ := Int.eq_ofNat_of_zero_le (show 0 ≤ q by omega)
          exact lawOpenParts_of m o x y _ 0 w (fun w => specParts_yes m o W h1 x y (by omega) (by omega) w) (fun w => implParts_yes m o W h1 x y (by omega) (by omega) w)

/-- laws.FnExactSlowestSteady. -/
theorem law_SlowestSteady (m o l : Int) (w : World) (_hl : I64 l) :
    Calls Try.prog 10 #[fr m o, .int .i64 l] w fun e w' => e = .returned (.bool true) ∧ Below w.heap.size w w' := by
  cases h1 : bladesB m o
  · exact lawSlowestSteady_of m o l 0 0 1 w (fun w => specSlow_bad m o l w h1) (fun w => implSlow_bad m o l w h1)
  · cases h4 : inB l 1 200
    · exact lawSlowestSteady_of m o l 0 0 2 w (fun w => specSlow_off m o l w h1 h4) (fun w => implSlow_off m o l w h1 h4)
    · exact lawSlowestSteady_of m o l _ _ 0 w (fun w => specSlow_yes m o l w h1 h4) (fun w => implSlow_yes m o l w h1 h4)

/-- laws.FnExactLitShare. -/
theorem law_LitShare (m o : Int) (w : World) :
    Calls Try.prog 12 #[fr m o] w fun e w' => e = .returned (.bool true) ∧ Below w.heap.size w w' := by
  cases h1 : bladesB m o
  · exact lawLitShare_of m o 0 0 1 w (fun w => specLit_bad m o w h1) (fun w => implLit_bad m o w h1)
  · exact lawLitShare_of m o _ _ 0 w (fun w => specLit_yes m o w h1) (fun w => implLit_yes m o w h1)

end Go.Proofs.Ytflgjohknjgdcaa
