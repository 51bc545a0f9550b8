/- The common length of two loops: the program and the model. -/
import Derived.Test.YtfbdeeobmjndlaaProg
import Derived.Test.YtfbdeeobmjndlaaLoopMath
import Derived.Test.YtfbdeeobmjndlaaInts
import Derived.Test.YtfbdeeobmjndlaaLoop
import Derived.Test.YtfbdeeobmjndlaaLoop2
import Derived.Test.YtfbdeeobmjndlaaLoop3
import Derived.Test.YtfbdeeobmjndlaaLcm
import Derived.Deep.AppendLies
import Derived.Deep.DrawnRows
import Derived.Test.YtfbdeeobmjndlaaHold
import Derived.IntWalk
import Derived.WalkSpells
import Derived.OwnWalk
import Derived.Laws.AppendOwn
import Derived.Laws.OwnMore
import Derived.Deep.RegionWith
import Derived.Deep.DrawnRows
import Derived.Deep.RegionHeld3
import Derived.Tactics
import Derived.Tactics2
import Derived.WalkKit
import Derived.LoopTactic
import Derived.BigQuiet
import Derived.RegionTactic
import Derived.Deep.QuietTactic
import Derived.Outline
import Derived.Lib.Hide
import Derived.Below
import Derived.KernelRfl
namespace Go.Proofs.Ytfbdeeobmjndlaa
set_option linter.unusedSimpArgs false
set_option linter.unusedVariables false
open Go.RowKit

/-- spec.l05Common. -/
theorem l05Common_any (a b : Nat) (w : World) (h1 : 1 ≤ a) (h2 : a ≤ 1000000) (h3 : 1 ≤ b) (h4 : b ≤ 1000000) :
    Calls Try.prog 124 #[.int .i64 a, .int .i64 b] w fun e w' => e = .returned (.int .i64 ((a / Nat.gcd a b * b : Nat) : Int)) ∧ w = w' := by
  obtain ⟨q1, q2, g1, g2⟩ := lcm_bd h1 h2 h3 h4
  have G := Lib.hid (l00Gcd_any a b w (by omega) (by omega))
  have hq := Lib.hid (show ((a / Nat.gcd a b : Nat) : Int) = (a : Int) / (Nat.gcd a b : Nat) from Int.natCast_ediv _ _)
  have hd : (a : Int) / (Nat.gcd a b : Nat) = ((a / Nat.gcd a b : Nat) : Int) := hq.out.symm
  generalize a / Nat.gcd a b = q at *
  generalize Nat.gcd a b = g at *
  have hqb := Lib.hid (show ((q * b : Nat) : Int) = (q : Int) * (b : Int) from Int.natCast_mul _ _)
  have hg0 : ¬ g = 0 := by omega
  have hw1 : IntKind.i64.wrap (q : Int) = q := IntWalk.i64_in _ (by omega)
  have hm : (q : Int) * (b : Int) ≤ 1000000000000 ∧ 0 ≤ (q : Int) * (b : Int) := by rw [← hqb.out]; omega
  have hw2 : IntKind.i64.wrap ((q : Int) * (b : Int)) = (q : Int) * (b : Int) := IntWalk.i64_in _ (by omega)
  clear hq
  rw [hqb.out]
  go_enter Try.func124, Try.ntmps124
  go_wp2_with fail
  refine G.out.mono ?_
  rintro e u ⟨rfl, rfl⟩
  go_wp2
  go_ret
  exact ⟨rfl, rfl⟩

theorem lenB_iff {n : Int} : lenB n = true ↔ 1 ≤ n ∧ n ≤ 60 := by simp [lenB]

/-- impl.CommonLength. -/
theorem implCommon_bad (a b : Int) (w : World) (h : (lenB a && lenB b) = false) :
    Calls Try.prog 36 #[.int .i64 a, .int .i64 b] w fun e w' => e = .returned (.tuple #[.int .i64 0, .int .i64 2]) ∧ Below w.heap.size w w' := by
  cases h1 : lenB a
  · clear h
    go_enter Try.func36, Try.ntmps36
    go_wp2_with fail
    refine (isLoopLength_any a _).mono ?_
    rintro e u ⟨rfl, rfl⟩
    rw [h1]
    go_wp2
    go_ret2
    exact ⟨rfl, Below.refl _ _⟩
  · rw [h1, Bool.true_and] at h
    go_enter Try.func36, Try.ntmps36
    go_wp2_with fail
    refine (isLoopLength_any a _).mono ?_
    rintro e u ⟨rfl, rfl⟩
    rw [h1]
    go_wp2_with fail
    refine (isLoopLength_any b _).mono ?_
    rintro e u ⟨rfl, rfl⟩
    rw [h]
    go_wp2
    go_ret2
    exact ⟨rfl, Below.refl _ _⟩
theorem implCommon_ok (a b : Nat) (w : World) (h1 : lenB a = true) (h2 : lenB b = true) :
    Calls Try.prog 36 #[.int .i64 a, .int .i64 b] w fun e w' => e = .returned (.tuple #[.int .i64 ((a / Nat.gcd a b * b : Nat) : Int), .int .i64 0]) ∧ Below w.heap.size w w' := by
  obtain ⟨a1, a2⟩ := lenB_iff.1 h1
  obtain ⟨b1, b2⟩ := lenB_iff.1 h2
  have L := Lib.hid (leastMultiple_any a b w (by omega) (by omega) (by omega) (by omega))
  generalize a / Nat.gcd a b * b = m at *
  go_enter Try.func36, Try.ntmps36
  go_wp2_with fail
  refine (isLoopLength_any a _).mono ?_
  rintro e u ⟨rfl, rfl⟩
  rw [h1]
  go_wp2_with fail
  refine (isLoopLength_any b _).mono ?_
  rintro e u ⟨rfl, rfl⟩
  rw [h2]
  go_wp2_with fail
  refine L.out.mono ?_
  rintro e u ⟨rfl, k, rfl⟩
  go_wp2
  go_ret2
  exact ⟨rfl, bDrewN (Below.refl _ _) k⟩

/-- spec.CommonLength. -/
theorem specCommon_bad (a b : Int) (w : World) (h : (lenB a && lenB b) = false) :
    Calls Try.prog 35 #[.int .i64 a, .int .i64 b] w fun e w' => e = .returned (.tuple #[.int .i64 0, .int .i64 2]) ∧ Below w.heap.size w w' := by
  cases h1 : lenB a
  · clear h
    have h1' : inB a 1 60 = false := h1
    go_enter Try.func35, Try.ntmps35
    go_wp2_with fail
    refine (l00In_any _ _ _ _).mono ?_
    rintro e u ⟨rfl, rfl⟩
    rw [h1']
    go_wp2
    go_ret2
    exact ⟨rfl, Below.refl _ _⟩
  · rw [h1, Bool.true_and] at h
    have h1' : inB a 1 60 = true := h1
    have h2' : inB b 1 60 = false := h
    go_enter Try.func35, Try.ntmps35
    go_wp2_with fail
    refine (l00In_any _ _ _ _).mono ?_
    rintro e u ⟨rfl, rfl⟩
    rw [h1']
    go_wp2_with fail
    refine (l00In_any _ _ _ _).mono ?_
    rintro e u ⟨rfl, rfl⟩
    rw [h2']
    go_wp2
    go_ret2
    exact ⟨rfl, Below.refl _ _⟩
theorem specCommon_ok (a b : Nat) (w : World) (h1 : lenB a = true) (h2 : lenB b = true) :
    Calls Try.prog 35 #[.int .i64 a, .int .i64 b] w fun e w' => e = .returned (.tuple #[.int .i64 ((a / Nat.gcd a b * b : Nat) : Int), .int .i64 0]) ∧ Below w.heap.size w w' := by
  obtain ⟨a1, a2⟩ := lenB_iff.1 h1
  obtain ⟨b1, b2⟩ := lenB_iff.1 h2
  have h1' : inB a 1 60 = true := h1
  have h2' : inB b 1 60 = true := h2
  have L := Lib.hid (l05Common_any a b w (by omega) (by omega) (by omega) (by omega))
  generalize a / Nat.gcd a b * b = m at *
  go_enter Try.func35, Try.ntmps35
  go_wp2_with fail
  refine (l00In_any _ _ _ _).mono ?_
  rintro e u ⟨rfl, rfl⟩
  rw [h1']
  go_wp2_with fail
  refine (l00In_any _ _ _ _).mono ?_
  rintro e u ⟨rfl, rfl⟩
  rw [h2']
  go_wp2_with fail
  refine L.out.mono ?_
  rintro e u ⟨rfl, rfl⟩
  go_wp2
  go_ret2
  exact ⟨rfl, Below.refl _ _⟩

theorem lawCommonLength_of (a0 a1 z0 z1 : Int) (w : World)
    (hs : ∀ w : World, Calls Try.prog 35 #[.int .i64 a0, .int .i64 a1] w fun e w' => e = .returned (.tuple #[.int .i64 z0, .int .i64 z1]) ∧ Below w.heap.size w w')
    (hi : ∀ w : World, Calls Try.prog 36 #[.int .i64 a0, .int .i64 a1] w fun e w' => e = .returned (.tuple #[.int .i64 z0, .int .i64 z1]) ∧ Below w.heap.size w w') :
    Calls Try.prog 7 #[.int .i64 a0, .int .i64 a1] w fun e w' => e = .returned (.bool true) ∧ Below w.heap.size w w' := by
  have S := Lib.hid hs
  have I := Lib.hid hi
  clear hs hi
  go_enter Try.func7, Try.ntmps7
  go_wp2_with fail
  refine (S.out _).mono ?_
  rintro e u1 ⟨rfl, hb1⟩
  go_wp2_with fail
  refine (I.out _).mono ?_
  rintro e u2 ⟨rfl, hb2⟩
  go_wp2
  go_ret
  exact ⟨rfl, bTrans hb1 hb2⟩

/-- laws.FnExactCommonLength. -/
theorem law_CommonLength (a b : Int) (w : World) (_ha : I64 a) (_hb : I64 b) :
    Calls Try.prog 7 #[.int .i64 a, .int .i64 b] w fun e w' => e = .returned (.bool true) ∧ Below w.heap.size w w' := by
  cases h : lenB a && lenB b
  · exact lawCommonLength_of a b 0 2 w (fun w => specCommon_bad a b w h) (fun w => implCommon_bad a b w h)
  · simp only [Bool.and_eq_true] at h
    obtain ⟨h1, h2⟩ := h
    have a1 := (lenB_iff.1 h1).1
    have b1 := (lenB_iff.1 h2).1
    obtain ⟨x, rfl⟩ := Int.eq_ofNat_of_zero_le (show 0 ≤ a by omega)
    obtain ⟨y, rfl⟩ := Int.eq_ofNat_of_zero_le (show 0 ≤ b by omega)
    exact lawCommonLength_of x y _ 0 w (fun w => specCommon_ok x y w h1 h2) (fun w => implCommon_ok x y w h1 h2)

end Go.Proofs.Ytfbdeeobmjndlaa
