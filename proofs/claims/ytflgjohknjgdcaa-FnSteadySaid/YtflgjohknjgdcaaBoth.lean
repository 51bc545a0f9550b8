/- The light of two wheels in the model: at how many parts it passes both; the best offset. -/
import Derived.Test.YtflgjohknjgdcaaProg
import Derived.Test.YtflgjohknjgdcaaBldFn4
import Derived.Test.YtflgjohknjgdcaaLitMath
import Derived.Laws.Cover1
import Derived.Deep.RegionWith
import Derived.Deep.DrawnRows
import Derived.Tactics
import Derived.Tactics2
import Derived.WalkKit
import Derived.LoopTactic
import Derived.BigQuiet
import Derived.BigRegion
import Derived.RegionTactic
import Derived.Deep.QuietTactic
import Derived.Outline
import Derived.Lib.Hide
import Derived.Below
import Derived.KernelRfl
namespace Go.Proofs.Ytflgjohknjgdcaa
set_option linter.unusedSimpArgs false
set_option linter.unusedVariables false
open Go.RowKit

theorem bkDrewN {w : World} {b : Nat} {x y : Int} (h : Bk w b x y) (n : Nat) : Bk (w.drewN n) b x y := bkOf (bDrewN (Below.refl _ _) n) h

set_option maxHeartbeats 1000000 in
set_option maxRecDepth 100000 in
/-- spec.l09Both. -/
theorem l09Both_any (ba bb : Nat) (ma oa mb ob : Int) {Ma Sa Ga Mb Sb Gb : Nat} (WA : Wh ma oa Ma Sa Ga) (WB : Wh mb ob Mb Sb Gb) (y : Nat) (hy : y ≤ 1000) (w : World) (BA : Bk w ba ma oa) (BB : Bk w bb mb ob) :
    Calls Try.prog 82 #[.pointer (some ⟨ba, 0, none⟩), .pointer (some ⟨bb, 0, none⟩), .int .i64 y] w fun e w' => e = .returned (.int .i64 (litN Sa Ga Sb Gb y)) ∧ ∃ n, w' = w.drewN n := by
  go_enter Try.func82, Try.ntmps82
  go_wp2_with fail
  go_loopw [7, 8] (fun s t wr => ∃ k : Nat, k ≤ 1000 ∧ s = .int .i64 (cnt (fun k => decide (k % Sa < Ga) && decide ((k + y) % Sb < Gb)) k) ∧ t = .int .i64 k ∧ ∃ n, Hid (wr = w.drewN n)) (fun _ t _ => 1000 - (intOf t).toNat)
  case atStart => exact ⟨0, by omega, rfl, rfl, 0, Lib.hid rfl⟩
  case round =>
    obtain ⟨k, k2, rfl, rfl, n, HWr⟩ := hrel
    have lc := cnt_le (fun k => decide (k % Sa < Ga) && decide ((k + y) % Sb < Gb)) k
    by_cases hlt : k < 1000
    · have hA := Lib.hid (l09Open_any ba ma oa WA k wr (by rw [HWr.out]; exact bkDrewN BA n) (by omega))
      have hB := Lib.hid (fun n2 => l09Open_any bb mb ob WB (k + y) (wr.drewN n2) (by rw [HWr.out]; exact bkDrewN (bkDrewN BB n) n2) (by omega))
      have hw : IntKind.i64.wrap ((k : Int) + (y : Int)) = ((k + y : Nat) : Int) := by rw [IntWalk.i64_in _ (by omega)]; omega
      cases hP : openB Sa Ga k
      · have hN : cnt (fun k => decide (k % Sa < Ga) && decide ((k + y) % Sb < Gb)) (k + 1) = cnt (fun k => decide (k % Sa < Ga) && decide ((k + y) % Sb < Gb)) k := by
          have e : decide (k % Sa < Ga) = false := hP
          rw [cnt]; simp only [e]; rfl
        rw [hP] at hA
        go_wp2_with fail
        refine hA.out.mono ?_
        rintro e v ⟨rfl, n2, rfl⟩
        go_wp2_with fail
        go_roundw
        case rel => exact ⟨k + 1, by omega, by rw [hN], by go_num, n + n2, Lib.hid (by rw [HWr.out, World.drewN_drewN])⟩
        case measure => simp [intOf]; omega
      · rw [hP] at hA
        cases hQ : openB Sb Gb (k + y)
        · have hN : cnt (fun k => decide (k % Sa < Ga) && decide ((k + y) % Sb < Gb)) (k + 1) = cnt (fun k => decide (k % Sa < Ga) && decide ((k + y) % Sb < Gb)) k := by
            have e : decide ((k + y) % Sb < Gb) = false := hQ
            rw [cnt]; simp only [e, Bool.and_false]; rfl
          rw [hQ] at hB
          generalize k + y = s at *
          go_wp2_with fail
          refine hA.out.mono ?_
          rintro e v ⟨rfl, n2, rfl⟩
          go_wp2_with fail
          refine (hB.out n2).mono ?_
          rintro e v ⟨rfl, n3, rfl⟩
          go_wp2_with fail
          go_roundw
          case rel => exact ⟨k + 1, by omega, by rw [hN], by go_num, n + (n2 + n3), Lib.hid (by rw [HWr.out, World.drewN_drewN])⟩
          case measure => simp [intOf]; omega
        · have hN : cnt (fun k => decide (k % Sa < Ga) && decide ((k + y) % Sb < Gb)) (k + 1) = cnt (fun k => decide (k % Sa < Ga) && decide ((k + y) % Sb < Gb)) k + 1 := by
            have e : decide (k % Sa < Ga) = true := hP
            have e2 : decide ((k + y) % Sb < Gb) = true := hQ
            rw [cnt]; simp only [e, e2, Bool.and_true]; rfl
          rw [hQ] at hB
          generalize k + y = s at *
          generalize cnt (fun k => decide (k % Sa < Ga) && decide ((k + y) % Sb < Gb)) k = c at *
          go_wp2_with fail
          refine hA.out.mono ?_
          rintro e v ⟨rfl, n2, rfl⟩
          go_wp2_with fail
          refine (hB.out n2).mono ?_
          rintro e v ⟨rfl, n3, rfl⟩
          go_wp2_with fail
          go_roundw
          case rel => exact ⟨k + 1, by omega, by rw [hN]; go_num, by go_num, n + (n2 + n3), Lib.hid (by rw [HWr.out, World.drewN_drewN])⟩
          case measure => simp [intOf]; omega
    · have : k = 1000 := by omega
      subst this
      go_wp2_with fail
      go_ret
      exact ⟨rfl, n, HWr.out⟩

theorem bk2 (w : World) (m o m2 o2 : Int) (t : TypeId) (n : Nat) : Bk (((w.alloc (.cells #[.int .i64 m, .int .i64 o] t)).alloc (.cells #[.int .i64 m2, .int .i64 o2] t)).drewN n) w.heap.size m o ∧ Bk (((w.alloc (.cells #[.int .i64 m, .int .i64 o] t)).alloc (.cells #[.int .i64 m2, .int .i64 o2] t)).drewN n) (w.heap.size + 1) m2 o2 := by
  constructor
  · exact bkDrewN (bkOf (bAlloc (Below.refl _ _) _) (bkNew _ _ _ _)) n
  · have h := bkNew (w.alloc (.cells #[.int .i64 m, .int .i64 o] t)) m2 o2 t
    rw [World.size_alloc] at h
    exact bkDrewN h n

theorem specTwo_yes (m o m2 o2 : Int) {Ma Sa Ga Mb Sb Gb : Nat} (WA : Wh m o Ma Sa Ga) (WB : Wh m2 o2 Mb Sb Gb) (h1 : bladesB m o = true) (h2 : bladesB m2 o2 = true) (y : Nat) (h4 : inB y 0 999 = true) (w : World) :
    Calls Try.prog 37 #[fr m o, fr m2 o2, .int .i64 y] w fun e w' => e = .returned (.tuple #[.int .i64 (litN Sa Ga Sb Gb y), .int .i64 0]) ∧ Below w.heap.size w w' := by
  obtain ⟨y0, y1⟩ := inB_iff.1 h4
  go_enter Try.func37, Try.ntmps37
  go_wp2_with fail
  refine (l09Ok_any _ m o _ (bk2 w m o m2 o2 25 0).1).mono ?_
  rintro e u ⟨rfl, n1, rfl⟩
  go_wp2_with fail
  refine (l09Ok_any _ m2 o2 _ (bk2 w m o m2 o2 25 n1).2).mono ?_
  rintro e u ⟨rfl, n2, rfl⟩
  go_wp2_with fail
  refine (l00In_any _ _ _ _).mono ?_
  rintro e u ⟨rfl, rfl⟩
  go_wp2_with fail
  refine (l09Both_any _ _ m o m2 o2 WA WB y (by omega) _ (bk2 w m o m2 o2 25 (n1 + n2)).1 (bk2 w m o m2 o2 25 (n1 + n2)).2).mono ?_
  rintro e u ⟨rfl, n3, rfl⟩
  go_wp2_with fail
  go_ret2
  refine ⟨rfl, ?_⟩
  repeat (first | exact Below.refl _ _ | refine bDrewN ?_ _ | refine bAlloc ?_ _)

/-- Where the search for the best offset stands behind k offsets. -/
def TopAt (f : Nat → Nat) (k : Nat) (b m : Int) : Prop := (k = 0 ∧ b = 0 ∧ m = -1) ∨ ∃ B M : Nat, b = B ∧ m = M ∧ IsTop f k B M

set_option maxHeartbeats 1000000 in
set_option maxRecDepth 100000 in
theorem specBest_yes (m o m2 o2 : Int) {Ma Sa Ga Mb Sb Gb : Nat} (WA : Wh m o Ma Sa Ga) (WB : Wh m2 o2 Mb Sb Gb) (h1 : bladesB m o = true) (h2 : bladesB m2 o2 = true) (B M : Nat) (hT : IsTop (litN Sa Ga Sb Gb) 1000 B M) (w : World) :
    Calls Try.prog 48 #[fr m o, fr m2 o2] w fun e w' => e = .returned (.tuple #[.int .i64 B, .int .i64 M, .int .i64 0]) ∧ Below w.heap.size w w' := by
  go_enter Try.func48, Try.ntmps48
  go_wp2_with fail
  refine (l09Ok_any _ m o _ (bk2 w m o m2 o2 25 0).1).mono ?_
  rintro e u ⟨rfl, n1, rfl⟩
  go_wp2_with fail
  refine (l09Ok_any _ m2 o2 _ (bk2 w m o m2 o2 25 n1).2).mono ?_
  rintro e u ⟨rfl, n2, rfl⟩
  go_wp2_with fail
  have BB := bk2 w m o m2 o2 25 (n1 + n2)
  have HW : Hid (Below w.heap.size w (((w.alloc (.cells #[.int .i64 m, .int .i64 o] 25)).alloc (.cells #[.int .i64 m2, .int .i64 o2] 25)).drewN (n1 + n2))) := Lib.hid (bDrewN (bAlloc (bAlloc (Below.refl _ _) _) _) _)
  generalize ((w.alloc (.cells #[.int .i64 m, .int .i64 o] 25)).alloc (.cells #[.int .i64 m2, .int .i64 o2] 25)).drewN (n1 + n2) = u at *
  obtain ⟨BA, BB⟩ := BB
  go_loopw [7, 8, 9] (fun s t z wr => ∃ (k : Nat) (b mm : Int), k ≤ 1000 ∧ s = .int .i64 b ∧ t = .int .i64 mm ∧ z = .int .i64 k ∧ Hid (TopAt (litN Sa Ga Sb Gb) k b mm) ∧ ∃ n, Hid (wr = u.drewN n)) (fun _ _ z _ => 1000 - (intOf z).toNat)
  case atStart => exact ⟨0, 0, -1, by omega, rfl, rfl, rfl, Lib.hid (.inl ⟨rfl, rfl, rfl⟩), 0, Lib.hid rfl⟩
  case round =>
    obtain ⟨k, b, mm, k2, rfl, rfl, rfl, HT, n, HWr⟩ := hrel
    by_cases hlt : k < 1000
    · have hL := Lib.hid (l09Both_any w.heap.size (w.heap.size + 1) m o m2 o2 WA WB k (by omega) wr (by rw [HWr.out]; exact bkDrewN BA n) (by rw [HWr.out]; exact bkDrewN BB n))
      obtain ⟨x, hx⟩ : ∃ x, litN Sa Ga Sb Gb k = x := ⟨_, rfl⟩
      rw [hx] at hL
      by_cases hg : mm < (x : Int)
      · have hN : Hid (TopAt (litN Sa Ga Sb Gb) (k + 1) (k : Nat) (x : Nat)) := Lib.hid (by
          rcases HT.out with ⟨rfl, _, _⟩ | ⟨B0, M0, rfl, rfl, ht⟩
          · exact .inr ⟨0, x, rfl, rfl, by rw [← hx]; exact IsTop.one _⟩
          · exact .inr ⟨k, x, rfl, rfl, by rw [← hx]; exact ht.greater (by rw [hx]; omega)⟩)
        clear hx
        go_wp2_with fail
        refine hL.out.mono ?_
        rintro e v ⟨rfl, n3, rfl⟩
        go_wp2_with fail
        go_roundw
        case rel => exact ⟨k + 1, k, x, by omega, rfl, rfl, by go_num, hN, n + n3, Lib.hid (by rw [HWr.out, World.drewN_drewN])⟩
        case measure => simp [intOf]; omega
      · have hN : Hid (TopAt (litN Sa Ga Sb Gb) (k + 1) b mm) := Lib.hid (by
          rcases HT.out with ⟨rfl, _, rfl⟩ | ⟨B0, M0, rfl, rfl, ht⟩
          · omega
          · exact .inr ⟨B0, M0, rfl, rfl, ht.same (by rw [hx]; omega)⟩)
        clear hx
        go_wp2_with fail
        refine hL.out.mono ?_
        rintro e v ⟨rfl, n3, rfl⟩
        go_wp2_with fail
        go_roundw
        case rel => exact ⟨k + 1, b, mm, by omega, rfl, rfl, by go_num, hN, n + n3, Lib.hid (by rw [HWr.out, World.drewN_drewN])⟩
        case measure => simp [intOf]; omega
    · have : k = 1000 := by omega
      subst this
      have hE : b = (B : Int) ∧ mm = (M : Int) := by
        rcases HT.out with ⟨h, _, _⟩ | ⟨B0, M0, rfl, rfl, ht⟩
        · omega
        · have := ht.unique hT; omega
      obtain ⟨rfl, rfl⟩ := hE
      go_wp2_with fail
      go_ret3
      exact ⟨rfl, by rw [HWr.out]; exact bDrewN HW.out n⟩

end Go.Proofs.Ytflgjohknjgdcaa
