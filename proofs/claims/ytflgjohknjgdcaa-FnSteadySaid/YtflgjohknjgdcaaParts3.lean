/- Open parts: the parts between two; in the program and in the model. -/
import Derived.Test.YtflgjohknjgdcaaProg
import Derived.Test.YtflgjohknjgdcaaParts
import Derived.Laws.Cover1
import Derived.Deep.RegionWith
import Derived.Deep.RegionHeld3
import Derived.Deep.DrawnRows
import Derived.Deep.DeepCutAuto
import Derived.Tactics
import Derived.Tactics2
import Derived.WalkKit
import Derived.LoopTactic
import Derived.BigQuiet
import Derived.BigRegion
import Derived.RegionTactic
import Derived.Deep.QuietTactic
import Derived.Outline
import Derived.Lib.Hide
import Derived.Below
import Derived.KernelRfl
namespace Go.Proofs.Ytflgjohknjgdcaa
set_option linter.unusedSimpArgs false
set_option linter.unusedVariables false
open Go.RowKit

theorem specParts_yes (m o : Int) {M S G : Nat} (W : Wh m o M S G) (h1 : bladesB m o = true) (x y : Nat) (h : x ≤ y) (hy : y ≤ 1000) (w : World) :
    Calls Try.prog 29 #[fr m o, .int .i64 x, .int .i64 y] w fun e w' => e = .returned (.tuple #[.int .i64 (beforeN S G y - beforeN S G x : Nat), .int .i64 0]) ∧ Below w.heap.size w w' := by
  have h4 : inB (x : Int) 0 1000 = true := inB_iff.2 (by omega)
  have h5 : inB (y : Int) x 1000 = true := inB_iff.2 (by omega)
  go_enter Try.func29, Try.ntmps29
  go_wp2_with fail
  refine (l09Ok_any _ m o _ (bkNew _ _ _ _)).mono ?_
  rintro e u ⟨rfl, n1, rfl⟩
  go_wp2_with fail
  refine (l00In_any _ _ _ _).mono ?_
  rintro e u ⟨rfl, rfl⟩
  go_wp2_with fail
  refine (l00In_any _ _ _ _).mono ?_
  rintro e u ⟨rfl, rfl⟩
  go_wp2_with fail
  have B0 : Bk ((w.alloc (.cells #[.int .i64 m, .int .i64 o] 25)).drewN n1) w.heap.size m o := bkOf (bDrewN (Below.refl _ _) n1) (bkNew _ _ _ _)
  have HW := Lib.hid (bDrewN (bAlloc (Below.refl w.heap.size w) (.cells #[.int .i64 m, .int .i64 o] 25)) n1)
  generalize (w.alloc (.cells #[.int .i64 m, .int .i64 o] 25)).drewN n1 = u at *
  go_loopw [8, 9] (fun s t wr => ∃ k : Nat, x ≤ k ∧ k ≤ y ∧ s = .int .i64 (beforeN S G k - beforeN S G x : Nat) ∧ t = .int .i64 k ∧ ∃ n, Hid (wr = u.drewN n)) (fun _ t _ => y - (intOf t).toNat)
  case atStart => exact ⟨x, Nat.le_refl _, h, by rw [Nat.sub_self]; rfl, rfl, 0, Lib.hid rfl⟩
  case round =>
    obtain ⟨k, k1, k2, rfl, rfl, n, HWr⟩ := hrel
    by_cases hlt : k < y
    · have hO := Lib.hid (l09Open_any w.heap.size m o W k wr (by rw [HWr.out]; exact bkOf (bDrewN (Below.refl _ _) n) B0) (by omega))
      have mo := beforeN_mono S G k1
      have le := beforeN_le S G k
      cases hP : openB S G k
      · have hN : beforeN S G (k + 1) = beforeN S G k := by rw [beforeN, cnt, hP]; rfl
        rw [hP] at hO
        go_wp2_with fail
        refine hO.out.mono ?_
        rintro e v ⟨rfl, n2, rfl⟩
        go_wp2_with fail
        go_roundw
        case rel => exact ⟨k + 1, by omega, by omega, by rw [hN], by go_num, n + n2, Lib.hid (by rw [HWr.out, World.drewN_drewN])⟩
        case measure => simp [intOf]; omega
      · have hN : beforeN S G (k + 1) = beforeN S G k + 1 := by rw [beforeN, cnt, hP]; rfl
        rw [hP] at hO
        obtain ⟨d, hd⟩ : ∃ d, beforeN S G k - beforeN S G x = d := ⟨_, rfl⟩
        have hd2 : beforeN S G (k + 1) - beforeN S G x = d + 1 := by omega
        have hd3 : d ≤ 1000 := by omega
        rw [hd]
        go_wp2_with fail
        refine hO.out.mono ?_
        rintro e v ⟨rfl, n2, rfl⟩
        go_wp2_with fail
        go_roundw
        case rel => exact ⟨k + 1, by omega, by omega, by rw [hd2]; go_num, by go_num, n + n2, Lib.hid (by rw [HWr.out, World.drewN_drewN])⟩
        case measure => simp [intOf]; omega
    · have : k = y := by omega
      subst this
      go_wp2_with fail
      go_ret2
      exact ⟨rfl, by rw [HWr.out]; exact bDrewN HW.out n⟩

end Go.Proofs.Ytflgjohknjgdcaa
