/- Whether a fraction is valid: the model. -/
import Derived.Test.YtflgjohknjgdcaaProg
import Derived.Test.YtflgjohknjgdcaaLeaf
import Derived.Tactics
import Derived.Tactics2
import Derived.WalkKit
import Derived.LoopTactic
import Derived.BigQuiet
import Derived.RegionTactic
import Derived.BigRegion
import Derived.ChangeAlike
import Derived.Deep.QuietTactic
import Derived.Deep.RegionHeld3
import Derived.Deep.DeepCutAuto
import Derived.Outline
import Derived.Lib.Hide
import Derived.Below
import Derived.KernelRfl
namespace Go.Proofs.Ytflgjohknjgdcaa
set_option linter.unusedSimpArgs false
set_option linter.unusedVariables false
open Go.RowKit

set_option maxHeartbeats 1000000 in
/-- spec.l02Ok. -/
theorem l02Ok_any (n d : Int) (w : World) (w1 : -9223372036854775808 ≤ n) (w2 : n ≤ 9223372036854775807) :
    Calls Try.prog 65 #[fr n d] w fun e w' => e = .returned (.bool (okB n d)) ∧ Below w.heap.size w w' := by
  cases h1 : inB d 1 1000000
  · go_enter Try.func65, Try.ntmps65
    go_wp2
    go_quiet ((first | (go_at_call 75; exact quietEq (l00In_any _ _ _ _)) | (go_at_call 93; exact quietEq (l00Size_any _ _ (by omega) (by omega))) | (go_at_call 92; exact quietEq (l00Gcd_any _ _ _ (by omega) (by omega)))))
    go_wp2
    go_ret
    exact ⟨ret_bool (by simp [okB, h1]), bDrewN (bAlloc (Below.refl _ _) _) _⟩
  · cases h2 : inB n (-1000000) 1000000
    · go_enter Try.func65, Try.ntmps65
      go_wp2
      go_quiet ((first | (go_at_call 75; exact quietEq (l00In_any _ _ _ _)) | (go_at_call 93; exact quietEq (l00Size_any _ _ (by omega) (by omega))) | (go_at_call 92; exact quietEq (l00Gcd_any _ _ _ (by omega) (by omega)))))
      go_wp2
      go_ret
      exact ⟨ret_bool (by simp [okB, h2]), bDrewN (bAlloc (Below.refl _ _) _) _⟩
    · obtain ⟨d1, d2⟩ := inB_iff.1 h1
      obtain ⟨n1, n2⟩ := inB_iff.1 h2
      obtain ⟨k, rfl⟩ := Int.eq_ofNat_of_zero_le (show 0 ≤ d by omega)
      go_enter Try.func65, Try.ntmps65
      go_wp2
      go_quiet ((first | (go_at_call 75; exact quietEq (l00In_any _ _ _ _)) | (go_at_call 93; exact quietEq (l00Size_any _ _ (by omega) (by omega))) | (go_at_call 92; exact quietEq (l00Gcd_any _ _ _ (by omega) (by omega)))))
      go_wp2
      go_ret
      refine ⟨ret_bool ?_, bDrewN (bAlloc (Below.refl _ _) _) _⟩
      have hk : (k : Int).natAbs = k := by omega
      rw [okB, h1, h2, hk, Bool.true_and, Bool.true_and, Bool.eq_iff_iff, beq_iff_eq, decide_eq_true_eq]
      omega

end Go.Proofs.Ytflgjohknjgdcaa
