/- Loops that are valid; rings: the program and the model. -/
import Derived.Test.YtibafngidpmgdabProg
import Derived.Test.YtibafngidpmgdabLoopMath
import Derived.Test.YtibafngidpmgdabInts
import Derived.IntWalk
import Derived.WalkSpells
import Derived.OwnWalk
import Derived.Laws.AppendOwn
import Derived.Laws.OwnMore
import Derived.Deep.RegionWith
import Derived.Deep.DrawnRows
import Derived.Deep.RegionHeld3
import Derived.Tactics
import Derived.Tactics2
import Derived.WalkKit
import Derived.LoopTactic
import Derived.BigQuiet
import Derived.RegionTactic
import Derived.Deep.QuietTactic
import Derived.Outline
import Derived.Lib.Hide
import Derived.Below
import Derived.KernelRfl
namespace Go.Proofs.Ytibafngidpmgdab
set_option linter.unusedSimpArgs false
set_option linter.unusedVariables false
open Go.RowKit

/-- The number of places of a loop. -/
def lenB (n : Int) : Bool := decide (1 ≤ n) && decide (n ≤ 60)
theorem loopB_eq (zs : List Int) : loopB zs = (lenB (zs.length : Int) && zs.all placeB) := by
  have e1 : decide ((1 : Int) ≤ (zs.length : Int)) = decide (1 ≤ zs.length) := by rw [Bool.eq_iff_iff, decide_eq_true_eq, decide_eq_true_eq]; omega
  have e2 : decide ((zs.length : Int) ≤ 60) = decide (zs.length ≤ 60) := by rw [Bool.eq_iff_iff, decide_eq_true_eq, decide_eq_true_eq]; omega
  unfold loopB lenB
  rw [e1, e2]

/-- impl.ring.length. -/
theorem ringLen_any (A : Option Addr) (n c : Nat) (w : World) (hn : n ≤ 1048576) :
    Calls Try.prog 119 #[.slice A n c] w fun e w' => e = .returned (.int .i64 (n : Int)) ∧ w = w' := by
  go_enter Try.func119, Try.ntmps119
  go_wp2
  go_ret
  exact ⟨rfl, rfl⟩

set_option maxHeartbeats 1000000 in
/-- impl.ring.at. -/
theorem ringAt_any (A : Option Addr) (n c : Nat) (zs : List Int) (k : Int) (w : World) (hv : RdI w A n zs) (h1 : 1 ≤ n) (k0 : -1 ≤ k) (k1 : k ≤ 100000000) :
    Calls Try.prog 117 #[.slice A n c, .int .i64 k] w fun e w' => e = .returned (.int .i64 (ringI zs k)) ∧ ∃ m, w' = w.drewN m := by
  obtain ⟨hl, hn, h3⟩ := hv
  have hm := ring_mod k n (by omega)
  obtain ⟨i0, i1⟩ := ringI_idx k n (by omega)
  have t0 : -(n : Int) < Int.tmod k n := by have := Int.lt_tmod_of_pos k (show (0 : Int) < n by omega); omega
  have t1 : Int.tmod k n < n := Int.tmod_lt_of_pos k (by omega)
  rcases h3 with h0 | ⟨g, rfl, hg, h3⟩
  · omega
  have hR := Lib.hid (show ringI zs k = zs.getD (k % (n : Int)).toNat 0 by unfold ringI; rw [hl])
  obtain ⟨j, hj⟩ : ∃ j : Nat, k % (n : Int) = j := ⟨(k % (n : Int)).toNat, by omega⟩
  have c1 := h3 j (by omega)
  rw [hj] at hm hR i0 i1
  rw [Int.toNat_natCast] at hR
  have hjn : j < n := by omega
  generalize zs.getD j 0 = z at *
  generalize hT : Int.tmod k n = T at *
  have hm2 : (T + n) % (n : Int) = j := by rw [← hm, Int.tmod_eq_emod_of_nonneg (by omega)]
  have hn0 : ¬ (n : Int) = 0 := by omega
  have w1 : IntKind.i64.wrap (T + n) = T + n := IntWalk.i64_in _ (by omega)
  have w2 : IntKind.i64.wrap T = T := IntWalk.i64_in _ (by omega)
  clear h3 hl hj
  go_enter Try.func117, Try.ntmps117
  go_wp2
  go_quiet ((go_at_call 119; exact quietEq (ringLen_any _ _ _ _ (by omega))))
  go_wp2
  go_ret
  exact ⟨by rw [hR.out]; rfl, _, rfl⟩

end Go.Proofs.Ytibafngidpmgdab
