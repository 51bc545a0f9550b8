/- The statements' own helpers: equal lists, long codes, absolute values. -/
import Derived.Test.YtibafngidpmgdaaProg
import Derived.Test.YtibafngidpmgdaaLeaf
import Derived.Test.YtibafngidpmgdaaLists
import Derived.Test.YtibafngidpmgdaaInts
import Derived.Deep.AppendLies
import Derived.Deep.DrawnRows
import Derived.IntWalk
import Derived.WalkSpells
import Derived.OwnWalk
import Derived.Laws.AppendOwn
import Derived.Laws.OwnMore
import Derived.Deep.RegionWith
import Derived.Deep.DrawnRows
import Derived.Deep.RegionHeld3
import Derived.Tactics
import Derived.Tactics2
import Derived.WalkKit
import Derived.LoopTactic
import Derived.BigQuiet
import Derived.RegionTactic
import Derived.Deep.QuietTactic
import Derived.Outline
import Derived.Lib.Hide
import Derived.Below
import Derived.KernelRfl
namespace Go.Proofs.Ytibafngidpmgdaa
set_option linter.unusedSimpArgs false
set_option linter.unusedVariables false
open Go.RowKit

set_option maxHeartbeats 1000000 in
set_option maxRecDepth 100000 in
/-- laws.f6ints, of two with one content. -/
theorem f6ints_rd (A A' : Option Addr) (n c c' : Nat) (zs : List Int) (w : World) (hv : RdI w A n zs) (hu : RdI w A' n zs) :
    Calls Try.prog 58 #[.slice A n c, .slice A' n c'] w fun e w' => e = .returned (.bool true) ∧ ∃ m, w' = w.drewN m := by
  have hn := hv.2.1
  have HV := Lib.hid hv.2.2
  have HU := Lib.hid hu.2.2
  clear hv hu
  go_enter Try.func58, Try.ntmps58
  go_wp2
  go_loopw [5] (fun i wr => ∃ k : Nat, k ≤ n ∧ i = .int .i64 k ∧ ∃ m, Hid (wr = w.drewN m)) (fun i _ => n - (intOf i).toNat)
  case atStart => exact ⟨0, Nat.zero_le _, rfl, 0, Lib.hid rfl⟩
  case round =>
    obtain ⟨k, hk, rfl, m, HW⟩ := hrel
    by_cases hlt : k < n
    · rcases HV.out with h0 | ⟨g, rfl, hg, h3⟩
      · omega
      rcases HU.out with h0 | ⟨d, rfl, hd, h4⟩
      · omega
      have c1 : wr.cell? ⟨g, k, none⟩ = some (.int .i64 (zs.getD k 0)) := by rw [HW.out]; exact h3 k hlt
      have c2 : wr.cell? ⟨d, k, none⟩ = some (.int .i64 (zs.getD k 0)) := by rw [HW.out]; exact h4 k hlt
      clear h3 h4
      generalize zs.getD k 0 = z at *
      go_wp2
      go_quiet (fail)
      go_wp2
      go_roundw
      case rel => exact ⟨k + 1, by omega, by go_num, _, Lib.hid (by rw [HW.out, World.drewN_drewN])⟩
      case measure => simp [intOf]; omega
    · have : k = n := by omega
      subst this
      go_wp2
      go_ret
      exact ⟨rfl, m, HW.out⟩

/-- laws.f6big. -/
theorem f6bigI_any (a : Option Addr) (len cap : Nat) (w : World) :
    Calls Try.prog 33 #[.slice a len cap] w fun e w' => e = .returned (.bool (decide (4096 < (len : Int)))) ∧ w = w' := by
  by_cases h : 4096 < (len : Int)
  · rw [decide_eq_true h]
    go_enter Try.func33, Try.ntmps33
    go_wp2
    go_ret
    exact ⟨rfl, rfl⟩
  · rw [decide_eq_false h]
    go_enter Try.func33, Try.ntmps33
    go_wp2
    go_ret
    exact ⟨rfl, rfl⟩

end Go.Proofs.Ytibafngidpmgdaa
