/- The statements' own helpers for lists of numbers: equal lists, sums, absolute values. -/
import Derived.Test.YtfbdeeobmjndlaaProg
import Derived.Test.YtfbdeeobmjndlaaLoopMath
import Derived.Test.YtfbdeeobmjndlaaInts
import Derived.Test.YtfbdeeobmjndlaaLoop
import Derived.Test.YtfbdeeobmjndlaaLoop2
import Derived.Test.YtfbdeeobmjndlaaLoop3
import Derived.Deep.AppendLies
import Derived.Deep.DrawnRows
import Derived.Test.YtfbdeeobmjndlaaHold
import Derived.IntWalk
import Derived.WalkSpells
import Derived.OwnWalk
import Derived.Laws.AppendOwn
import Derived.Laws.OwnMore
import Derived.Deep.RegionWith
import Derived.Deep.DrawnRows
import Derived.Deep.RegionHeld3
import Derived.Tactics
import Derived.Tactics2
import Derived.WalkKit
import Derived.LoopTactic
import Derived.BigQuiet
import Derived.RegionTactic
import Derived.Deep.QuietTactic
import Derived.Outline
import Derived.Lib.Hide
import Derived.Below
import Derived.KernelRfl
namespace Go.Proofs.Ytfbdeeobmjndlaa
set_option linter.unusedSimpArgs false
set_option linter.unusedVariables false
open Go.RowKit

set_option maxHeartbeats 1000000 in
set_option maxRecDepth 100000 in
/-- laws.f6ints, of two with one content. -/
theorem f6ints_rd (A A' : Option Addr) (n c c' : Nat) (zs : List Int) (w : World) (hv : RdI w A n zs) (hu : RdI w A' n zs) :
    Calls Try.prog 52 #[.slice A n c, .slice A' n c'] w fun e w' => e = .returned (.bool true) ∧ ∃ m, w' = w.drewN m := by
  have hn := hv.2.1
  have HV := Lib.hid hv.2.2
  have HU := Lib.hid hu.2.2
  clear hv hu
  go_enter Try.func52, Try.ntmps52
  go_wp2
  go_loopw [5] (fun i wr => ∃ k : Nat, k ≤ n ∧ i = .int .i64 k ∧ ∃ m, Hid (wr = w.drewN m)) (fun i _ => n - (intOf i).toNat)
  case atStart => exact ⟨0, Nat.zero_le _, rfl, 0, Lib.hid rfl⟩
  case round =>
    obtain ⟨k, hk, rfl, m, HW⟩ := hrel
    by_cases hlt : k < n
    · rcases HV.out with h0 | ⟨g, rfl, hg, h3⟩
      · omega
      rcases HU.out with h0 | ⟨d, rfl, hd, h4⟩
      · omega
      have c1 : wr.cell? ⟨g, k, none⟩ = some (.int .i64 (zs.getD k 0)) := by rw [HW.out]; exact h3 k hlt
      have c2 : wr.cell? ⟨d, k, none⟩ = some (.int .i64 (zs.getD k 0)) := by rw [HW.out]; exact h4 k hlt
      clear h3 h4
      generalize zs.getD k 0 = z at *
      go_wp2
      go_quiet (fail)
      go_wp2
      go_roundw
      case rel => exact ⟨k + 1, by omega, by go_num, _, Lib.hid (by rw [HW.out, World.drewN_drewN])⟩
      case measure => simp [intOf]; omega
    · have : k = n := by omega
      subst this
      go_wp2
      go_ret
      exact ⟨rfl, m, HW.out⟩

/-- laws.f6big. -/
theorem f6bigI_any (a : Option Addr) (len cap : Nat) (w : World) :
    Calls Try.prog 48 #[.slice a len cap] w fun e w' => e = .returned (.bool (decide (4096 < (len : Int)))) ∧ w = w' := by
  by_cases h : 4096 < (len : Int)
  · rw [decide_eq_true h]
    go_enter Try.func48, Try.ntmps48
    go_wp2
    go_ret
    exact ⟨rfl, rfl⟩
  · rw [decide_eq_false h]
    go_enter Try.func48, Try.ntmps48
    go_wp2
    go_ret
    exact ⟨rfl, rfl⟩

/-- laws.f6abs. -/
theorem f6abs_any (a : Int) (w : World) (h1 : -9223372036854775807 ≤ a) (h2 : a ≤ 9223372036854775807) :
    Calls Try.prog 53 #[.int .i64 a] w fun e w' => e = .returned (.int .i64 (a.natAbs : Nat)) ∧ w = w' := by
  by_cases h : a < 0
  · go_enter Try.func53, Try.ntmps53
    go_wp2
    go_ret
    exact ⟨ret_int (by omega), rfl⟩
  · go_enter Try.func53, Try.ntmps53
    go_wp2
    go_ret
    exact ⟨ret_int (by omega), rfl⟩

/-- The sum of numbers. -/
def totI (zs : List Int) : Int := sumI (fun i => zs.getD i 0) zs.length
theorem sumI_size {f : Nat → Int} {m : Int} (h : ∀ i, -m ≤ f i ∧ f i ≤ m) : ∀ k : Nat, -(k * m) ≤ sumI f k ∧ sumI f k ≤ k * m
  | 0 => by simp [sumI]
  | k + 1 => by
    have ih := sumI_size h k
    have := h k
    have e : ((k + 1 : Nat) : Int) * m = k * m + m := by rw [Int.natCast_add, Int.add_mul]; simp
    rw [sumI, e]
    omega

set_option maxHeartbeats 1000000 in
/-- laws.f6sum. -/
theorem f6sum_any (A : Option Addr) (n c : Nat) (zs : List Int) (w : World) (hv : RdI w A n zs) (hn : n ≤ 1000) (hb : ∀ j, -1000000 ≤ zs.getD j 0 ∧ zs.getD j 0 ≤ 1000000) :
    Calls Try.prog 54 #[.slice A n c] w fun e w' => e = .returned (.int .i64 (totI zs)) ∧ w = w' := by
  have HT := Lib.hid (show totI zs = sumI (fun i => zs.getD i 0) n by unfold totI; rw [hv.1])
  have HB := Lib.hid (fun k => sumI_size (f := fun i => zs.getD i 0) (m := 1000000) hb k)
  have HN := Lib.hid (fun k : Nat => show sumI (fun i => zs.getD i 0) (k + 1) = sumI (fun i => zs.getD i 0) k + zs.getD k 0 from rfl)
  have HG := Lib.hid hb
  have HV := Lib.hid hv.2.2
  clear hv hb
  rw [HT.out]
  clear HT
  go_enter Try.func54, Try.ntmps54
  go_wp2
  go_loop [4, 3] (fun i s => ∃ k : Nat, k ≤ n ∧ i = .int .i64 k ∧ s = .int .i64 (sumI (fun i => zs.getD i 0) k)) (fun i _ => n - (intOf i).toNat)
  case atStart => exact ⟨0, Nat.zero_le _, rfl, rfl⟩
  case round =>
    obtain ⟨k, hk, rfl, rfl⟩ := hrel
    by_cases hlt : k < n
    · rcases HV.out with h0 | ⟨g, rfl, hg, h3⟩
      · omega
      have c1 := h3 k hlt
      have b1 := HB.out k
      have b2 := HG.out k
      have HN1 := Lib.hid (HN.out k)
      have hkm : (k : Int) * 1000000 ≤ 1000000000 := by omega
      have ws : IntKind.i64.wrap (sumI (fun i => zs.getD i 0) k + zs.getD k 0) = sumI (fun i => zs.getD i 0) k + zs.getD k 0 := IntWalk.i64_in _ (by omega)
      clear h3
      generalize sumI (fun i => zs.getD i 0) k = s at *
      generalize zs.getD k 0 = z at *
      go_wp2
      go_round
      case rel => exact ⟨k + 1, by omega, by go_num, by rw [HN1.out]⟩
      case measure => simp [intOf]; omega
    · have : k = n := by omega
      subst this
      go_wp2
      go_ret
      exact ⟨rfl, rfl⟩

/-- The steps of a loop add up to nothing. -/
theorem steps_sum (zs : List Int) : ∀ k : Nat, sumI (fun i => stepI zs i) k = ringI zs k - ringI zs 0
  | 0 => by simp [sumI]
  | k + 1 => by
    rw [sumI, steps_sum zs k]
    unfold stepI
    rw [show ((k + 1 : Nat) : Int) = (k : Int) + 1 by omega]
    omega
theorem steps_tot {zs : List Int} (h : 1 ≤ zs.length) : totI (stepsL zs) = 0 := by
  have e : totI (stepsL zs) = sumI (fun i => stepI zs i) zs.length := by
    unfold totI
    rw [stepsL_length]
    exact sumI_congr fun i hi => genL_get _ _ _ hi
  have h0 : ringI zs 0 = zs.getD 0 0 := ringI_lt zs 0 (by omega)
  rw [e, steps_sum, ringI_nat, Nat.mod_self, h0]
  omega
theorem stepsL_bd2 {zs : List Int} (h : loopB zs = true) (j : Nat) : -1000000 ≤ (stepsL zs).getD j 0 ∧ (stepsL zs).getD j 0 ≤ 1000000 := by
  by_cases hj : j < zs.length
  · have := stepI_bd h j
    unfold stepsL
    rw [genL_get _ _ _ hj]
    omega
  · rw [List.getD_eq_getElem?_getD, List.getElem?_eq_none (by rw [stepsL_length]; omega)]
    decide

end Go.Proofs.Ytfbdeeobmjndlaa
