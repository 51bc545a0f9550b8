/- What the statements take of the bytes that they are handed: too many, a number. -/
import Derived.Test.YtibafngidpmgdabSrc
import Derived.Tactics
import Derived.Tactics2
import Derived.WalkKit
import Derived.LoopTactic
import Derived.Outline
import Derived.Lib.Hide
import Derived.Below
import Derived.KernelRfl
namespace Go.Proofs.Ytibafngidpmgdab
open Go.RowKit
set_option linter.unusedSimpArgs false
set_option linter.unusedVariables false

/-- laws.a2Long. -/
theorem a2Long_any (a b : Option Addr) (l c m k : Nat) (w : World) :
    Calls Try.prog 15 #[.slice a l c, .slice b m k] w fun e w' => e = .returned (.bool (decide (3000 < (l : Int)) || decide (3000 < (m : Int)))) ∧ w = w' := by
  go_enter Try.func15, Try.ntmps15
  go_wp2
  all_goals
    go_ret
    refine ⟨ret_bool ?_, rfl⟩
    simp [*]

/-- laws.a2At: a number from 0 to n - 1. -/
theorem a2At_any (a : Option Addr) (len cap : Nat) (zs : List Int) (at' n : Int) (w : World) (hr : Row w a len cap zs) (h0 : 0 ≤ at') (h1 : at' ≤ 1000) (hn : 1 ≤ n) (hn2 : n ≤ 1000000) (hl : len ≤ 3000) :
    Calls Try.prog 23 #[.slice a len cap, .int .i64 at', .int .i64 n] w fun e w' => ∃ v, 0 ≤ v ∧ v < n ∧ e = .returned (.int .i64 v) ∧ Below w.heap.size w w' := by
  obtain ⟨k, rfl⟩ := Int.eq_ofNat_of_zero_le h0
  by_cases hk : k < len
  · rcases hr with ⟨h0, _⟩ | ⟨xb, off, rfl, h1, h2, h3, h4, h5, h6⟩
    · omega
    · have hc := h5 k (by omega)
      have hz := h6 k
      generalize zs.getD k 0 = z at *
      have hm := Int.emod_nonneg z (show n ≠ 0 by omega)
      have hm2 := Int.emod_lt_of_pos z (show 0 < n by omega)
      have hle : k + 1 ≤ len := hk
      clear h5 h6
      go_enter Try.func23, Try.ntmps23
      go_wp2
      go_ret
      exact ⟨z % n, hm, hm2, rfl, Below.refl _ _⟩
  · go_enter Try.func23, Try.ntmps23
    go_wp2
    go_ret
    exact ⟨0, by omega, by omega, rfl, Below.refl _ _⟩
end Go.Proofs.Ytibafngidpmgdab
