/- The least common multiple: the program. -/
import Derived.Test.YtfbdeeobmjndlaaProg





import Derived.Deep.AppendLies
import Derived.Deep.DrawnRows
import Derived.Test.YtfbdeeobmjndlaaLeaf
import Derived.IntWalk
import Derived.WalkSpells
import Derived.OwnWalk
import Derived.Laws.AppendOwn
import Derived.Laws.OwnMore
import Derived.Deep.RegionWith
import Derived.Deep.DrawnRows
import Derived.Deep.RegionHeld3
import Derived.Tactics
import Derived.Tactics2
import Derived.WalkKit
import Derived.LoopTactic
import Derived.BigQuiet
import Derived.RegionTactic
import Derived.Deep.QuietTactic
import Derived.Outline
import Derived.Lib.Hide
import Derived.Below
import Derived.KernelRfl
namespace Go.Proofs.Ytfbdeeobmjndlaa
set_option linter.unusedSimpArgs false
set_option linter.unusedVariables false
open Go.RowKit

theorem lcm_bd {a b : Nat} {m : Nat} (ha : 1 ≤ a) (ha2 : a ≤ m) (hb : 1 ≤ b) (hb2 : b ≤ m) : a / Nat.gcd a b ≤ a ∧ a / Nat.gcd a b * b ≤ m * m ∧ 1 ≤ Nat.gcd a b ∧ Nat.gcd a b ≤ b :=
  ⟨Nat.div_le_self _ _, Nat.mul_le_mul (Nat.le_trans (Nat.div_le_self _ _) ha2) hb2, Nat.gcd_pos_of_pos_right a (by omega), Nat.gcd_le_right a (by omega)⟩

/-- impl.leastMultiple. -/
theorem leastMultiple_any (a b : Nat) (w : World) (h1 : 1 ≤ a) (h2 : a ≤ 1000000) (h3 : 1 ≤ b) (h4 : b ≤ 1000000) :
    Calls Try.prog 125 #[.int .i64 a, .int .i64 b] w fun e w' => e = .returned (.int .i64 ((a / Nat.gcd a b * b : Nat) : Int)) ∧ ∃ n, w' = w.drewN n := by
  obtain ⟨q1, q2, g1, g2⟩ := lcm_bd h1 h2 h3 h4
  have G := Lib.hid (greatestDivisor_any a b w (by omega) (by omega))
  have hq := Lib.hid (show ((a / Nat.gcd a b : Nat) : Int) = (a : Int) / (Nat.gcd a b : Nat) from Int.natCast_ediv _ _)
  have hd : (a : Int) / (Nat.gcd a b : Nat) = ((a / Nat.gcd a b : Nat) : Int) := hq.out.symm
  generalize a / Nat.gcd a b = q at *
  generalize Nat.gcd a b = g at *
  have hqb := Lib.hid (show ((q * b : Nat) : Int) = (q : Int) * (b : Int) from Int.natCast_mul _ _)
  have hg0 : ¬ g = 0 := by omega
  have hw1 : IntKind.i64.wrap (q : Int) = q := IntWalk.i64_in _ (by omega)
  have hm : (q : Int) * (b : Int) ≤ 1000000000000 ∧ 0 ≤ (q : Int) * (b : Int) := by rw [← hqb.out]; omega
  have hw2 : IntKind.i64.wrap ((q : Int) * (b : Int)) = (q : Int) * (b : Int) := IntWalk.i64_in _ (by omega)
  clear hq
  rw [hqb.out]
  go_enter Try.func125, Try.ntmps125
  go_wp2_with fail
  refine G.out.mono ?_
  rintro e u ⟨rfl, m, rfl⟩
  go_wp2
  go_ret
  exact ⟨rfl, m, rfl⟩

end Go.Proofs.Ytfbdeeobmjndlaa
