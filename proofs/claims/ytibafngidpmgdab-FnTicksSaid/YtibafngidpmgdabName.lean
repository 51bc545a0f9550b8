/- Names: in the program, which ranges over runes, and in the model, which looks at bytes; and the statement's walk. -/
import Derived.Test.YtibafngidpmgdabLeaf
import Derived.Tactics
import Derived.Tactics2
import Derived.WalkKit
import Derived.LoopTactic
import Derived.BigQuiet
import Derived.Deep.QuietTactic
import Derived.Laws.RangeString
import Derived.Laws.RangeAny
import Derived.Outline
import Derived.Lib.Hide
import Derived.Below
import Derived.KernelRfl
namespace Go.Proofs.Ytibafngidpmgdab
open Go.RowKit
set_option linter.unusedSimpArgs false
set_option linter.unusedVariables false

theorem isSmall_any (n : Int) (w : World) :
    Calls Try.prog 109 #[.int .i32 n] w fun e w' => e = .returned (.bool (inB n 97 122)) ∧ w = w' := by
  by_cases h1 : 97 ≤ n
  · by_cases h2 : n ≤ 122
    all_goals
      go_enter Try.func109, Try.ntmps109
      go_wp2
      go_ret
      exact ⟨ret_bool (by simp [inB]; omega), rfl⟩
  · go_enter Try.func109, Try.ntmps109
    go_wp2
    go_ret
    exact ⟨ret_bool (by simp [inB]; omega), rfl⟩

/-- A byte of a name. -/
def okByte (n : Int) : Bool := inB n 97 122 || inB n 48 57 || n == 45
/-- The byte at a place, -1 where there is none. -/
def byteAt (s : ByteArray) (k : Nat) : Int := if h : k < s.size then ((s[k]'h).toNat : Int) else -1
/-- A name. -/
def nameB (s : ByteArray) : Bool := decide (1 ≤ s.size ∧ s.size ≤ 12) && inB (byteAt s 0) 97 122 && decide (∀ k, k < s.size → okByte (byteAt s k) = true)

theorem byteAt_of {s : ByteArray} {k : Nat} (h : k < s.size) : byteAt s k = ((s[k]'h).toNat : Int) := dif_pos h
theorem name_bad {s : ByteArray} {k : Nat} (h : k < s.size) (hb : okByte (byteAt s k) = false) : nameB s = false := by
  have : decide (∀ k, k < s.size → okByte (byteAt s k) = true) = false := by
    simp only [decide_eq_false_iff_not]
    intro f
    rw [f k h] at hb
    cases hb
  simp [nameB, this]
theorem name_first {s : ByteArray} (hb : inB (byteAt s 0) 97 122 = false) : nameB s = false := by simp [nameB, hb]
theorem name_size {s : ByteArray} (h : ¬ (1 ≤ s.size ∧ s.size ≤ 12)) : nameB s = false := by simp [nameB, h]
theorem name_good {s : ByteArray} (h : 1 ≤ s.size ∧ s.size ≤ 12) (h1 : inB (byteAt s 0) 97 122 = true) (h2 : ∀ k, k < s.size → okByte (byteAt s k) = true) : nameB s = true := by
  simp only [nameB, h, h1, and_self, decide_true, Bool.true_and, decide_eq_true_eq]
  exact h2

theorem iterBelow (w : World) (s : ByteArray) (pos : Nat) : Below w.heap.size w (w.iter s pos) := (Below.refl _ _).alloc (Nat.le_refl _) _

theorem width_pos (s : ByteArray) (pos : Nat) (h : pos < s.size) : 1 ≤ (Utf8.decode s pos).2 := by
  by_cases ha : (s[pos]'h).toNat < 128
  · rw [decode_ascii s pos h ha]
    exact Nat.le_refl _
  · exact (decode_high s pos h (by omega)).2

end Go.Proofs.Ytibafngidpmgdab
