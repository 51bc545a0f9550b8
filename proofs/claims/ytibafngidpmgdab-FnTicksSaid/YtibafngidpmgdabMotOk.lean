/- Motions and discs: what is one, in the program and in the model; ValidMotion's statement. -/
import Derived.Test.YtibafngidpmgdabLeaf
import Derived.Test.YtibafngidpmgdabName
import Derived.Test.YtibafngidpmgdabMot
import Derived.Test.YtibafngidpmgdabWithin
import Derived.Tactics
import Derived.Tactics2
import Derived.WalkKit
import Derived.LoopTactic
import Derived.BigQuiet
import Derived.Deep.QuietTactic
import Derived.Laws.RangeString
import Derived.Laws.RangeAny
import Derived.Outline
import Derived.Lib.Hide
import Derived.Below
import Derived.KernelRfl
namespace Go.Proofs.Ytibafngidpmgdab
open Go.RowKit
set_option linter.unusedSimpArgs false
set_option linter.unusedVariables false

/-- impl.arePoses. -/
theorem arePoses_any (s : ByteArray) (m : Nat) (w : World) (hs : s.size ≤ maxLen) :
    Calls Try.prog 92 #[.string s, .int .i64 (m : Int)] w fun e w' => e = .returned (.bool (posB s m)) ∧ Below w.heap.size w w' := by
  unfold maxLen at hs
  by_cases h0 : 1 ≤ s.size ∧ s.size ≤ m
  · have h1 : inB (s.size : Int) 1 m = true := inB_iff.2 (by omega)
    have HG := Lib.hid (posB_mk (s := s) (n := m) h0)
    have HB := Lib.hid (fun k (h : k < s.size) => posB_bad (s := s) (n := m) h)
    clear h0
    go_enter Try.func92, Try.ntmps92
    go_wp2_with (go_at_call 58; refine (isWithin_any _ _ _ _).mono ?_; rintro e u ⟨rfl, rfl⟩)
    go_loopw [4] (fun _ wr => ∃ pos : Nat, pos ≤ s.size ∧ wr = w.iter s pos ∧ Hid (∀ j, j < pos → smallB (letter s j) = true)) (fun _ wr => s.size - wr.iterPos w.heap.size)
    case atStart => exact ⟨0, Nat.zero_le _, rfl, Lib.hid (fun j hj => absurd hj (Nat.not_lt_zero j))⟩
    case round =>
      obtain ⟨pos, hpos, rfl, HK⟩ := hrel
      by_cases hp : pos < s.size
      · have hl := letter_of hp
        have HBk := Lib.hid (HB.out pos hp)
        by_cases ha : (s[pos]'hp).toNat < 128
        · have hnx : ∀ ty, (Instr.next (.pointer (some ⟨w.heap.size, 0, none⟩)) true ty).run Try.prog (w.iter s pos) = _ := fun ty => run_next_ascii w s pos ty hp ha
          cases c1 : inB ((s[pos]'hp).toNat : Int) 97 122
          · have HC := Lib.hid (HBk.out (by
              rw [inB_not] at c1
              rw [← hl]; simp [smallB]; omega))
            clear hl
            go_wp2_with (go_at_call 109; refine (isSmall_any _ _).mono ?_; rintro e u ⟨rfl, rfl⟩)
            go_ret
            exact ⟨ret_bool HC.out.symm, iterBelow _ _ _⟩
          · have HC := Lib.hid (show smallB (letter s pos) = true by
              rw [inB_iff] at c1
              rw [← hl]; simp [smallB]; omega)
            clear hl
            go_wp2_with (go_at_call 109; refine (isSmall_any _ _).mono ?_; rintro e u ⟨rfl, rfl⟩)
            go_roundw
            case rel =>
              refine ⟨pos + 1, by omega, rfl, Lib.hid (fun j hj => ?_)⟩
              by_cases e : j = pos
              · rw [e]; exact HC.out
              · exact HK.out j (by omega)
            case measure => simp; omega
        · have hd := decode_high s pos hp (by omega)
          have hnx : ∀ ty, (Instr.next (.pointer (some ⟨w.heap.size, 0, none⟩)) true ty).run Try.prog (w.iter s pos) = _ := fun ty => run_next_any w s pos ty hp
          have HC := Lib.hid (HBk.out (by rw [← hl]; simp [smallB]; omega))
          have c1 : inB ((Utf8.decode s pos).1 : Int) 97 122 = false := inB_not.2 (by omega)
          clear hl
          go_wp2_with (go_at_call 109; refine (isSmall_any _ _).mono ?_; rintro e u ⟨rfl, rfl⟩)
          go_ret
          exact ⟨ret_bool HC.out.symm, iterBelow _ _ _⟩
      · have hnx : ∀ ty, (Instr.next (.pointer (some ⟨w.heap.size, 0, none⟩)) true ty).run Try.prog (w.iter s pos) = _ := fun ty => run_next_end w s pos ty hp
        have HA := Lib.hid (HG.out (fun j hj => HK.out j (by omega)))
        go_wp2
        go_ret
        exact ⟨ret_bool HA.out.symm, iterBelow _ _ _⟩
  · rw [posB_off h0]
    have h1 : inB (s.size : Int) 1 m = false := inB_not.2 (by omega)
    clear h0
    go_enter Try.func92, Try.ntmps92
    go_wp2_with (go_at_call 58; refine (isWithin_any _ _ _ _).mono ?_; rintro e u ⟨rfl, rfl⟩)
    go_ret
    exact ⟨rfl, Below.refl _ _⟩

/-- The same of a motion. -/
theorem areMot_any (s : ByteArray) (w : World) (hs : s.size ≤ maxLen) :
    Calls Try.prog 92 #[.string s, .int .i64 24] w fun e w' => e = .returned (.bool (motB s)) ∧ Below w.heap.size w w' := by
  have h := arePoses_any s 24 w hs
  rw [posB_mot] at h
  exact h

end Go.Proofs.Ytibafngidpmgdab
