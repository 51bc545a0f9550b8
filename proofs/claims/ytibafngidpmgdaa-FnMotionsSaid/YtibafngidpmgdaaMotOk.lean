/- Motions and discs: what is one, in the program and in the model; ValidMotion's statement. -/
import Derived.Test.YtibafngidpmgdaaLeaf
import Derived.Test.YtibafngidpmgdaaName
import Derived.Test.YtibafngidpmgdaaMot
import Derived.Test.YtibafngidpmgdaaWithin
import Derived.Tactics
import Derived.Tactics2
import Derived.WalkKit
import Derived.LoopTactic
import Derived.BigQuiet
import Derived.Deep.QuietTactic
import Derived.Laws.RangeString
import Derived.Laws.RangeAny
import Derived.Outline
import Derived.Lib.Hide
import Derived.Below
import Derived.KernelRfl
namespace Go.Proofs.Ytibafngidpmgdaa
open Go.RowKit
set_option linter.unusedSimpArgs false
set_option linter.unusedVariables false

/-- spec.l06Ok. -/
theorem l06Ok_any (s : ByteArray) (w : World) (hs : s.size ≤ maxLen) :
    Calls Try.prog 134 #[.string s] w fun e w' => e = .returned (.bool (motB s)) ∧ w = w' := by
  unfold maxLen at hs
  have HG := Lib.hid (fun h => motB_mk (s := s) h)
  have HB := Lib.hid (fun k (h : k < s.size) => motB_bad (s := s) h)
  have HO := Lib.hid (motB_off (s := s))
  go_enter Try.func134, Try.ntmps134
  go_wp2
  go_loop [3] (fun i => ∃ k : Nat, k ≤ s.size ∧ i = .int .i64 k ∧ Hid (∀ j, j < k → smallB (letter s j) = true)) (fun i => s.size - (intOf i).toNat)
  case atStart => exact ⟨0, Nat.zero_le _, rfl, Lib.hid (fun j hj => absurd hj (Nat.not_lt_zero j))⟩
  case round =>
    obtain ⟨k, hk, rfl, HK⟩ := hrel
    by_cases hlt : k < s.size
    · have hl := letter_of hlt
      have HBk := Lib.hid (HB.out k hlt)
      by_cases c1 : ((s[k]'hlt).toNat : Int) < 97
      · have HC := Lib.hid (HBk.out (by rw [← hl]; simp [smallB]; omega))
        clear hl
        go_wp2
        go_ret
        exact ⟨ret_bool HC.out.symm, rfl⟩
      · by_cases c2 : 122 < ((s[k]'hlt).toNat : Int)
        · have HC := Lib.hid (HBk.out (by rw [← hl]; simp [smallB]; omega))
          clear hl
          go_wp2
          go_ret
          exact ⟨ret_bool HC.out.symm, rfl⟩
        · have HC := Lib.hid (show smallB (letter s k) = true by rw [← hl]; simp [smallB]; omega)
          clear hl
          go_wp2
          go_round
          case rel =>
            refine ⟨k + 1, by omega, by go_num, Lib.hid (fun j hj => ?_)⟩
            by_cases e : j = k
            · rw [e]; exact HC.out
            · exact HK.out j (by omega)
          case measure => simp [intOf]; omega
    · have HA := Lib.hid (fun j (hj : j < s.size) => HK.out j (by omega))
      go_wp2_with fail
      refine (l00In_any _ _ _ _).mono ?_
      rintro e u ⟨rfl, rfl⟩
      go_wp2_with fail
      go_ret
      refine ⟨ret_bool ?_, rfl⟩
      by_cases h1 : 1 ≤ s.size ∧ s.size ≤ 24
      · rw [HG.out h1 HA.out, inB_iff]
        omega
      · rw [HO.out h1, inB_not]
        omega

/-- impl.isPoseCount. -/
theorem isPoseCount_any (n : Int) (w : World) :
    Calls Try.prog 118 #[.int .i64 n] w fun e w' => e = .returned (.bool (inB n 1 24)) ∧ w = w' := by
  go_enter Try.func118, Try.ntmps118
  go_wp2_with (go_at_call 150; refine (isWithin_any _ _ _ _).mono ?_; rintro e u ⟨rfl, rfl⟩)
  go_ret
  exact ⟨rfl, rfl⟩

/-- spec.l06Many. -/
theorem l06Many_any (n : Int) (w : World) :
    Calls Try.prog 158 #[.int .i64 n] w fun e w' => e = .returned (.bool (inB n 1 24)) ∧ w = w' := by
  go_enter Try.func158, Try.ntmps158
  go_wp2_with fail
  refine (l00In_any _ _ _ _).mono ?_
  rintro e u ⟨rfl, rfl⟩
  go_wp2_with fail
  go_ret
  exact ⟨rfl, rfl⟩

/-- impl.arePoses. -/
theorem arePoses_any (s : ByteArray) (m : Nat) (w : World) (hs : s.size ≤ maxLen) :
    Calls Try.prog 117 #[.string s, .int .i64 (m : Int)] w fun e w' => e = .returned (.bool (posB s m)) ∧ Below w.heap.size w w' := by
  unfold maxLen at hs
  by_cases h0 : 1 ≤ s.size ∧ s.size ≤ m
  · have h1 : inB (s.size : Int) 1 m = true := inB_iff.2 (by omega)
    have HG := Lib.hid (posB_mk (s := s) (n := m) h0)
    have HB := Lib.hid (fun k (h : k < s.size) => posB_bad (s := s) (n := m) h)
    clear h0
    go_enter Try.func117, Try.ntmps117
    go_wp2_with (go_at_call 150; refine (isWithin_any _ _ _ _).mono ?_; rintro e u ⟨rfl, rfl⟩)
    go_loopw [4] (fun _ wr => ∃ pos : Nat, pos ≤ s.size ∧ wr = w.iter s pos ∧ Hid (∀ j, j < pos → smallB (letter s j) = true)) (fun _ wr => s.size - wr.iterPos w.heap.size)
    case atStart => exact ⟨0, Nat.zero_le _, rfl, Lib.hid (fun j hj => absurd hj (Nat.not_lt_zero j))⟩
    case round =>
      obtain ⟨pos, hpos, rfl, HK⟩ := hrel
      by_cases hp : pos < s.size
      · have hl := letter_of hp
        have HBk := Lib.hid (HB.out pos hp)
        by_cases ha : (s[pos]'hp).toNat < 128
        · have hnx : ∀ ty, (Instr.next (.pointer (some ⟨w.heap.size, 0, none⟩)) true ty).run Try.prog (w.iter s pos) = _ := fun ty => run_next_ascii w s pos ty hp ha
          cases c1 : inB ((s[pos]'hp).toNat : Int) 97 122
          · have HC := Lib.hid (HBk.out (by
              rw [inB_not] at c1
              rw [← hl]; simp [smallB]; omega))
            clear hl
            go_wp2_with (go_at_call 151; refine (isSmall_any _ _).mono ?_; rintro e u ⟨rfl, rfl⟩)
            go_ret
            exact ⟨ret_bool HC.out.symm, iterBelow _ _ _⟩
          · have HC := Lib.hid (show smallB (letter s pos) = true by
              rw [inB_iff] at c1
              rw [← hl]; simp [smallB]; omega)
            clear hl
            go_wp2_with (go_at_call 151; refine (isSmall_any _ _).mono ?_; rintro e u ⟨rfl, rfl⟩)
            go_roundw
            case rel =>
              refine ⟨pos + 1, by omega, rfl, Lib.hid (fun j hj => ?_)⟩
              by_cases e : j = pos
              · rw [e]; exact HC.out
              · exact HK.out j (by omega)
            case measure => simp; omega
        · have hd := decode_high s pos hp (by omega)
          have hnx : ∀ ty, (Instr.next (.pointer (some ⟨w.heap.size, 0, none⟩)) true ty).run Try.prog (w.iter s pos) = _ := fun ty => run_next_any w s pos ty hp
          have HC := Lib.hid (HBk.out (by rw [← hl]; simp [smallB]; omega))
          have c1 : inB ((Utf8.decode s pos).1 : Int) 97 122 = false := inB_not.2 (by omega)
          clear hl
          go_wp2_with (go_at_call 151; refine (isSmall_any _ _).mono ?_; rintro e u ⟨rfl, rfl⟩)
          go_ret
          exact ⟨ret_bool HC.out.symm, iterBelow _ _ _⟩
      · have hnx : ∀ ty, (Instr.next (.pointer (some ⟨w.heap.size, 0, none⟩)) true ty).run Try.prog (w.iter s pos) = _ := fun ty => run_next_end w s pos ty hp
        have HA := Lib.hid (HG.out (fun j hj => HK.out j (by omega)))
        go_wp2
        go_ret
        exact ⟨ret_bool HA.out.symm, iterBelow _ _ _⟩
  · rw [posB_off h0]
    have h1 : inB (s.size : Int) 1 m = false := inB_not.2 (by omega)
    clear h0
    go_enter Try.func117, Try.ntmps117
    go_wp2_with (go_at_call 150; refine (isWithin_any _ _ _ _).mono ?_; rintro e u ⟨rfl, rfl⟩)
    go_ret
    exact ⟨rfl, Below.refl _ _⟩

/-- The same of a motion. -/
theorem areMot_any (s : ByteArray) (w : World) (hs : s.size ≤ maxLen) :
    Calls Try.prog 117 #[.string s, .int .i64 24] w fun e w' => e = .returned (.bool (motB s)) ∧ Below w.heap.size w w' := by
  have h := arePoses_any s 24 w hs
  rw [posB_mot] at h
  exact h

/-- spec.ValidMotion. -/
theorem specMotion_any (s : ByteArray) (w : World) (hs : s.size ≤ maxLen) :
    Calls Try.prog 73 #[.string s] w fun e w' => e = .returned (.bool (motB s)) ∧ w = w' := by
  go_enter Try.func73, Try.ntmps73
  go_wp2_with fail
  refine (l06Ok_any s _ hs).mono ?_
  rintro e u ⟨rfl, rfl⟩
  go_wp2_with fail
  go_ret
  exact ⟨rfl, rfl⟩

/-- impl.ValidMotion. -/
theorem implMotion_any (s : ByteArray) (w : World) (hs : s.size ≤ maxLen) :
    Calls Try.prog 74 #[.string s] w fun e w' => e = .returned (.bool (motB s)) ∧ Below w.heap.size w w' := by
  go_enter Try.func74, Try.ntmps74
  go_wp2_with fail
  refine (areMot_any s _ hs).mono ?_
  rintro e u ⟨rfl, hb⟩
  go_wp2_with fail
  go_ret
  exact ⟨rfl, hb⟩

/-- laws.FnExactValidMotion. -/
theorem law_ValidMotion (s : ByteArray) (w : World) (hs : s.size ≤ maxLen) :
    Calls Try.prog 9 #[.string s] w fun e w' => e = .returned (.bool true) ∧ Below w.heap.size w w' := by
  have hm := hs
  unfold maxLen at hs
  by_cases hl : 1048576 < s.size
  · go_enter Try.func9, Try.ntmps9
    go_wp2
    go_ret
    exact ⟨rfl, Below.refl _ _⟩
  · go_enter Try.func9, Try.ntmps9
    go_wp2_with fail
    refine (specMotion_any s _ hm).mono ?_
    rintro e u ⟨rfl, rfl⟩
    go_wp2_with fail
    refine (implMotion_any s _ hm).mono ?_
    rintro e u ⟨rfl, hb⟩
    go_wp2_with fail
    go_ret
    exact ⟨rfl, hb⟩

end Go.Proofs.Ytibafngidpmgdaa
