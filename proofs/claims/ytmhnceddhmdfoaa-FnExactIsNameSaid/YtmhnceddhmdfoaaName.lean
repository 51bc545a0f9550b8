/- Names: in the program, which ranges over runes, and in the model, which looks at bytes; and the statement's walk. -/
import Derived.Test.YtmhnceddhmdfoaaLeaf
import Derived.Tactics
import Derived.Tactics2
import Derived.WalkKit
import Derived.LoopTactic
import Derived.BigQuiet
import Derived.Deep.QuietTactic
import Derived.Laws.RangeString
import Derived.Laws.RangeAny
import Derived.Outline
import Derived.Lib.Hide
import Derived.Below
import Derived.KernelRfl
namespace Go.Proofs.Ytmhnceddhmdfoaa
open Go.RowKit
set_option linter.unusedSimpArgs false
set_option linter.unusedVariables false

theorem small_any (n : Int) (w : World) :
    Calls Try.prog 57 #[.int .u8 n] w fun e w' => e = .returned (.bool (inB n 97 122)) ∧ w = w' := by
  by_cases h1 : 97 ≤ n
  · by_cases h2 : n ≤ 122
    all_goals
      go_enter Try.func57, Try.ntmps57
      go_wp2
      go_ret
      exact ⟨ret_bool (by simp [inB]; omega), rfl⟩
  · go_enter Try.func57, Try.ntmps57
    go_wp2
    go_ret
    exact ⟨ret_bool (by simp [inB]; omega), rfl⟩

theorem digit_any (n : Int) (w : World) :
    Calls Try.prog 58 #[.int .u8 n] w fun e w' => e = .returned (.bool (inB n 48 57)) ∧ w = w' := by
  by_cases h1 : 48 ≤ n
  · by_cases h2 : n ≤ 57
    all_goals
      go_enter Try.func58, Try.ntmps58
      go_wp2
      go_ret
      exact ⟨ret_bool (by simp [inB]; omega), rfl⟩
  · go_enter Try.func58, Try.ntmps58
    go_wp2
    go_ret
    exact ⟨ret_bool (by simp [inB]; omega), rfl⟩

theorem isSmall_any (n : Int) (w : World) :
    Calls Try.prog 59 #[.int .i32 n] w fun e w' => e = .returned (.bool (inB n 97 122)) ∧ w = w' := by
  by_cases h1 : 97 ≤ n
  · by_cases h2 : n ≤ 122
    all_goals
      go_enter Try.func59, Try.ntmps59
      go_wp2
      go_ret
      exact ⟨ret_bool (by simp [inB]; omega), rfl⟩
  · go_enter Try.func59, Try.ntmps59
    go_wp2
    go_ret
    exact ⟨ret_bool (by simp [inB]; omega), rfl⟩

theorem isDigit_any (n : Int) (w : World) :
    Calls Try.prog 60 #[.int .i32 n] w fun e w' => e = .returned (.bool (inB n 48 57)) ∧ w = w' := by
  by_cases h1 : 48 ≤ n
  · by_cases h2 : n ≤ 57
    all_goals
      go_enter Try.func60, Try.ntmps60
      go_wp2
      go_ret
      exact ⟨ret_bool (by simp [inB]; omega), rfl⟩
  · go_enter Try.func60, Try.ntmps60
    go_wp2
    go_ret
    exact ⟨ret_bool (by simp [inB]; omega), rfl⟩

/-- A byte of a name. -/
def okByte (n : Int) : Bool := inB n 97 122 || inB n 48 57 || n == 45
/-- The byte at a place, -1 where there is none. -/
def byteAt (s : ByteArray) (k : Nat) : Int := if h : k < s.size then ((s[k]'h).toNat : Int) else -1
/-- A name. -/
def nameB (s : ByteArray) : Bool := decide (1 ≤ s.size ∧ s.size ≤ 12) && inB (byteAt s 0) 97 122 && decide (∀ k, k < s.size → okByte (byteAt s k) = true)

theorem byteAt_of {s : ByteArray} {k : Nat} (h : k < s.size) : byteAt s k = ((s[k]'h).toNat : Int) := dif_pos h
theorem name_bad {s : ByteArray} {k : Nat} (h : k < s.size) (hb : okByte (byteAt s k) = false) : nameB s = false := by
  have : decide (∀ k, k < s.size → okByte (byteAt s k) = true) = false := by
    simp only [decide_eq_false_iff_not]
    intro f
    rw [f k h] at hb
    cases hb
  simp [nameB, this]
theorem name_first {s : ByteArray} (hb : inB (byteAt s 0) 97 122 = false) : nameB s = false := by simp [nameB, hb]
theorem name_size {s : ByteArray} (h : ¬ (1 ≤ s.size ∧ s.size ≤ 12)) : nameB s = false := by simp [nameB, h]
theorem name_good {s : ByteArray} (h : 1 ≤ s.size ∧ s.size ≤ 12) (h1 : inB (byteAt s 0) 97 122 = true) (h2 : ∀ k, k < s.size → okByte (byteAt s k) = true) : nameB s = true := by
  simp only [nameB, h, h1, and_self, decide_true, Bool.true_and, decide_eq_true_eq]
  exact h2

/-- spec.IsName. -/
theorem specName_any (s : ByteArray) (w : World) (hs : s.size ≤ maxLen) :
    Calls Try.prog 23 #[.string s] w fun e w' => e = .returned (.bool (nameB s)) ∧ w = w' := by
  unfold maxLen at hs
  by_cases h0 : s.size = 0
  · have h1 : s.toList = [] := by rw [ByteArray.toList_eq]; exact List.eq_nil_of_length_eq_zero (by simpa using h0)
    have hn := name_size (s := s) (by omega)
    rw [hn]
    clear hn
    have H := Lib.hid h0
    clear h0
    go_enter Try.func23, Try.ntmps23
    go_wp2
    go_ret
    exact ⟨rfl, rfl⟩
  · have hE : s.toList.isEmpty = false := by
      rw [ByteArray.toList_eq]
      cases h : s.data.toList with
      | nil => exact absurd (by simpa using congrArg List.length h) h0
      | cons => rfl
    by_cases h2 : s.size ≤ 12
    · have hz : 0 < s.size := by omega
      have hb0 := byteAt_of hz
      cases h3 : inB (byteAt s 0) 97 122
      · rw [name_first h3]
        rw [hb0] at h3
        clear hb0
        go_enter Try.func23, Try.ntmps23
        go_wp2_with (go_at_call 57; refine (small_any _ _).mono ?_; rintro e u ⟨rfl, rfl⟩)
        go_ret
        exact ⟨rfl, rfl⟩
      · have HG := Lib.hid (name_good (s := s) (by omega) h3)
        have HB := Lib.hid (fun k (h : k < s.size) => name_bad (s := s) h)
        rw [hb0] at h3
        clear hb0
        go_enter Try.func23, Try.ntmps23
        go_wp2_with (go_at_call 57; refine (small_any _ _).mono ?_; rintro e u ⟨rfl, rfl⟩)
        go_loop [3] (fun i => ∃ k : Nat, k ≤ s.size ∧ i = .int .i64 k ∧ Hid (∀ j, j < k → okByte (byteAt s j) = true)) (fun i => s.size - (intOf i).toNat)
        case atStart => exact ⟨0, Nat.zero_le _, rfl, Lib.hid (fun j hj => absurd hj (Nat.not_lt_zero j))⟩
        case round =>
          obtain ⟨k, hk, rfl, HK⟩ := hrel
          clear h3
          by_cases hlt : k < s.size
          · have hbk := byteAt_of hlt
            have HBk := Lib.hid (HB.out k hlt)
            have next : okByte (byteAt s k) = true → ∀ j, j < k + 1 → okByte (byteAt s j) = true := fun ho j hj => by
              by_cases e : j = k
              · rw [e]; exact ho
              · exact HK.out j (by omega)
            have HN := Lib.hid next
            clear next
            rw [hbk] at HBk HN
            clear hbk
            cases c1 : inB ((s[k]'hlt).toNat : Int) 97 122
            · cases c2 : inB ((s[k]'hlt).toNat : Int) 48 57
              · by_cases c3 : ((s[k]'hlt).toNat : Int) = 45
                · have c4 : (((s[k]'hlt).toNat : Int) != 45) = false := by simp [c3]
                  have c5 : okByte ((s[k]'hlt).toNat : Int) = true := by simp [okByte, c3]
                  have HC := Lib.hid c5
                  clear c3 c5
                  go_wp2_with (first | (go_at_call 57; refine (small_any _ _).mono ?_; rintro e u ⟨rfl, rfl⟩) | (go_at_call 58; refine (digit_any _ _).mono ?_; rintro e u ⟨rfl, rfl⟩))
                  go_round
                  case rel => exact ⟨k + 1, by omega, by go_num, Lib.hid (HN.out HC.out)⟩
                  case measure => simp [intOf]; omega
                · have c4 : (((s[k]'hlt).toNat : Int) != 45) = true := by simpa using c3
                  have c5 : okByte ((s[k]'hlt).toNat : Int) = false := by simp [okByte, c1, c2]; exact_mod_cast c3
                  have HC := Lib.hid c5
                  clear c3 c5
                  go_wp2_with (first | (go_at_call 57; refine (small_any _ _).mono ?_; rintro e u ⟨rfl, rfl⟩) | (go_at_call 58; refine (digit_any _ _).mono ?_; rintro e u ⟨rfl, rfl⟩))
                  go_ret
                  exact ⟨ret_bool (HBk.out HC.out).symm, rfl⟩
              · have HC := Lib.hid (show okByte ((s[k]'hlt).toNat : Int) = true by simp [okByte, c2])
                go_wp2_with (first | (go_at_call 57; refine (small_any _ _).mono ?_; rintro e u ⟨rfl, rfl⟩) | (go_at_call 58; refine (digit_any _ _).mono ?_; rintro e u ⟨rfl, rfl⟩))
                go_round
                case rel => exact ⟨k + 1, by omega, by go_num, Lib.hid (HN.out HC.out)⟩
                case measure => simp [intOf]; omega
            · have HC := Lib.hid (show okByte ((s[k]'hlt).toNat : Int) = true by simp [okByte, c1])
              go_wp2_with (first | (go_at_call 57; refine (small_any _ _).mono ?_; rintro e u ⟨rfl, rfl⟩) | (go_at_call 58; refine (digit_any _ _).mono ?_; rintro e u ⟨rfl, rfl⟩))
              go_round
              case rel => exact ⟨k + 1, by omega, by go_num, Lib.hid (HN.out HC.out)⟩
              case measure => simp [intOf]; omega
          · have HA := Lib.hid (fun j (hj : j < s.size) => HK.out j (by omega))
            go_wp2
            go_ret
            exact ⟨ret_bool (HG.out HA.out).symm, rfl⟩
    · have hn := name_size (s := s) (by omega)
      rw [hn]
      clear hn
      go_enter Try.func23, Try.ntmps23
      go_wp2
      go_ret
      exact ⟨rfl, rfl⟩

theorem iterBelow (w : World) (s : ByteArray) (pos : Nat) : Below w.heap.size w (w.iter s pos) := (Below.refl _ _).alloc (Nat.le_refl _) _

theorem width_pos (s : ByteArray) (pos : Nat) (h : pos < s.size) : 1 ≤ (Utf8.decode s pos).2 := by
  by_cases ha : (s[pos]'h).toNat < 128
  · rw [decode_ascii s pos h ha]
    exact Nat.le_refl _
  · exact (decode_high s pos h (by omega)).2

/-- impl.IsName. -/
theorem implName_any (s : ByteArray) (w : World) (hs : s.size ≤ maxLen) :
    Calls Try.prog 24 #[.string s] w fun e w' => e = .returned (.bool (nameB s)) ∧ Below w.heap.size w w' := by
  unfold maxLen at hs
  by_cases h0 : 1 ≤ s.size ∧ s.size ≤ 12
  · obtain ⟨h1, h2⟩ := h0
    have HG := Lib.hid (name_good (s := s) (by omega))
    have HB := Lib.hid (fun k (h : k < s.size) => name_bad (s := s) h)
    have HF := Lib.hid (name_first (s := s))
    have hz : 0 < s.size := by omega
    go_enter Try.func24, Try.ntmps24
    go_wp2
    go_loopw [3] (fun _ wr => ∃ pos : Nat, pos ≤ s.size ∧ wr = w.iter s pos ∧ Hid (0 < pos → inB (byteAt s 0) 97 122 = true) ∧ Hid (∀ j, j < pos → okByte (byteAt s j) = true)) (fun _ wr => s.size - wr.iterPos w.heap.size)
    case atStart => exact ⟨0, Nat.zero_le _, rfl, Lib.hid (fun h => absurd h (Nat.lt_irrefl 0)), Lib.hid (fun j hj => absurd hj (Nat.not_lt_zero j))⟩
    case round =>
      obtain ⟨pos, hpos, rfl, HP, HK⟩ := hrel
      by_cases hp : pos < s.size
      · have hbk := byteAt_of hp
        have HBk := Lib.hid (HB.out pos hp)
        by_cases ha : (s[pos]'hp).toNat < 128
        · have hnx : ∀ ty, (Instr.next (.pointer (some ⟨w.heap.size, 0, none⟩)) true ty).run Try.prog (w.iter s pos) = _ := fun ty => run_next_ascii w s pos ty hp ha
          cases c1 : inB ((s[pos]'hp).toNat : Int) 97 122
          · by_cases p0 : pos = 0
            · subst p0
              have HC := Lib.hid (HF.out (by rw [hbk]; exact c1))
              clear hbk
              go_wp2_with (first | (go_at_call 59; refine (isSmall_any _ _).mono ?_; rintro e u ⟨rfl, rfl⟩) | (go_at_call 60; refine (isDigit_any _ _).mono ?_; rintro e u ⟨rfl, rfl⟩))
              go_ret
              exact ⟨ret_bool HC.out.symm, iterBelow _ _ _⟩
            · have p1 : ((pos : Int) == 0) = false := by simpa using p0
              cases c2 : inB ((s[pos]'hp).toNat : Int) 48 57
              · by_cases c3 : ((s[pos]'hp).toNat : Int) = 45
                · have c4 : (((s[pos]'hp).toNat : Int) != 45) = false := by simp [c3]
                  have HC := Lib.hid (show okByte (byteAt s pos) = true by rw [hbk]; simp [okByte, c3])
                  clear c3 hbk
                  go_wp2_with (first | (go_at_call 59; refine (isSmall_any _ _).mono ?_; rintro e u ⟨rfl, rfl⟩) | (go_at_call 60; refine (isDigit_any _ _).mono ?_; rintro e u ⟨rfl, rfl⟩))
                  go_roundw
                  case rel =>
                    refine ⟨pos + 1, by omega, rfl, Lib.hid (fun _ => HP.out (by omega)), Lib.hid (fun j hj => ?_)⟩
                    by_cases e : j = pos
                    · rw [e]; exact HC.out
                    · exact HK.out j (by omega)
                  case measure => simp; omega
                · have c4 : (((s[pos]'hp).toNat : Int) != 45) = true := by simpa using c3
                  have HC := Lib.hid (show okByte (byteAt s pos) = false by rw [hbk]; simp [okByte, c1, c2]; exact_mod_cast c3)
                  clear c3 hbk
                  go_wp2_with (first | (go_at_call 59; refine (isSmall_any _ _).mono ?_; rintro e u ⟨rfl, rfl⟩) | (go_at_call 60; refine (isDigit_any _ _).mono ?_; rintro e u ⟨rfl, rfl⟩))
                  go_ret
                  exact ⟨ret_bool (HBk.out HC.out).symm, iterBelow _ _ _⟩
              · have HC := Lib.hid (show okByte (byteAt s pos) = true by rw [hbk]; simp [okByte, c2])
                clear hbk
                go_wp2_with (first | (go_at_call 59; refine (isSmall_any _ _).mono ?_; rintro e u ⟨rfl, rfl⟩) | (go_at_call 60; refine (isDigit_any _ _).mono ?_; rintro e u ⟨rfl, rfl⟩))
                go_roundw
                case rel =>
                  refine ⟨pos + 1, by omega, rfl, Lib.hid (fun _ => HP.out (by omega)), Lib.hid (fun j hj => ?_)⟩
                  by_cases e : j = pos
                  · rw [e]; exact HC.out
                  · exact HK.out j (by omega)
                case measure => simp; omega
          · have HC := Lib.hid (show okByte (byteAt s pos) = true by rw [hbk]; simp [okByte, c1])
            have HS := Lib.hid (show inB (byteAt s pos) 97 122 = true by rw [hbk]; exact c1)
            clear hbk
            go_wp2_with (first | (go_at_call 59; refine (isSmall_any _ _).mono ?_; rintro e u ⟨rfl, rfl⟩) | (go_at_call 60; refine (isDigit_any _ _).mono ?_; rintro e u ⟨rfl, rfl⟩))
            go_roundw
            case rel =>
              refine ⟨pos + 1, by omega, rfl, Lib.hid (fun _ => ?_), Lib.hid (fun j hj => ?_)⟩
              · by_cases p0 : pos = 0
                · have h3 := HS.out
                  rw [p0] at h3
                  exact h3
                · exact HP.out (by omega)
              · by_cases e : j = pos
                · rw [e]; exact HC.out
                · exact HK.out j (by omega)
            case measure => simp; omega
        · have hd := decode_high s pos hp (by omega)
          have hnx : ∀ ty, (Instr.next (.pointer (some ⟨w.heap.size, 0, none⟩)) true ty).run Try.prog (w.iter s pos) = _ := fun ty => run_next_any w s pos ty hp
          have HC := Lib.hid (show okByte (byteAt s pos) = false by
            rw [hbk]
            have h3 : inB ((s[pos]'hp).toNat : Int) 97 122 = false := inB_not.2 (by omega)
            have h4 : inB ((s[pos]'hp).toNat : Int) 48 57 = false := inB_not.2 (by omega)
            simp [okByte, h3, h4]
            omega)
          have c1 : inB ((Utf8.decode s pos).1 : Int) 97 122 = false := inB_not.2 (by omega)
          have c2 : inB ((Utf8.decode s pos).1 : Int) 48 57 = false := inB_not.2 (by omega)
          have c4 : (((Utf8.decode s pos).1 : Int) != 45) = true := by rw [bne_iff_ne]; omega
          clear hbk
          by_cases p0 : pos = 0
          · subst p0
            go_wp2_with (first | (go_at_call 59; refine (isSmall_any _ _).mono ?_; rintro e u ⟨rfl, rfl⟩) | (go_at_call 60; refine (isDigit_any _ _).mono ?_; rintro e u ⟨rfl, rfl⟩))
            go_ret
            exact ⟨ret_bool (HBk.out HC.out).symm, iterBelow _ _ _⟩
          · have p1 : ((pos : Int) == 0) = false := by simpa using p0
            go_wp2_with (first | (go_at_call 59; refine (isSmall_any _ _).mono ?_; rintro e u ⟨rfl, rfl⟩) | (go_at_call 60; refine (isDigit_any _ _).mono ?_; rintro e u ⟨rfl, rfl⟩))
            go_ret
            exact ⟨ret_bool (HBk.out HC.out).symm, iterBelow _ _ _⟩
      · have hnx : ∀ ty, (Instr.next (.pointer (some ⟨w.heap.size, 0, none⟩)) true ty).run Try.prog (w.iter s pos) = _ := fun ty => run_next_end w s pos ty hp
        have HA := Lib.hid (HG.out (HP.out (by omega)) (fun j hj => HK.out j (by omega)))
        go_wp2
        go_ret
        exact ⟨ret_bool HA.out.symm, iterBelow _ _ _⟩
  · rw [name_size h0]
    by_cases h1 : s.size < 1
    · clear h0
      go_enter Try.func24, Try.ntmps24
      go_wp2
      go_ret
      exact ⟨rfl, Below.refl _ _⟩
    · have h2 : 12 < s.size := by omega
      clear h0
      go_enter Try.func24, Try.ntmps24
      go_wp2
      go_ret
      exact ⟨rfl, Below.refl _ _⟩

/-- laws.FnExactIsName. -/
theorem law_IsName (s : ByteArray) (w : World) (hs : s.size ≤ maxLen) :
    Calls Try.prog 4 #[.string s] w fun e w' => e = .returned (.bool true) ∧ Below w.heap.size w w' := by
  have hm := hs
  unfold maxLen at hs
  by_cases hl : 1048576 < s.size
  · go_enter Try.func4, Try.ntmps4
    go_wp2
    go_ret
    exact ⟨rfl, Below.refl _ _⟩
  · go_enter Try.func4, Try.ntmps4
    go_wp2_with fail
    refine (specName_any s _ hm).mono ?_
    rintro e u ⟨rfl, rfl⟩
    go_wp2_with fail
    refine (implName_any s _ hm).mono ?_
    rintro e u ⟨rfl, hb⟩
    go_wp2_with fail
    go_ret
    exact ⟨rfl, hb⟩

end Go.Proofs.Ytmhnceddhmdfoaa
