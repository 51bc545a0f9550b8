/- How often the pose changes in a motion: the model, the program, and ChangesIn's statement. -/
import Derived.Test.YtibafngidpmgdaaTurnM
import Derived.Laws.RangeString
import Derived.Laws.RangeAny
import Derived.Tactics
import Derived.Tactics2
import Derived.WalkKit
import Derived.LoopTactic
import Derived.BigQuiet
import Derived.Deep.QuietTactic
import Derived.Outline
import Derived.Lib.Hide
import Derived.Below
import Derived.KernelRfl
namespace Go.Proofs.Ytibafngidpmgdaa
set_option linter.unusedSimpArgs false
set_option linter.unusedVariables false
open Go.RowKit

theorem iterDrew (w : World) (n b : Nat) : (w.drewN n).iterPos b = w.iterPos b := rfl
theorem byteNe {a b : UInt8} (h : ((a.toNat : Int) != (b.toNat : Int)) = true) : ¬ a = b := by
  intro e
  subst e
  simp at h
theorem byteEq {a b : UInt8} (h : ((a.toNat : Int) != (b.toNat : Int)) = false) : a = b := by
  have h1 : (a.toNat : Int) = (b.toNat : Int) := by simpa using h
  exact UInt8.toNat_inj.1 (by exact_mod_cast h1)

set_option maxHeartbeats 2000000 in
/-- spec.ChangesIn. -/
theorem specChg_any (s : ByteArray) (w : World) (hs : s.size ≤ maxLen) :
    Calls Try.prog 82 #[.string s] w fun e w' => e = .returned (numV s (changesN s s.size : Nat)) ∧ Below w.heap.size w w' := by
  have A1 := Lib.hid (fun w => l06Ok_any s w hs)
  cases h1 : motB s
  · rw [numV_no h1]
    rw [h1] at A1
    go_enter Try.func82, Try.ntmps82
    go_wp2_with fail
    refine (A1.out _).mono ?_
    rintro e u ⟨rfl, rfl⟩
    go_wp2_with fail
    go_ret2
    exact ⟨rfl, Below.refl _ _⟩
  · rw [numV_yes h1]
    obtain ⟨s1, s2⟩ := motB_size h1
    have hs0 : ¬ (s.size : Int) = 0 := by omega
    have hs0n : ¬ s.size = 0 := by omega
    have HC := Lib.hid (fun k => show changesN s (k + 1) = if letter s k = letter s ((k + 1) % s.size) then changesN s k else changesN s k + 1 from rfl)
    have HL := Lib.hid (changesN_le s)
    rw [h1] at A1
    go_enter Try.func82, Try.ntmps82
    go_wp2_with fail
    refine (A1.out _).mono ?_
    rintro e u ⟨rfl, rfl⟩
    go_wp2_with fail
    go_loopw [5, 4] (fun i z wr => ∃ k n : Nat, k ≤ s.size ∧ i = .int .i64 k ∧ z = .int .i64 n ∧ n ≤ k ∧ Hid (changesN s k = n) ∧ Hid (Below w.heap.size w wr)) (fun i _ _ => s.size - (intOf i).toNat)
    case atStart => exact ⟨0, 0, Nat.zero_le _, rfl, rfl, Nat.le_refl _, Lib.hid rfl, Lib.hid (Below.refl _ _)⟩
    case round =>
      obtain ⟨k, n, hk, rfl, rfl, hn, HK, HB⟩ := hrel
      by_cases hlt : k < s.size
      · obtain ⟨q, hqe⟩ : ∃ q, (k + 1) % s.size = q := ⟨_, rfl⟩
        have hq : q < s.size := by rw [← hqe]; exact Nat.mod_lt _ (by omega)
        have e1 : ((k : Int) + 1) % (s.size : Int) = (q : Int) := by rw [← hqe]; norm_cast
        have hl := letter_of hlt
        have hlq := letter_of hq
        have HS := HC.out k
        rw [HK.out, hqe, ← hl, ← hlq] at HS
        clear hl hlq hqe
        cases c : (((s[k]'hlt).toNat : Int) != ((s[q]'hq).toNat : Int))
        · have HN := Lib.hid (by rw [if_pos (byteEq c)] at HS; exact HS)
          clear HS
          go_wp2
          go_quiet (fail)
          go_wp2
          go_roundw
          case rel => exact ⟨k + 1, n, by omega, by go_num, rfl, by omega, HN, Lib.hid (bDrewN HB.out _)⟩
          case measure => simp [intOf]; omega
        · have HN := Lib.hid (by rw [if_neg (byteNe c)] at HS; exact HS)
          clear HS
          go_wp2
          go_quiet (fail)
          go_wp2
          go_roundw
          case rel => exact ⟨k + 1, n + 1, by omega, by go_num, by go_num, by omega, HN, Lib.hid (bDrewN HB.out _)⟩
          case measure => simp [intOf]; omega
      · have hks : k = s.size := by omega
        have HE := Lib.hid (show (changesN s s.size : Nat) = n by rw [← HK.out, hks])
        clear hks
        go_wp2
        go_ret2
        exact ⟨ret_pair (by exact_mod_cast HE.out.symm), HB.out⟩

set_option maxHeartbeats 2000000 in
/-- impl.ChangesIn. -/
theorem implChg_any (s : ByteArray) (w : World) (hs : s.size ≤ maxLen) :
    Calls Try.prog 72 #[.string s] w fun e w' => e = .returned (numV s (changesN s s.size : Nat)) ∧ Below w.heap.size w w' := by
  have A1 := Lib.hid (fun w => implMotion_any s w hs)
  cases h1 : motB s
  · rw [numV_no h1]
    rw [h1] at A1
    go_enter Try.func72, Try.ntmps72
    go_wp2_with fail
    refine (A1.out _).mono ?_
    rintro e u ⟨rfl, hb1⟩
    go_wp2_with fail
    go_ret2
    exact ⟨rfl, hb1⟩
  · rw [numV_yes h1]
    obtain ⟨s1, s2⟩ := motB_size h1
    have B1 := Lib.hid (fun w => begunAt_any s 1 w s1 s2)
    have HC := Lib.hid (fun k => show changesN s (k + 1) = if letter s k = letter s ((k + 1) % s.size) then changesN s k else changesN s k + 1 from rfl)
    have HR := Lib.hid (fun k h => rot_letter (s := s) (k := k) h)
    have HM := Lib.hid (fun k h => motB_letter h1 (k := k) h)
    have ht := rotB_size (s := s) (k := 1) s1
    rw [h1] at A1
    generalize rotB s 1 = t at *
    go_enter Try.func72, Try.ntmps72
    go_wp2_with fail
    refine (A1.out _).mono ?_
    rintro e u ⟨rfl, hb1⟩
    go_wp2_with fail
    refine (B1.out _).mono ?_
    rintro e u2 ⟨rfl, m, rfl⟩
    have HB1 := Lib.hid (bDrewN hb1 m)
    clear hb1
    generalize u.drewN m = v at *
    go_wp2_with fail
    go_loopw [5] (fun z wr => ∃ (n pos : Nat) (W : World), pos ≤ s.size ∧ z = .int .i64 n ∧ n ≤ pos ∧ wr = W.iter s pos ∧ W.heap.size = v.heap.size ∧ Hid (Below w.heap.size w W) ∧ Hid (changesN s pos = n)) (fun _ wr => s.size - wr.iterPos v.heap.size)
    case atStart => exact ⟨0, 0, v, Nat.zero_le _, rfl, Nat.le_refl _, rfl, rfl, HB1, Lib.hid rfl⟩
    case round =>
      obtain ⟨n, pos, W, hpos, rfl, hn, rfl, hsz, HBW, HK⟩ := hrel
      by_cases hp : pos < s.size
      · have hl := letter_of hp
        have hm := HM.out pos hp
        rw [← hl] at hm
        have ha : (s[pos]'hp).toNat < 128 := by omega
        have hnx : ∀ ty, (Instr.next (.pointer (some ⟨v.heap.size, 0, none⟩)) true ty).run Try.prog (W.iter s pos) = .ok (.tuple #[.bool true, .int .i64 pos, .int .i32 (s[pos]'hp).toNat]) (W.iter s (pos + 1)) := fun ty => by
          rw [← hsz]
          exact run_next_ascii W s pos ty hp ha
        have htp : pos < t.size := by omega
        have hlt := letter_of htp
        have HS := HC.out pos
        rw [HK.out, ← HR.out pos hp, ← hl, ← hlt] at HS
        clear hl hlt ha hm
        have HT := Lib.hid ht
        clear ht
        cases c : (((s[pos]'hp).toNat : Int) != ((t[pos]'htp).toNat : Int))
        · have HN := Lib.hid (by rw [if_pos (byteEq c)] at HS; exact HS)
          clear HS
          go_wp2
          go_quiet (fail)
          go_wp2
          go_roundw
          case rel => exact ⟨n, pos + 1, W.drewN _, by omega, rfl, by omega, rfl, hsz, Lib.hid (bDrewN HBW.out _), HN⟩
          case measure =>
            rw [iterDrew, ← hsz, World.iterPos_iter, World.iterPos_iter]
            omega
        · have HN := Lib.hid (by rw [if_neg (byteNe c)] at HS; exact HS)
          clear HS
          go_wp2
          go_quiet (fail)
          go_wp2
          go_roundw
          case rel => exact ⟨n + 1, pos + 1, W.drewN _, by omega, by go_num, by omega, rfl, hsz, Lib.hid (bDrewN HBW.out _), HN⟩
          case measure =>
            rw [iterDrew, ← hsz, World.iterPos_iter, World.iterPos_iter]
            omega
      · have hnx : ∀ ty, (Instr.next (.pointer (some ⟨v.heap.size, 0, none⟩)) true ty).run Try.prog (W.iter s pos) = .ok (.tuple #[.bool false]) (W.iter s pos) := fun ty => by
          rw [← hsz]
          exact run_next_end W s pos ty hp
        have hks : pos = s.size := by omega
        have HE := Lib.hid (show (changesN s s.size : Nat) = n by rw [← HK.out, hks])
        clear hks
        go_wp2
        go_ret2
        exact ⟨ret_pair (by exact_mod_cast HE.out.symm), bAlloc HBW.out _⟩

/-- laws.FnExactChangesIn. -/
theorem law_ChangesIn (s : ByteArray) (w : World) (hs : s.size ≤ maxLen) :
    Calls Try.prog 18 #[.string s] w fun e w' => e = .returned (.bool true) ∧ Below w.heap.size w w' := by
  by_cases hl : 1048576 < s.size
  · exact lawChangesIn_big0 s w hs hl
  · exact lawChangesIn_of s _ _ w hs hl (fun u => specChg_any s u hs) (fun u => implChg_any s u hs)

end Go.Proofs.Ytibafngidpmgdaa
