/- Turns of a motion in the model: l06Same, SameMotion, LooksBack, PeriodOf, FirstTurn. -/
import Derived.Test.YtibafngidpmgdaaRot
import Derived.Test.YtibafngidpmgdaaBackM
import Derived.Tactics
import Derived.Tactics2
import Derived.WalkKit
import Derived.LoopTactic
import Derived.BigQuiet
import Derived.Deep.QuietTactic
import Derived.Outline
import Derived.Lib.Hide
import Derived.Below
import Derived.KernelRfl
namespace Go.Proofs.Ytibafngidpmgdaa
set_option linter.unusedSimpArgs false
set_option linter.unusedVariables false
open Go.RowKit

theorem drewSize {w u : World} (h : ∃ n, u = w.drewN n) : Below w.heap.size w u := by
  obtain ⟨n, rfl⟩ := h
  exact bDrewN (Below.refl _ _) n

set_option maxHeartbeats 1000000 in
/-- spec.l06Same. -/
theorem l06Same_any (a b : ByteArray) (w : World) (ha : a.size ≤ 24) (hb : b.size ≤ 24) :
    Calls Try.prog 135 #[.string a, .string b] w fun e w' => e = .returned (.bool (turnB a b)) ∧ Below w.heap.size w w' := by
  by_cases hsz : a.size = b.size
  · have HT := Lib.hid (fun k (h : k < a.size) w => l06Turned_any a k w (by omega) ha)
    have HH := Lib.hid (fun k (h : k < a.size) => turnB_hit (b := b) h)
    have HN := Lib.hid (turnB_no (a := a) (b := b))
    have hs2 : ((a.size : Int) != (b.size : Int)) = false := by simp [hsz]
    have HS := Lib.hid hsz
    clear hsz
    go_enter Try.func135, Try.ntmps135
    go_wp2
    go_loopw [5] (fun i wr => ∃ k : Nat, k ≤ a.size ∧ i = .int .i64 k ∧ Hid (Below w.heap.size w wr) ∧ Hid (∀ j, j < k → eqT (rotB a j) b = false)) (fun i _ => a.size - (intOf i).toNat)
    case atStart => exact ⟨0, Nat.zero_le _, rfl, Lib.hid (Below.refl _ _), Lib.hid (fun j hj => absurd hj (Nat.not_lt_zero j))⟩
    case round =>
      obtain ⟨k, hk, rfl, HB, HK⟩ := hrel
      by_cases hlt : k < a.size
      · have T := Lib.hid (HT.out k hlt)
        cases c : ((rotB a k).toList == b.toList)
        · have HC := Lib.hid (fun j (hj : j < k + 1) => show eqT (rotB a j) b = false by
            by_cases e : j = k
            · rw [e]; exact c
            · exact HK.out j (by omega))
          generalize rotB a k = r at *
          go_wp2_with fail
          refine (T.out _).mono ?_
          rintro e u ⟨rfl, n, rfl⟩
          go_wp2
          go_roundw
          case rel => exact ⟨k + 1, by omega, by go_num, Lib.hid (bDrewN HB.out n), HC⟩
          case measure => simp [intOf]; omega
        · have HC := Lib.hid (HH.out k hlt c)
          generalize rotB a k = r at *
          go_wp2_with fail
          refine (T.out _).mono ?_
          rintro e u ⟨rfl, n, rfl⟩
          go_wp2
          go_ret
          exact ⟨ret_bool HC.out.symm, bDrewN HB.out n⟩
      · have HA := Lib.hid (HN.out (fun j hj => HK.out j (by omega)))
        go_wp2
        go_ret
        exact ⟨ret_bool HA.out.symm, HB.out⟩
  · rw [turnB_size hsz]
    have hs2 : ((a.size : Int) != (b.size : Int)) = true := by rw [bne_iff_ne]; omega
    clear hsz
    go_enter Try.func135, Try.ntmps135
    go_wp2
    go_ret
    exact ⟨rfl, Below.refl _ _⟩

/-- What SameMotion returns. -/
def sameV (a b : ByteArray) : Value := .tuple #[.bool (motB a && (motB b && turnB a b)), .int .i64 (if motB a = true ∧ motB b = true then 0 else 1)]
theorem sameV_a {a b : ByteArray} (h : motB a = false) : sameV a b = .tuple #[.bool false, .int .i64 1] := by simp [sameV, h]
theorem sameV_b {a b : ByteArray} (h : motB b = false) : sameV a b = .tuple #[.bool false, .int .i64 1] := by simp [sameV, h]
theorem sameV_yes {a b : ByteArray} (ha : motB a = true) (hb : motB b = true) : sameV a b = .tuple #[.bool (turnB a b), .int .i64 0] := by simp [sameV, ha, hb]

/-- spec.SameMotion. -/
theorem specSame_any (a b : ByteArray) (w : World) (ha : a.size ≤ maxLen) (hb : b.size ≤ maxLen) :
    Calls Try.prog 71 #[.string a, .string b] w fun e w' => e = .returned (sameV a b) ∧ Below w.heap.size w w' := by
  have A1 := Lib.hid (fun w => l06Ok_any a w ha)
  have B1 := Lib.hid (fun w => l06Ok_any b w hb)
  cases h1 : motB a
  · rw [sameV_a h1]
    rw [h1] at A1
    go_enter Try.func71, Try.ntmps71
    go_wp2_with fail
    refine (A1.out _).mono ?_
    rintro e u ⟨rfl, rfl⟩
    go_wp2_with fail
    go_ret2
    exact ⟨rfl, Below.refl _ _⟩
  · cases h2 : motB b
    · rw [sameV_b h2]
      rw [h1] at A1
      rw [h2] at B1
      go_enter Try.func71, Try.ntmps71
      go_wp2_with fail
      refine (A1.out _).mono ?_
      rintro e u ⟨rfl, rfl⟩
      go_wp2_with fail
      refine (B1.out _).mono ?_
      rintro e u ⟨rfl, rfl⟩
      go_wp2_with fail
      go_ret2
      exact ⟨rfl, Below.refl _ _⟩
    · rw [sameV_yes h1 h2]
      have S := Lib.hid (fun w => l06Same_any a b w (motB_size h1).2 (motB_size h2).2)
      rw [h1] at A1
      rw [h2] at B1
      generalize turnB a b = t at *
      go_enter Try.func71, Try.ntmps71
      go_wp2_with fail
      refine (A1.out _).mono ?_
      rintro e u ⟨rfl, rfl⟩
      go_wp2_with fail
      refine (B1.out _).mono ?_
      rintro e u ⟨rfl, rfl⟩
      go_wp2_with fail
      refine (S.out _).mono ?_
      rintro e u ⟨rfl, hb⟩
      go_wp2_with fail
      go_ret2
      exact ⟨rfl, hb⟩

/-- What LooksBack returns. -/
def looksV (s : ByteArray) : Value := .tuple #[.bool (motB s && turnB s (backB s)), .int .i64 (if motB s = true then 0 else 1)]
theorem looksV_no {s : ByteArray} (h : motB s = false) : looksV s = .tuple #[.bool false, .int .i64 1] := by simp [looksV, h]
theorem looksV_yes {s : ByteArray} (h : motB s = true) : looksV s = .tuple #[.bool (turnB s (backB s)), .int .i64 0] := by simp [looksV, h]
/-- spec.LooksBack. -/
theorem specLooks_any (s : ByteArray) (w : World) (hs : s.size ≤ maxLen) :
    Calls Try.prog 81 #[.string s] w fun e w' => e = .returned (looksV s) ∧ Below w.heap.size w w' := by
  have A1 := Lib.hid (fun w => l06Ok_any s w hs)
  cases h1 : motB s
  · rw [looksV_no h1]
    rw [h1] at A1
    go_enter Try.func81, Try.ntmps81
    go_wp2_with fail
    refine (A1.out _).mono ?_
    rintro e u ⟨rfl, rfl⟩
    go_wp2_with fail
    go_ret2
    exact ⟨rfl, Below.refl _ _⟩
  · rw [looksV_yes h1]
    obtain ⟨s1, s2⟩ := motB_size h1
    have B1 := Lib.hid (fun w => l06Back_any s w s1 s2)
    have S := Lib.hid (fun w => l06Same_any s (backB s) w s2 (by rw [backB_size]; exact s2))
    rw [h1] at A1
    generalize turnB s (backB s) = t at *
    generalize backB s = b at *
    go_enter Try.func81, Try.ntmps81
    go_wp2_with fail
    refine (A1.out _).mono ?_
    rintro e u ⟨rfl, rfl⟩
    go_wp2_with fail
    refine (B1.out _).mono ?_
    rintro e u ⟨rfl, hb⟩
    go_wp2_with fail
    refine (S.out _).mono ?_
    rintro e u2 ⟨rfl, hb2⟩
    go_wp2_with fail
    go_ret2
    exact ⟨rfl, bTrans hb hb2⟩

/-- What a function of a motion returns whose result is a number. -/
def numV (s : ByteArray) (z : Int) : Value := .tuple #[.int .i64 (if motB s = true then z else 0), .int .i64 (if motB s = true then 0 else 1)]
theorem numV_no {s : ByteArray} {z : Int} (h : motB s = false) : numV s z = .tuple #[.int .i64 0, .int .i64 1] := by simp [numV, h]
theorem numV_yes {s : ByteArray} {z : Int} (h : motB s = true) : numV s z = .tuple #[.int .i64 z, .int .i64 0] := by simp [numV, h]
theorem rotB_mod {s : ByteArray} {k : Nat} (h1 : k ≤ s.size) : rotB s (k % s.size) = rotB s k := by
  by_cases e : k = s.size
  · rw [e, Nat.mod_self, rotB_zero, rotB_all]
  · rw [Nat.mod_eq_of_lt (by omega)]
theorem ret_pair {a b : Int} (h : a = b) : Ending.returned (.tuple #[.int .i64 a, .int .i64 0]) = .returned (.tuple #[.int .i64 b, .int .i64 0]) := by rw [h]

set_option maxHeartbeats 1000000 in
/-- spec.PeriodOf. -/
theorem specPeriod_any (s : ByteArray) (w : World) (hs : s.size ≤ maxLen) :
    Calls Try.prog 78 #[.string s] w fun e w' => e = .returned (numV s (firstN (againB s) s.size : Nat)) ∧ Below w.heap.size w w' := by
  have A1 := Lib.hid (fun w => l06Ok_any s w hs)
  cases h1 : motB s
  · rw [numV_no h1]
    rw [h1] at A1
    go_enter Try.func78, Try.ntmps78
    go_wp2_with fail
    refine (A1.out _).mono ?_
    rintro e u ⟨rfl, rfl⟩
    go_wp2_with fail
    go_ret2
    exact ⟨rfl, Below.refl _ _⟩
  · rw [numV_yes h1]
    obtain ⟨s1, s2⟩ := motB_size h1
    have T := Lib.hid (fun k (hk : k ≤ s.size) w => (rotB_mod hk) ▸ l06Turned_any s (k % s.size) w (Nat.le_of_lt (Nat.mod_lt _ (by omega))) s2)
    have HU := Lib.hid (fun n (h1 : 1 ≤ n) h2 h3 => firstN_unique (P := againB s) (m := s.size) (n := n) s1 (againB_size s) h1 h2 h3)
    have HE := Lib.hid (againB_size s)
    have hs0 : ¬ (s.size : Int) = 0 := by omega
    have hs0n : ¬ s.size = 0 := by omega
    rw [h1] at A1
    generalize firstN (againB s) s.size = F at *
    go_enter Try.func78, Try.ntmps78
    go_wp2_with fail
    refine (A1.out _).mono ?_
    rintro e u ⟨rfl, rfl⟩
    go_wp2_with fail
    go_loopw [4] (fun i wr => ∃ k : Nat, 1 ≤ k ∧ k ≤ s.size ∧ i = .int .i64 k ∧ Hid (Below w.heap.size w wr) ∧ Hid (∀ j, 1 ≤ j → j < k → againB s j = false)) (fun i _ => s.size - (intOf i).toNat)
    case atStart => exact ⟨1, Nat.le_refl _, s1, rfl, Lib.hid (Below.refl _ _), Lib.hid (fun j h1 h2 => by omega)⟩
    case round =>
      obtain ⟨k, k1, k2, rfl, HB, HK⟩ := hrel
      have k0 : ¬ (k : Int) = 0 := by omega
      have k0n : ¬ k = 0 := by omega
      have TK := Lib.hid (T.out k k2)
      by_cases hr : s.size % k = 0
      · have hr2 : (((s.size : Int) % (k : Int)) != 0) = false := by
          have : (s.size : Int) % (k : Int) = 0 := by exact_mod_cast hr
          simp [this]
        have HR := Lib.hid hr
        clear hr
        cases c : ((rotB s k).toList == s.toList)
        · have HC := Lib.hid (show againB s k = false by
            have : eqT (rotB s k) s = false := c
            simp [againB, this])
          have hks : k < s.size := by
            rcases Nat.lt_or_ge k s.size with h | h
            · exact h
            · have e : k = s.size := by omega
              have h2 := HC.out
              rw [e, HE.out] at h2
              cases h2
          generalize rotB s k = r at *
          go_wp2_with fail
          refine (TK.out _).mono ?_
          rintro e u ⟨rfl, n, rfl⟩
          go_wp2
          go_roundw
          case rel =>
            refine ⟨k + 1, by omega, by omega, by go_num, Lib.hid (bDrewN HB.out n), Lib.hid (fun j j1 hj => ?_)⟩
            by_cases e : j = k
            · rw [e]; exact HC.out
            · exact HK.out j j1 (by omega)
          case measure => simp [intOf]; omega
        · have HC := Lib.hid (HU.out k k1 (by
            have : eqT (rotB s k) s = true := c
            simp [againB, this, HR.out]) HK.out)
          generalize rotB s k = r at *
          go_wp2_with fail
          refine (TK.out _).mono ?_
          rintro e u ⟨rfl, n, rfl⟩
          go_wp2
          go_ret2
          exact ⟨ret_pair (by exact_mod_cast HC.out), bDrewN HB.out n⟩
      · have hr2 : (((s.size : Int) % (k : Int)) != 0) = true := by
          rw [bne_iff_ne]
          intro h
          exact hr (by exact_mod_cast h)
        have HC := Lib.hid (show againB s k = false by simp [againB, hr])
        have hks : k < s.size := by
          rcases Nat.lt_or_ge k s.size with h | h
          · exact h
          · have e : k = s.size := by omega
            rw [e, Nat.mod_self] at hr
            exact absurd rfl hr
        clear hr
        go_wp2
        go_roundw
        case rel =>
          refine ⟨k + 1, by omega, by omega, by go_num, HB, Lib.hid (fun j j1 hj => ?_)⟩
          by_cases e : j = k
          · rw [e]; exact HC.out
          · exact HK.out j j1 (by omega)
        case measure => simp [intOf]; omega

/-- What a function of a motion returns whose result is a text. -/
def textV (s z : ByteArray) : Value := .tuple #[.string (if motB s = true then z else ⟨#[]⟩), .int .i64 (if motB s = true then 0 else 1)]
theorem textV_no {s z : ByteArray} (h : motB s = false) : textV s z = .tuple #[.string ⟨#[]⟩, .int .i64 1] := by simp [textV, h]
theorem textV_yes {s z : ByteArray} (h : motB s = true) : textV s z = .tuple #[.string z, .int .i64 0] := by simp [textV, h]

theorem ret_first {a b : ByteArray} (h : a = b) : Ending.returned (.tuple #[.string a, .int .i64 0]) = .returned (.tuple #[.string b, .int .i64 0]) := by rw [h]
theorem firstTo_step (s : ByteArray) (k : Nat) (hk : 1 ≤ k) : leastOf ltT ⟨#[]⟩ (turnsT s (k + 1)) = if ltT (rotB s k) (leastOf ltT ⟨#[]⟩ (turnsT s k)) = true then rotB s k else leastOf ltT ⟨#[]⟩ (turnsT s k) := by
  rw [turnsT_succ, leastOf_snoc]
  intro h
  have := congrArg List.length h
  rw [turnsT_length] at this
  simp at this
  omega

set_option maxHeartbeats 1000000 in
/-- spec.FirstTurn. -/
theorem specFirst_any (s : ByteArray) (w : World) (hs : s.size ≤ maxLen) :
    Calls Try.prog 79 #[.string s] w fun e w' => e = .returned (textV s (firstT s)) ∧ Below w.heap.size w w' := by
  have A1 := Lib.hid (fun w => l06Ok_any s w hs)
  cases h1 : motB s
  · rw [textV_no h1]
    rw [h1] at A1
    go_enter Try.func79, Try.ntmps79
    go_wp2_with fail
    refine (A1.out _).mono ?_
    rintro e u ⟨rfl, rfl⟩
    go_wp2_with fail
    go_ret2
    exact ⟨rfl, Below.refl _ _⟩
  · rw [textV_yes h1]
    obtain ⟨s1, s2⟩ := motB_size h1
    have HT := Lib.hid (fun k (h : k < s.size) w => l06Turned_any s k w (by omega) s2)
    have HS := Lib.hid (firstTo_step s)
    have H1 := Lib.hid (show leastOf ltT ⟨#[]⟩ (turnsT s 1) = s by rw [show turnsT s 1 = [rotB s 0] from rfl, rotB_zero]; rfl)
    have HF := Lib.hid (show firstT s = leastOf ltT ⟨#[]⟩ (turnsT s s.size) from rfl)
    generalize firstT s = F at *
    rw [h1] at A1
    go_enter Try.func79, Try.ntmps79
    go_wp2_with fail
    refine (A1.out _).mono ?_
    rintro e u ⟨rfl, rfl⟩
    go_wp2_with fail
    go_loopw [5, 4] (fun i b wr => ∃ k : Nat, 1 ≤ k ∧ k ≤ s.size ∧ i = .int .i64 k ∧ (∃ t, b = .string t ∧ Hid (leastOf ltT ⟨#[]⟩ (turnsT s k) = t)) ∧ Hid (Below w.heap.size w wr)) (fun i _ _ => s.size - (intOf i).toNat)
    case atStart => exact ⟨1, Nat.le_refl _, s1, rfl, ⟨s, rfl, H1⟩, Lib.hid (Below.refl _ _)⟩
    case round =>
      obtain ⟨k, k1, k2, rfl, ⟨t, rfl, HK⟩, HB⟩ := hrel
      by_cases hlt : k < s.size
      · have T := Lib.hid (HT.out k hlt)
        have HSk := Lib.hid (by have h := HS.out k k1; rw [HK.out] at h; exact h)
        cases c : Op.bytesLess (rotB s k).toList t.toList
        · have HN := Lib.hid (by
            have h := HSk.out
            rw [show ltT (rotB s k) t = false from c, if_neg (by simp)] at h
            exact h)
          clear HSk
          generalize rotB s k = r at *
          go_wp2_with fail
          refine (T.out _).mono ?_
          rintro e u ⟨rfl, n, rfl⟩
          go_wp2
          go_roundw
          case rel => exact ⟨k + 1, by omega, by omega, by go_num, ⟨_, rfl, HN⟩, Lib.hid (bDrewN HB.out n)⟩
          case measure => simp [intOf]; omega
        · have HN := Lib.hid (by
            have h := HSk.out
            rw [show ltT (rotB s k) t = true from c, if_pos rfl] at h
            exact h)
          clear HSk
          generalize rotB s k = r at *
          go_wp2_with fail
          refine (T.out _).mono ?_
          rintro e u ⟨rfl, n, rfl⟩
          go_wp2
          go_roundw
          case rel => exact ⟨k + 1, by omega, by omega, by go_num, ⟨_, rfl, HN⟩, Lib.hid (bDrewN HB.out n)⟩
          case measure => simp [intOf]; omega
      · have hks : k = s.size := by omega
        have HE := Lib.hid (show F = t by rw [HF.out, ← HK.out, hks])
        clear hks
        go_wp2
        go_ret2
        exact ⟨ret_first HE.out.symm, HB.out⟩

end Go.Proofs.Ytibafngidpmgdaa
