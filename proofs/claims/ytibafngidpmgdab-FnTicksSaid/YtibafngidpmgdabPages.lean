/- The pages of a book: what are some, and the page at a tick. -/
import Derived.Test.YtibafngidpmgdabBook1
import Derived.Test.YtibafngidpmgdabBookMath
import Derived.Laws.RangeString
import Derived.Laws.RangeAny
import Derived.IntWalk
import Derived.WalkSpells
import Derived.Tactics
import Derived.Tactics2
import Derived.WalkKit
import Derived.LoopTactic
import Derived.BigQuiet
import Derived.Deep.QuietTactic
import Derived.Outline
import Derived.Lib.Hide
import Derived.Below
import Derived.KernelRfl
namespace Go.Proofs.Ytibafngidpmgdab
set_option linter.unusedSimpArgs false
set_option linter.unusedVariables false
open Go.RowKit

/-- spec.l08Pages. -/
theorem l08Pages_any (s : ByteArray) (w : World) (hs : s.size ≤ maxLen) :
    Calls Try.prog 67 #[.string s] w fun e w' => e = .returned (.bool (posB s 60)) ∧ w = w' := by
  unfold maxLen at hs
  have HG := Lib.hid (fun h => posB_mk (s := s) (n := 60) h)
  have HB := Lib.hid (fun k (h : k < s.size) => posB_bad (s := s) (n := 60) h)
  have HO := Lib.hid (posB_off (s := s) (n := 60))
  go_enter Try.func67, Try.ntmps67
  go_wp2
  go_loop [3] (fun i => ∃ k : Nat, k ≤ s.size ∧ i = .int .i64 k ∧ Hid (∀ j, j < k → smallB (letter s j) = true)) (fun i => s.size - (intOf i).toNat)
  case atStart => exact ⟨0, Nat.zero_le _, rfl, Lib.hid (fun j hj => absurd hj (Nat.not_lt_zero j))⟩
  case round =>
    obtain ⟨k, hk, rfl, HK⟩ := hrel
    by_cases hlt : k < s.size
    · have hl := letter_of hlt
      have HBk := Lib.hid (HB.out k hlt)
      by_cases c1 : ((s[k]'hlt).toNat : Int) < 97
      · have HC := Lib.hid (HBk.out (by rw [← hl]; simp [smallB]; omega))
        clear hl
        go_wp2
        go_ret
        exact ⟨ret_bool HC.out.symm, rfl⟩
      · by_cases c2 : 122 < ((s[k]'hlt).toNat : Int)
        · have HC := Lib.hid (HBk.out (by rw [← hl]; simp [smallB]; omega))
          clear hl
          go_wp2
          go_ret
          exact ⟨ret_bool HC.out.symm, rfl⟩
        · have HC := Lib.hid (show smallB (letter s k) = true by rw [← hl]; simp [smallB]; omega)
          clear hl
          go_wp2
          go_round
          case rel =>
            refine ⟨k + 1, by omega, by go_num, Lib.hid (fun j hj => ?_)⟩
            by_cases e : j = k
            · rw [e]; exact HC.out
            · exact HK.out j (by omega)
          case measure => simp [intOf]; omega
    · have HA := Lib.hid (fun j (hj : j < s.size) => HK.out j (by omega))
      go_wp2_with fail
      refine (l00In_any _ _ _ _).mono ?_
      rintro e u ⟨rfl, rfl⟩
      go_wp2_with fail
      go_ret
      refine ⟨ret_bool ?_, rfl⟩
      by_cases h1 : 1 ≤ s.size ∧ s.size ≤ 60
      · rw [HG.out h1 HA.out, inB_iff]
        omega
      · rw [HO.out h1, inB_not]
        omega

/-- impl.arePages. -/
theorem arePages_any (s : ByteArray) (w : World) (hs : s.size ≤ maxLen) :
    Calls Try.prog 55 #[.string s] w fun e w' => e = .returned (.bool (posB s 60)) ∧ Below w.heap.size w w' := by
  go_enter Try.func55, Try.ntmps55
  go_wp2_with fail
  refine (arePoses_any s 60 _ hs).mono ?_
  rintro e u ⟨rfl, hb⟩
  go_wp2_with fail
  go_ret
  exact ⟨rfl, hb⟩

/-- The page at a tick, and the code. -/
def pageZ (s : ByteArray) (e t : Int) : ByteArray := if posB s 60 = true ∧ inB e 1 100 = true ∧ inB t 0 6000 = true ∧ t / e < s.size then pageT s (t / e).toNat else ⟨#[]⟩
def pageC (s : ByteArray) (e t : Int) : Int := if posB s 60 = true then (if inB e 1 100 = true ∧ inB t 0 6000 = true then (if t / e < s.size then 0 else 3) else 2) else 1

set_option maxHeartbeats 1000000 in
/-- spec.PageAt. -/
theorem specPageAt_any (s : ByteArray) (e t : Int) (w : World) (hs : s.size ≤ maxLen) :
    Calls Try.prog 35 #[.string s, .int .i64 e, .int .i64 t] w fun r w' => r = .returned (.tuple #[.string (pageZ s e t), .int .i64 (pageC s e t)]) ∧ Below w.heap.size w w' := by
  have PA := Lib.hid (fun u => l08Pages_any s u hs)
  cases h1 : posB s 60
  · have HZ := Lib.hid (show pageZ s e t = ⟨#[]⟩ ∧ pageC s e t = 1 by simp [pageZ, pageC, h1])
    rw [h1] at PA
    rw [HZ.out.1, HZ.out.2]
    go_enter Try.func35, Try.ntmps35
    go_wp2_with fail
    refine (PA.out _).mono ?_
    rintro r u ⟨rfl, rfl⟩
    go_wp2_with fail
    go_ret2
    exact ⟨rfl, Below.refl _ _⟩
  · rw [h1] at PA
    have EA := Lib.hid (fun u => l08Each_any e u)
    have IA := Lib.hid (fun u => l00In_any t 0 6000 u)
    cases h2 : inB e 1 100
    · have HZ := Lib.hid (show pageZ s e t = ⟨#[]⟩ ∧ pageC s e t = 2 by simp [pageZ, pageC, h1, h2])
      rw [h2] at EA
      rw [HZ.out.1, HZ.out.2]
      go_enter Try.func35, Try.ntmps35
      go_wp2_with fail
      refine (PA.out _).mono ?_
      rintro r u ⟨rfl, rfl⟩
      go_wp2_with fail
      refine (EA.out _).mono ?_
      rintro r u2 ⟨rfl, rfl⟩
      go_wp2_with fail
      go_ret2
      exact ⟨rfl, Below.refl _ _⟩
    · rw [h2] at EA
      cases h3 : inB t 0 6000
      · have HZ := Lib.hid (show pageZ s e t = ⟨#[]⟩ ∧ pageC s e t = 2 by simp [pageZ, pageC, h1, h2, h3])
        rw [h3] at IA
        rw [HZ.out.1, HZ.out.2]
        go_enter Try.func35, Try.ntmps35
        go_wp2_with fail
        refine (PA.out _).mono ?_
        rintro r u ⟨rfl, rfl⟩
        go_wp2_with fail
        refine (EA.out _).mono ?_
        rintro r u2 ⟨rfl, rfl⟩
        go_wp2_with fail
        refine (IA.out _).mono ?_
        rintro r u3 ⟨rfl, rfl⟩
        go_wp2_with fail
        go_ret2
        exact ⟨rfl, Below.refl _ _⟩
      · rw [h3] at IA
        obtain ⟨e1, e2⟩ := inB_iff.1 h2
        obtain ⟨t1, t2⟩ := inB_iff.1 h3
        have hsz := posB_size h1
        have q0 : 0 ≤ t / e := Int.ediv_nonneg t1 (by omega)
        have q1 := Int.ediv_le_self e t1
        by_cases h4 : t / e < s.size
        · have HZ := Lib.hid (show pageZ s e t = pageT s (t / e).toNat ∧ pageC s e t = 0 by simp [pageZ, pageC, h1, h2, h3, h4])
          rw [HZ.out.1, HZ.out.2]
          have e0 : ¬ e = 0 := by omega
          clear h1 h2 h3
          obtain ⟨k, hk⟩ := Int.eq_ofNat_of_zero_le q0
          have hks : k < s.size := by omega
          have HP := Lib.hid (show s.extract k (k + 1) = pageT s (t / e).toNat by rw [hk]; rfl)
          go_enter Try.func35, Try.ntmps35
          go_wp2_with fail
          refine (PA.out _).mono ?_
          rintro r u ⟨rfl, rfl⟩
          go_wp2_with fail
          refine (EA.out _).mono ?_
          rintro r u2 ⟨rfl, rfl⟩
          go_wp2_with fail
          refine (IA.out _).mono ?_
          rintro r u3 ⟨rfl, rfl⟩
          go_wp2_with fail
          go_ret2
          exact ⟨by rw [← HP.out] <;> rfl, Below.refl _ _⟩
        · have HZ := Lib.hid (show pageZ s e t = ⟨#[]⟩ ∧ pageC s e t = 3 by simp [pageZ, pageC, h1, h2, h3, h4])
          rw [HZ.out.1, HZ.out.2]
          have e0 : ¬ e = 0 := by omega
          have h5 : (s.size : Int) ≤ t / e := by omega
          clear h1 h2 h3
          go_enter Try.func35, Try.ntmps35
          go_wp2_with fail
          refine (PA.out _).mono ?_
          rintro r u ⟨rfl, rfl⟩
          go_wp2_with fail
          refine (EA.out _).mono ?_
          rintro r u2 ⟨rfl, rfl⟩
          go_wp2_with fail
          refine (IA.out _).mono ?_
          rintro r u3 ⟨rfl, rfl⟩
          go_wp2_with fail
          go_ret2
          exact ⟨rfl, Below.refl _ _⟩

set_option maxHeartbeats 1000000 in
/-- impl.PageAt. -/
theorem implPageAt_any (s : ByteArray) (e t : Int) (w : World) (hs : s.size ≤ maxLen) :
    Calls Try.prog 24 #[.string s, .int .i64 e, .int .i64 t] w fun r w' => r = .returned (.tuple #[.string (pageZ s e t), .int .i64 (pageC s e t)]) ∧ Below w.heap.size w w' := by
  have PA := Lib.hid (fun u => arePages_any s u hs)
  cases h1 : posB s 60
  · have HZ := Lib.hid (show pageZ s e t = ⟨#[]⟩ ∧ pageC s e t = 1 by simp [pageZ, pageC, h1])
    rw [h1] at PA
    rw [HZ.out.1, HZ.out.2]
    go_enter Try.func24, Try.ntmps24
    go_wp2_with fail
    refine (PA.out _).mono ?_
    rintro r u ⟨rfl, hb⟩
    go_wp2_with fail
    go_ret2
    exact ⟨rfl, hb⟩
  · rw [h1] at PA
    have EA := Lib.hid (fun u => isPageTime_any e u)
    have IA := Lib.hid (fun u => isWithin_any t 0 6000 u)
    cases h2 : inB e 1 100
    · have HZ := Lib.hid (show pageZ s e t = ⟨#[]⟩ ∧ pageC s e t = 2 by simp [pageZ, pageC, h1, h2])
      rw [h2] at EA
      rw [HZ.out.1, HZ.out.2]
      go_enter Try.func24, Try.ntmps24
      go_wp2_with fail
      refine (PA.out _).mono ?_
      rintro r u ⟨rfl, hb⟩
      go_wp2_with fail
      refine (EA.out _).mono ?_
      rintro r u2 ⟨rfl, rfl⟩
      go_wp2_with fail
      go_ret2
      exact ⟨rfl, hb⟩
    · rw [h2] at EA
      cases h3 : inB t 0 6000
      · have HZ := Lib.hid (show pageZ s e t = ⟨#[]⟩ ∧ pageC s e t = 2 by simp [pageZ, pageC, h1, h2, h3])
        rw [h3] at IA
        rw [HZ.out.1, HZ.out.2]
        go_enter Try.func24, Try.ntmps24
        go_wp2_with fail
        refine (PA.out _).mono ?_
        rintro r u ⟨rfl, hb⟩
        go_wp2_with fail
        refine (EA.out _).mono ?_
        rintro r u2 ⟨rfl, rfl⟩
        go_wp2_with fail
        refine (IA.out _).mono ?_
        rintro r u3 ⟨rfl, rfl⟩
        go_wp2_with fail
        go_ret2
        exact ⟨rfl, hb⟩
      · rw [h3] at IA
        obtain ⟨e1, e2⟩ := inB_iff.1 h2
        obtain ⟨t1, t2⟩ := inB_iff.1 h3
        have hsz := posB_size h1
        have q0 : 0 ≤ t / e := Int.ediv_nonneg t1 (by omega)
        have q1 := Int.ediv_le_self e t1
        by_cases h4 : t / e < s.size
        · have HZ := Lib.hid (show pageZ s e t = pageT s (t / e).toNat ∧ pageC s e t = 0 by simp [pageZ, pageC, h1, h2, h3, h4])
          rw [HZ.out.1, HZ.out.2]
          have e0 : ¬ e = 0 := by omega
          clear h1 h2 h3
          obtain ⟨k, hk⟩ := Int.eq_ofNat_of_zero_le q0
          have hks : k < s.size := by omega
          have HP := Lib.hid (show s.extract k (k + 1) = pageT s (t / e).toNat by rw [hk]; rfl)
          go_enter Try.func24, Try.ntmps24
          go_wp2_with fail
          refine (PA.out _).mono ?_
          rintro r u ⟨rfl, hb⟩
          go_wp2_with fail
          refine (EA.out _).mono ?_
          rintro r u2 ⟨rfl, rfl⟩
          go_wp2_with fail
          refine (IA.out _).mono ?_
          rintro r u3 ⟨rfl, rfl⟩
          go_wp2_with fail
          go_ret2
          exact ⟨by rw [← HP.out] <;> rfl, hb⟩
        · have HZ := Lib.hid (show pageZ s e t = ⟨#[]⟩ ∧ pageC s e t = 3 by simp [pageZ, pageC, h1, h2, h3, h4])
          rw [HZ.out.1, HZ.out.2]
          have e0 : ¬ e = 0 := by omega
          have h5 : (s.size : Int) ≤ t / e := by omega
          clear h1 h2 h3
          go_enter Try.func24, Try.ntmps24
          go_wp2_with fail
          refine (PA.out _).mono ?_
          rintro r u ⟨rfl, hb⟩
          go_wp2_with fail
          refine (EA.out _).mono ?_
          rintro r u2 ⟨rfl, rfl⟩
          go_wp2_with fail
          refine (IA.out _).mono ?_
          rintro r u3 ⟨rfl, rfl⟩
          go_wp2_with fail
          go_ret2
          exact ⟨rfl, hb⟩

set_option maxHeartbeats 1000000 in
/-- laws.FnExactPageAt, out of contracts. -/
theorem lawPageAt_of (s0 : ByteArray) (n1 : Int) (n2 : Int) (z : ByteArray) (c : Int) (w : World) (hs0 : s0.size ≤ maxLen) (hl0 : ¬ 1048576 < s0.size)
    (hs : ∀ u : World, Calls Try.prog 35 #[.string s0, .int .i64 n1, .int .i64 n2] u fun e u' => e = .returned (.tuple #[.string z, .int .i64 c]) ∧ Below u.heap.size u u')
    (hi : ∀ u : World, Calls Try.prog 24 #[.string s0, .int .i64 n1, .int .i64 n2] u fun e u' => e = .returned (.tuple #[.string z, .int .i64 c]) ∧ Below u.heap.size u u') :
    Calls Try.prog 8 #[.string s0, .int .i64 n1, .int .i64 n2] w fun e w' => e = .returned (.bool true) ∧ Below w.heap.size w w' := by
  unfold maxLen at hs0
  have S := Lib.hid hs
  have I := Lib.hid hi
  clear hs hi
  go_enter Try.func8, Try.ntmps8
  go_wp2_with fail
  refine (S.out _).mono ?_
  rintro e u1 ⟨rfl, hb1⟩
  go_wp2_with fail
  refine (I.out _).mono ?_
  rintro e u2 ⟨rfl, hb2⟩
  go_wp2_with fail
  go_ret
  exact ⟨rfl, bTrans hb1 hb2⟩

/-- laws.FnExactPageAt, of what is too large to be looked at. -/
theorem lawPageAt_big0 (s0 : ByteArray) (n1 : Int) (n2 : Int) (w : World) (hs0 : s0.size ≤ maxLen)  (hb : 1048576 < s0.size) :
    Calls Try.prog 8 #[.string s0, .int .i64 n1, .int .i64 n2] w fun e w' => e = .returned (.bool true) ∧ Below w.heap.size w w' := by
  unfold maxLen at hs0
  go_enter Try.func8, Try.ntmps8
  go_wp2
  go_ret
  exact ⟨rfl, Below.refl _ _⟩


/-- laws.FnExactPageAt. -/
theorem law_PageAt (s : ByteArray) (e t : Int) (w : World) (hs : s.size ≤ maxLen) (_he : -9223372036854775808 ≤ e ∧ e ≤ 9223372036854775807) (_ht : -9223372036854775808 ≤ t ∧ t ≤ 9223372036854775807) :
    Calls Try.prog 8 #[.string s, .int .i64 e, .int .i64 t] w fun r w' => r = .returned (.bool true) ∧ Below w.heap.size w w' := by
  by_cases hl : 1048576 < s.size
  · exact lawPageAt_big0 s e t w hs hl
  · exact lawPageAt_of s e t _ _ w hs hl (fun u => specPageAt_any s e t u hs) (fun u => implPageAt_any s e t u hs)

end Go.Proofs.Ytibafngidpmgdab
