/- The exact tick of scenes, and the tick with the least error. -/
import Derived.Test.YtibafngidpmgdabScnTop
import Derived.IntWalk
import Derived.OwnWalk
import Derived.Tactics
import Derived.Tactics2
import Derived.WalkKit
import Derived.LoopTactic
import Derived.BigQuiet
import Derived.RegionTactic
import Derived.Deep.QuietTactic
import Derived.Outline
import Derived.Lib.Hide
import Derived.Below
import Derived.KernelRfl
namespace Go.Proofs.Ytibafngidpmgdab
set_option linter.unusedSimpArgs false
set_option linter.unusedVariables false
open Go.RowKit

/-- The greatest common divisor of all ticks. -/
def gcdL (l : List Scn) : Nat := l.foldl (fun g x => Nat.gcd g x.2.toNat) 0
theorem gcdL_take (ps : List Scn) (j : Nat) (h : j < ps.length) : gcdL (ps.take (j + 1)) = Nat.gcd (gcdL (ps.take j)) (ps.getD j s0).2.toNat := by
  rw [take_snocC ps j h, gcdL, List.foldl_append]
  rfl
/-- The greatest number up to e that divides g. -/
def downT (g : Nat) : Nat → Nat
  | 0 => 0
  | e + 1 => if g % (e + 1) = 0 then e + 1 else downT g e
theorem downT_le (g : Nat) : ∀ e, downT g e ≤ e
  | 0 => Nat.le_refl _
  | e + 1 => by
    rw [downT]
    split
    · exact Nat.le_refl _
    · exact Nat.le_trans (downT_le g e) (Nat.le_succ _)
theorem downT_one (g : Nat) : ∀ e, 1 ≤ e → 1 ≤ downT g e
  | 0, h => absurd h (by omega)
  | e + 1, _ => by
    rw [downT]
    split
    · omega
    · rename_i hne
      cases e with
      | zero => exact absurd (Nat.mod_one g) hne
      | succ e => exact downT_one g (e + 1) (by omega)
theorem downT_dvd (g : Nat) : ∀ e, 1 ≤ e → g % downT g e = 0
  | 0, h => absurd h (by omega)
  | e + 1, _ => by
    rw [downT]
    split
    · assumption
    · rename_i hne
      cases e with
      | zero => exact absurd (Nat.mod_one g) hne
      | succ e => exact downT_dvd g (e + 1) (by omega)
/-- The exact tick. -/
def exactN (ps : List Scn) : Nat := downT (gcdL ps) (min (gcdL ps) 100)
theorem gcdL_bd {ps : List Scn} (h : TicksIn ps ps.length) : ∀ i, i ≤ ps.length → gcdL (ps.take i) ≤ 1000 ∧ (0 < i → 1 ≤ gcdL (ps.take i))
  | 0, _ => by simp [gcdL]
  | i + 1, hi => by
    obtain ⟨h1, h2⟩ := gcdL_bd h i (by omega)
    have h3 := h i (by omega)
    rw [gcdL_take ps i (by omega)]
    have h4 := Nat.gcd_le_right (gcdL (ps.take i)) (show 0 < (ps.getD i s0).2.toNat by omega)
    have h5 := Nat.gcd_pos_of_pos_right (gcdL (ps.take i)) (show 0 < (ps.getD i s0).2.toNat by omega)
    omega

set_option maxHeartbeats 1000000 in
set_option maxRecDepth 100000 in
/-- spec.ExactTick. -/
theorem specExact_yes (A : Option Addr) (n c : Nat) (ps : List Scn) (w : World) (hv : RdC w A n ps) (hm : Sizes ps n) (h : scnsB ps = true) :
    Calls Try.prog 36 #[.slice A n c] w fun e w' => e = .returned (.tuple #[.int .i64 (exactN ps : Nat), .int .i64 0]) ∧ Below w.heap.size w w' := by
  have OK := Lib.hid (fun u h => l08Ok_any A n c ps u h hm)
  rw [h] at OK
  have hl := hv.1
  have hl2 := scnsB_len h
  have ht := ticksIn h
  have BD := Lib.hid (fun i (hi : i ≤ n) => gcdL_bd ht i (by omega))
  have HS := Lib.hid (fun k (hk : k < n) => gcdL_take ps k (by omega))
  have HT := Lib.hid (show TicksIn ps n by rw [← hl]; exact ht)
  have HA := Lib.hid (show ps.take n = ps from List.take_of_length_le (by omega))
  have hn1 : 1 ≤ n := by omega
  have HV := Lib.hid hv
  clear hv hm hl hl2 ht
  go_enter Try.func36, Try.ntmps36
  go_wp2_with fail
  refine (OK.out _ HV.out).mono ?_
  rintro r u0 ⟨rfl, hb0⟩
  have HV2 := Lib.hid (HV.out.below hb0)
  have HB0 := Lib.hid hb0
  clear hb0
  go_wp2
  go_loop [5, 4] (fun i s => ∃ k : Nat, k ≤ n ∧ i = .int .i64 k ∧ s = .int .i64 ((gcdL (ps.take k) : Nat) : Int)) (fun i _ => n - (intOf i).toNat)
  case atStart => exact ⟨0, Nat.zero_le _, rfl, by simp [gcdL]⟩
  case round =>
    obtain ⟨k, hk, rfl, rfl⟩ := hrel
    by_cases hlt : k < n
    · obtain ⟨_, _, h3⟩ := HV2.out
      rcases h3 with h0 | ⟨g, rfl, hg, h3⟩
      · omega
      obtain ⟨c0, c1⟩ := h3 k hlt
      obtain ⟨t1, t2⟩ := HT.out k hlt
      obtain ⟨s1, s2⟩ := BD.out k hk
      have HSk := Lib.hid (HS.out k hlt)
      clear h3
      generalize ps.getD k Go.Proofs.Ytibafngidpmgdab.s0 = q at *
      obtain ⟨x, y⟩ := q
      simp only at c0 c1 t1 t2 HSk
      obtain ⟨z, rfl⟩ := Int.eq_ofNat_of_zero_le (show 0 ≤ y by omega)
      rw [Int.toNat_natCast] at HSk
      have G := Lib.hid (fun u => l00Gcd_any (gcdL (ps.take k)) z u (by omega) (by omega))
      rw [← HSk.out] at G
      generalize gcdL (ps.take k) = S at *
      go_wp2_with fail
      refine (G.out _).mono ?_
      rintro r u ⟨rfl, rfl⟩
      go_wp2
      go_round
      case rel => exact ⟨k + 1, by omega, by go_num, rfl⟩
      case measure => simp [intOf]; omega
    · have : k = n := by omega
      subst this
      obtain ⟨s1, s2⟩ := BD.out k (Nat.le_refl _)
      have s2 := s2 hn1
      rw [HA.out] at s1 s2 ⊢
      have HE := Lib.hid (show exactN ps = downT (gcdL ps) (min (gcdL ps) 100) from rfl)
      generalize gcdL ps = G at *
      go_wp2_with fail
      refine (l00Min_any _ _ _).mono ?_
      rintro r u ⟨rfl, rfl⟩
      obtain ⟨M, hM, hM2, hM3⟩ : ∃ M : Nat, min (G : Int) 100 = M ∧ 1 ≤ M ∧ min G 100 = M := ⟨min G 100, by omega, by omega, rfl⟩
      have hM4 : M ≤ 100 := by omega
      rw [hM]
      rw [hM3] at HE
      clear hM hM3
      go_wp2
      go_loop [6] (fun i => ∃ k : Nat, 1 ≤ k ∧ k ≤ 100 ∧ i = .int .i64 k ∧ Hid (downT G k = exactN ps)) (fun i => (intOf i).toNat)
      case atStart => exact ⟨M, hM2, hM4, rfl, Lib.hid HE.out.symm⟩
      case round =>
        obtain ⟨k, hk1, hk2, rfl, HK⟩ := hrel
        have k0 : ¬ k = 0 := by omega
        have k0' : ¬ (k : Int) = 0 := by omega
        by_cases hz : G % k = 0
        · have hzb : (((G : Int) % (k : Int)) != 0) = false := by rw [← Int.natCast_emod, hz]; rfl
          have HR := Lib.hid (show k = exactN ps by
            obtain ⟨j, rfl⟩ : ∃ j, k = j + 1 := ⟨k - 1, by omega⟩
            rw [← HK.out, downT, if_pos hz])
          clear hz
          go_wp2
          go_ret2
          exact ⟨by rw [← HR.out] <;> rfl, HB0.out⟩
        · have hzb : (((G : Int) % (k : Int)) != 0) = true := by rw [← Int.natCast_emod, bne_iff_ne]; omega
          obtain ⟨j, hkj⟩ : ∃ j, k = j + 1 := ⟨k - 1, by omega⟩
          have HR := Lib.hid (show downT G j = exactN ps by
            subst hkj
            rw [← HK.out, downT, if_neg hz])
          have HJ := Lib.hid (show (k : Int) - 1 = (j : Int) by omega)
          have hj : 1 ≤ j := by
            rcases Nat.eq_zero_or_pos j with h0 | h0
            · subst h0
              subst hkj
              exact absurd (Nat.mod_one G) hz
            · exact h0
          have hj2 : j ≤ 100 := by omega
          have hj3 : j < k := by omega
          clear hkj
          clear hz
          go_wp2
          go_round
          case rel => exact ⟨j, hj, hj2, by rw [HJ.out], HR⟩
          case measure =>
            have := HJ.out
            simp [intOf]
            omega

set_option maxHeartbeats 1000000 in
set_option maxRecDepth 100000 in
/-- impl.ExactTick. -/
theorem implExact_yes (A : Option Addr) (n c : Nat) (ps : List Scn) (w : World) (hv : RdC w A n ps) (hm : Sizes ps n) (h : scnsB ps = true) :
    Calls Try.prog 17 #[.slice A n c] w fun e w' => e = .returned (.tuple #[.int .i64 (exactN ps : Nat), .int .i64 0]) ∧ Below w.heap.size w w' := by
  have OK := Lib.hid (fun u h => validScenes_any A n c ps u h hm)
  rw [h] at OK
  have hl := hv.1
  have hl2 := scnsB_len h
  have ht := ticksIn h
  have BD := Lib.hid (fun i (hi : i ≤ n) => gcdL_bd ht i (by omega))
  have HS := Lib.hid (fun k (hk : k < n) => gcdL_take ps k (by omega))
  have HT := Lib.hid (show TicksIn ps n by rw [← hl]; exact ht)
  have HA := Lib.hid (show ps.take n = ps from List.take_of_length_le (by omega))
  have hn1 : 1 ≤ n := by omega
  have HV := Lib.hid hv
  clear hv hm hl hl2 ht
  go_enter Try.func17, Try.ntmps17
  go_wp2_with fail
  refine (OK.out _ HV.out).mono ?_
  rintro r u0 ⟨rfl, hb0⟩
  have HV2 := Lib.hid (HV.out.below hb0)
  have HB0 := Lib.hid hb0
  clear hb0
  go_wp2
  go_loopw [13, 4] (fun i s wr => ∃ k : Nat, k ≤ n ∧ i = .int .i64 k ∧ s = .int .i64 ((gcdL (ps.take k) : Nat) : Int) ∧ Hid (Below u0.heap.size u0 wr)) (fun i _ _ => n - (intOf i).toNat)
  case atStart => exact ⟨0, Nat.zero_le _, rfl, by simp [gcdL], Lib.hid (Below.refl _ _)⟩
  case round =>
    obtain ⟨k, hk, rfl, rfl, HB⟩ := hrel
    by_cases hlt : k < n
    · obtain ⟨_, _, h3⟩ := HV2.out.below HB.out
      rcases h3 with h0 | ⟨g, rfl, hg, h3⟩
      · omega
      obtain ⟨c0, c1⟩ := h3 k hlt
      obtain ⟨t1, t2⟩ := HT.out k hlt
      obtain ⟨s1, s2⟩ := BD.out k hk
      have HSk := Lib.hid (HS.out k hlt)
      clear h3
      generalize ps.getD k Go.Proofs.Ytibafngidpmgdab.s0 = q at *
      obtain ⟨x, y⟩ := q
      simp only at c0 c1 t1 t2 HSk
      obtain ⟨z, rfl⟩ := Int.eq_ofNat_of_zero_le (show 0 ≤ y by omega)
      rw [Int.toNat_natCast] at HSk
      have G := Lib.hid (fun u => greatestDivisor_any (gcdL (ps.take k)) z u (by omega) (by omega))
      rw [← HSk.out] at G
      generalize gcdL (ps.take k) = S at *
      go_wp2_with fail
      refine (G.out _).mono ?_
      rintro r u ⟨rfl, m, rfl⟩
      go_wp2
      go_roundw
      case rel => exact ⟨k + 1, by omega, by go_num, rfl, Lib.hid (bDrewN (bAlloc HB.out _) _)⟩
      case measure => simp [intOf]; omega
    · have : k = n := by omega
      subst this
      obtain ⟨s1, s2⟩ := BD.out k (Nat.le_refl _)
      have s2 := s2 hn1
      rw [HA.out] at s1 s2 ⊢
      have HE := Lib.hid (show exactN ps = downT (gcdL ps) (min (gcdL ps) 100) from rfl)
      generalize gcdL ps = G at *
      obtain ⟨M, hM2, hM3⟩ : ∃ M : Nat, 1 ≤ M ∧ min G 100 = M := ⟨min G 100, by omega, rfl⟩
      have hM4 : M ≤ 100 := by omega
      have hmin : ∀ (ts : Array TypeId) (t : TypeId) (W : World), (Builtin.min_ ts t #[.int .i64 (G : Int), .int .i64 100]).run Try.prog W = .ok (.int .i64 (M : Int)) W := fun ts t W => by
        simp [Builtin.min_, Builtin.min2]
        omega
      rw [hM3] at HE
      clear hM3
      go_wp2
      go_loop [7] (fun i => ∃ k : Nat, 1 ≤ k ∧ k ≤ 100 ∧ i = .int .i64 k ∧ Hid (downT G k = exactN ps)) (fun i => (intOf i).toNat)
      case atStart => exact ⟨M, hM2, hM4, rfl, Lib.hid HE.out.symm⟩
      case round =>
        obtain ⟨k, hk1, hk2, rfl, HK⟩ := hrel
        have k0 : ¬ k = 0 := by omega
        have k0' : ¬ (k : Int) = 0 := by omega
        clear hmin
        by_cases hz : G % k = 0
        · have hzb : (((G : Int) % (k : Int)) != 0) = false := by rw [← Int.natCast_emod, hz]; rfl
          have HR := Lib.hid (show k = exactN ps by
            obtain ⟨j, rfl⟩ : ∃ j, k = j + 1 := ⟨k - 1, by omega⟩
            rw [← HK.out, downT, if_pos hz])
          clear hz
          go_wp2
          go_ret2
          exact ⟨by rw [← HR.out] <;> rfl, bTrans HB0.out HB.out⟩
        · have hzb : (((G : Int) % (k : Int)) != 0) = true := by rw [← Int.natCast_emod, bne_iff_ne]; omega
          obtain ⟨j, hkj⟩ : ∃ j, k = j + 1 := ⟨k - 1, by omega⟩
          have HR := Lib.hid (show downT G j = exactN ps by
            subst hkj
            rw [← HK.out, downT, if_neg hz])
          have HJ := Lib.hid (show (k : Int) - 1 = (j : Int) by omega)
          have hj : 1 ≤ j := by
            rcases Nat.eq_zero_or_pos j with h0 | h0
            · subst h0
              subst hkj
              exact absurd (Nat.mod_one G) hz
            · exact h0
          have hj2 : j ≤ 100 := by omega
          have hj3 : j < k := by omega
          clear hkj
          clear hz
          go_wp2
          go_round
          case rel => exact ⟨j, hj, hj2, by rw [HJ.out], HR⟩
          case measure =>
            have := HJ.out
            simp [intOf]
            omega

/-- spec.ExactTick, of what is not valid. -/
theorem specExact_no (A : Option Addr) (n c : Nat) (ps : List Scn) (w : World) (hv : RdC w A n ps) (hm : Sizes ps n) (h : scnsB ps = false) :
    Calls Try.prog 36 #[.slice A n c] w fun e w' => e = .returned (.tuple #[.int .i64 0, .int .i64 1]) ∧ Below w.heap.size w w' := by
  have OK := Lib.hid (fun u h => l08Ok_any A n c ps u h hm)
  rw [h] at OK
  have HV := Lib.hid hv
  clear hv hm
  go_enter Try.func36, Try.ntmps36
  go_wp2_with fail
  refine (OK.out _ HV.out).mono ?_
  rintro r u ⟨rfl, hb⟩
  go_wp2_with fail
  go_ret2
  exact ⟨rfl, hb⟩

/-- impl.ExactTick, of what is not valid. -/
theorem implExact_no (A : Option Addr) (n c : Nat) (ps : List Scn) (w : World) (hv : RdC w A n ps) (hm : Sizes ps n) (h : scnsB ps = false) :
    Calls Try.prog 17 #[.slice A n c] w fun e w' => e = .returned (.tuple #[.int .i64 0, .int .i64 1]) ∧ Below w.heap.size w w' := by
  have OK := Lib.hid (fun u h => validScenes_any A n c ps u h hm)
  rw [h] at OK
  have HV := Lib.hid hv
  clear hv hm
  go_enter Try.func17, Try.ntmps17
  go_wp2_with fail
  refine (OK.out _ HV.out).mono ?_
  rintro r u ⟨rfl, hb⟩
  go_wp2_with fail
  go_ret2
  exact ⟨rfl, hb⟩

/-- laws.FnExactExactTick. -/
theorem law_ExactTick (A : Option Addr) (n c : Nat) (d : List Scn) (w : World) (hp : CRow w A n d) :
    Calls Try.prog 9 #[.slice A n c] w fun e w' => e = .returned (.bool true) ∧ Below w.heap.size w w' := by
  by_cases ht : n + totC d ≤ 1048576
  · cases h : scnsB d
    · exact lawExactTick_of A n c d 0 1 w hp ht (fun E f u hu => specExact_no E n f d u hu hp.2.2.1 h) (fun E f u hu => implExact_no E n f d u hu hp.2.2.1 h)
    · exact lawExactTick_of A n c d (exactN d : Nat) 0 w hp ht (fun E f u hu => specExact_yes E n f d u hu hp.2.2.1 h) (fun E f u hu => implExact_yes E n f d u hu hp.2.2.1 h)
  · exact lawExactTick_big A n c d w hp ht

end Go.Proofs.Ytibafngidpmgdab
