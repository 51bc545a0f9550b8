/- Drifts, pictures that stand still, and rates of pictures and of drifts: in the program and in the model; and the statements' own walks. -/
import Derived.Test.YtmgkoijnjhfinaaProg
import Derived.Test.YtmgkoijnjhfinaaDisc
import Derived.Test.YtmgkoijnjhfinaaTwo
import Derived.Deep.RegionWith
import Derived.Deep.DrawnRows
import Derived.Laws.StructEq
import Derived.Tactics
import Derived.Tactics2
import Derived.WalkKit
import Derived.LoopTactic
import Derived.BigQuiet
import Derived.RegionTactic
import Derived.BigRegion
import Derived.ChangeAlike
import Derived.Deep.QuietTactic
import Derived.Deep.RegionHeld3
import Derived.Deep.DeepCutAuto
import Derived.Outline
import Derived.Lib.Hide
import Derived.Below
import Derived.KernelRfl
namespace Go.Proofs.Ytmgkoijnjhfinaa
set_option linter.unusedSimpArgs false
set_option linter.unusedVariables false
open Go.RowKit

/-- A term of a fraction that no variable holds. -/
theorem field_num (n d : Int) (w : World) : (Instr.field 32 (fr n d) 0).run Try.prog w = .ok (.int .i64 n) w := by kernel_rfl
theorem field_den (n d : Int) (w : World) : (Instr.field 32 (fr n d) 1).run Try.prog w = .ok (.int .i64 d) w := by kernel_rfl

/-- The drift's terms. -/
def drN (p s : Int) : Int := (resid p s).tdiv (divI (resid p s) s)
def drD (p s : Int) : Int := s.tdiv (divI (resid p s) s)

theorem dr_bd {p s : Int} (h : discB p s = true) : -48 ≤ drN p s ∧ drN p s ≤ 48 ∧ 1 ≤ drD p s ∧ drD p s ≤ 48 := by
  obtain ⟨p1, p2, s1, s2⟩ := discB_bd h
  have hr := resid_bd p s1
  obtain ⟨t1, t2⟩ := tdivI_le (resid p s) s
  have hd : divI (resid p s) s = (Nat.gcd (resid p s).natAbs s.natAbs : Nat) := if_neg (by omega)
  obtain ⟨g1, g2⟩ := gcd_le_right' (resid p s).natAbs s.natAbs (by omega)
  have hpos : 1 ≤ s.tdiv (divI (resid p s) s) := by
    rw [hd]
    obtain ⟨k, hk⟩ := Nat.gcd_dvd_right (resid p s).natAbs s.natAbs
    have hs : s = (Nat.gcd (resid p s).natAbs s.natAbs : Nat) * (k : Int) := by
      rw [← Int.natCast_mul, ← hk]; omega
    generalize Nat.gcd (resid p s).natAbs s.natAbs = G at *
    have hk0 : k ≠ 0 := by rintro rfl; simp at hs; omega
    conv => rhs; rw [hs]
    rw [Int.mul_tdiv_cancel_left _ (by omega)]
    omega
  unfold drN drD
  omega

theorem drN_zero {p s : Int} (h : discB p s = true) : drN p s = 0 ↔ resid p s = 0 := by
  obtain ⟨p1, p2, s1, s2⟩ := discB_bd h
  have hd : divI (resid p s) s = (Nat.gcd (resid p s).natAbs s.natAbs : Nat) := if_neg (by omega)
  obtain ⟨g1, g2⟩ := gcd_le_right' (resid p s).natAbs s.natAbs (by omega)
  unfold drN
  rw [hd]
  obtain ⟨k, hk⟩ := Nat.gcd_dvd_left (resid p s).natAbs s.natAbs
  constructor
  · intro h0
    have hn := Int.natAbs_tdiv (resid p s) (Nat.gcd (resid p s).natAbs s.natAbs : Nat)
    rw [h0] at hn
    have h2 : (resid p s).natAbs.div (Nat.gcd (resid p s).natAbs s.natAbs) = (resid p s).natAbs / (Nat.gcd (resid p s).natAbs s.natAbs) := rfl
    rw [Int.natAbs_natCast] at hn
    have h3 : (resid p s).natAbs / (Nat.gcd (resid p s).natAbs s.natAbs) = 0 := by
      have : (0 : Int).natAbs = 0 := rfl
      omega
    have h4 := Nat.div_mul_cancel (Nat.gcd_dvd_left (resid p s).natAbs s.natAbs)
    rw [h3, Nat.zero_mul] at h4
    omega
  · intro h0
    rw [h0]
    exact Int.zero_tdiv _

theorem still_iff {p s : Int} (h : discB p s = true) : resid p s = 0 ↔ p % s = 0 := by
  obtain ⟨p1, p2, s1, s2⟩ := discB_bd h
  rw [resid_nonneg (by omega) s1]
  have h2 := Int.emod_nonneg p (show s ≠ 0 by omega)
  have h3 := Int.emod_lt_of_pos p (show 0 < s by omega)
  split <;> omega

/-- impl.driftOf. -/
theorem driftOf_dr (p s : Int) (w : World) (h : discB p s = true) :
    Calls Try.prog 56 #[.int .i64 p, .int .i64 s] w fun e w' => e = .returned (fr (drN p s) (drD p s)) ∧ Below w.heap.size w w' := driftOf_any p s w h

/-- spec.l03Drift. -/
theorem l03Drift_any (p s : Int) (w : World) (h : discB p s = true) :
    Calls Try.prog 60 #[.int .i64 p, .int .i64 s] w fun e w' => e = .returned (fr (drN p s) (drD p s)) ∧ Below w.heap.size w w' := by
  obtain ⟨p1, p2, s1, s2⟩ := discB_bd h
  clear h
  have hr := resid_nonneg (x := p) (by omega) s1
  have h2 := Int.emod_nonneg p (show s ≠ 0 by omega)
  have h3 := Int.emod_lt_of_pos p (show 0 < s by omega)
  have h0 : ¬ s = 0 := by omega
  have hb := resid_bd p s1
  unfold drN drD
  by_cases h4 : s < 2 * (p % s)
  · rw [if_pos h4] at hr
    rw [hr]
    go_enter Try.func60, Try.ntmps60
    go_wp2_with fail
    refine (l02Make_any _ _ _ (by omega) (by omega) (by omega) (by omega)).mono ?_
    rintro e u ⟨rfl, hb1⟩
    have B2 : Bk u w.heap.size 0 0 := bkOf hb1 (by refine ⟨?_, ?_, ?_, ?_, ?_⟩ <;> go_simp)
    obtain ⟨c2, c3, f2, f3, z2⟩ := B2
    go_wp2_with fail
    refine bodyPost_ret (v := _) (by simp [results, Try.results60, go_sem, c2, c3, z2, Nat.ne_of_lt z2]) rfl ⟨rfl, ?_⟩
    repeat (first | exact Below.refl _ _ | refine bSet ?_ (by first | (simp; done) | (simp; omega)) _ | refine bAlloc ?_ _ | refine Below.drew ?_ | refine bDrewN ?_ _ | refine bTrans ?_ hb1)
  · rw [if_neg h4] at hr
    rw [hr]
    go_enter Try.func60, Try.ntmps60
    go_wp2_with fail
    refine (l02Make_any _ _ _ (by omega) (by omega) (by omega) (by omega)).mono ?_
    rintro e u ⟨rfl, hb1⟩
    have B2 : Bk u w.heap.size 0 0 := bkOf hb1 (by refine ⟨?_, ?_, ?_, ?_, ?_⟩ <;> go_simp)
    obtain ⟨c2, c3, f2, f3, z2⟩ := B2
    go_wp2_with fail
    refine bodyPost_ret (v := _) (by simp [results, Try.results60, go_sem, c2, c3, z2, Nat.ne_of_lt z2]) rfl ⟨rfl, ?_⟩
    repeat (first | exact Below.refl _ _ | refine bSet ?_ (by first | (simp; done) | (simp; omega)) _ | refine bAlloc ?_ _ | refine Below.drew ?_ | refine bDrewN ?_ _ | refine bTrans ?_ hb1)

end Go.Proofs.Ytmgkoijnjhfinaa
