/- The number of ticks with the least error. -/
import Derived.Test.YtibafngidpmgdabTick
import Derived.IntWalk
import Derived.OwnWalk
import Derived.Tactics
import Derived.Tactics2
import Derived.WalkKit
import Derived.LoopTactic
import Derived.BigQuiet
import Derived.RegionTactic
import Derived.Deep.QuietTactic
import Derived.Outline
import Derived.Lib.Hide
import Derived.Below
import Derived.KernelRfl
namespace Go.Proofs.Ytibafngidpmgdab
set_option linter.unusedSimpArgs false
set_option linter.unusedVariables false
open Go.RowKit

/-- The best number of ticks up to k, and its error. -/
def bestS (ps : List Scn) (most : Int) : Nat → Int × Int
  | 0 => (0, 0)
  | k + 1 => if most < pagesN ((k : Int) + 1) ps then bestS ps most k else if (bestS ps most k).1 = 0 ∨ wrongN ((k : Int) + 1) ps ≤ (bestS ps most k).2 then ((k : Int) + 1, wrongN ((k : Int) + 1) ps) else bestS ps most k
theorem bestS_skip {ps : List Scn} {most : Int} {k : Nat} (h : most < pagesN ((k : Int) + 1) ps) : bestS ps most (k + 1) = bestS ps most k := by rw [bestS, if_pos h]
theorem bestS_take {ps : List Scn} {most : Int} {k : Nat} (h : ¬ most < pagesN ((k : Int) + 1) ps) (h2 : (bestS ps most k).1 = 0 ∨ wrongN ((k : Int) + 1) ps ≤ (bestS ps most k).2) : bestS ps most (k + 1) = ((k : Int) + 1, wrongN ((k : Int) + 1) ps) := by rw [bestS, if_neg h, if_pos h2]
theorem bestS_keep {ps : List Scn} {most : Int} {k : Nat} (h : ¬ most < pagesN ((k : Int) + 1) ps) (h2 : ¬ ((bestS ps most k).1 = 0 ∨ wrongN ((k : Int) + 1) ps ≤ (bestS ps most k).2)) : bestS ps most (k + 1) = bestS ps most k := by rw [bestS, if_neg h, if_neg h2]
theorem bestS_bd {ps : List Scn} {most : Int} (h : TicksIn ps ps.length) (hl : ps.length ≤ 12) : ∀ k, k ≤ 100 → 0 ≤ (bestS ps most k).1 ∧ (bestS ps most k).1 ≤ k ∧ 0 ≤ (bestS ps most k).2 ∧ (bestS ps most k).2 ≤ 1200000
  | 0, _ => by simp [bestS]
  | k + 1, hk => by
    obtain ⟨h1, h2, h3, h4⟩ := bestS_bd (most := most) h hl k (by omega)
    have h5 := wrong_bd h hl (e := (k : Int) + 1) (by omega) (by omega) ps.length
    rw [List.take_length] at h5
    rw [bestS]
    split
    · omega
    · split
      · exact ⟨by omega, by simp, h5.1, h5.2⟩
      · omega
/-- What the best tick is. -/
def bestV (ps : List Scn) (most : Int) : Int × Int × Int := if scnsB ps = true then (if inB most 1 60 = true then (if (bestS ps most 100).1 = 0 then (0, 0, 3) else ((bestS ps most 100).1, (bestS ps most 100).2, 0)) else (0, 0, 2)) else (0, 0, 1)

set_option maxHeartbeats 1000000 in
/-- spec.BestTick, of what is not in order. -/
theorem specBest_no (A : Option Addr) (n c : Nat) (ps : List Scn) (most : Int) (w : World) (hv : RdC w A n ps) (hm : Sizes ps n) (h : scnsB ps = false ∨ inB most 1 60 = false) :
    Calls Try.prog 39 #[.slice A n c, .int .i64 most] w fun e w' => e = .returned (.tuple #[.int .i64 (bestV ps most).1, .int .i64 (bestV ps most).2.1, .int .i64 (bestV ps most).2.2]) ∧ Below w.heap.size w w' := by
  have OK := Lib.hid (fun u h => l08Ok_any A n c ps u h hm)
  have HV := Lib.hid hv
  clear hv hm
  cases h1 : scnsB ps
  · have HZ := Lib.hid (show bestV ps most = (0, 0, 1) by simp [bestV, h1])
    rw [h1] at OK
    rw [HZ.out]
    go_enter Try.func39, Try.ntmps39
    go_wp2_with fail
    refine (OK.out _ HV.out).mono ?_
    rintro r u ⟨rfl, hb⟩
    go_wp2_with fail
    go_ret3
    exact ⟨rfl, hb⟩
  · have h2 : inB most 1 60 = false := h.resolve_left (by rw [h1]; simp)
    have HZ := Lib.hid (show bestV ps most = (0, 0, 2) by simp [bestV, h1, h2])
    have IA := Lib.hid (fun u => l00In_any most 1 60 u)
    rw [h1] at OK
    rw [h2] at IA
    rw [HZ.out]
    go_enter Try.func39, Try.ntmps39
    go_wp2_with fail
    refine (OK.out _ HV.out).mono ?_
    rintro r u ⟨rfl, hb⟩
    go_wp2_with fail
    refine (IA.out _).mono ?_
    rintro r u2 ⟨rfl, rfl⟩
    go_wp2_with fail
    go_ret3
    exact ⟨rfl, hb⟩

set_option maxHeartbeats 2000000 in
set_option maxRecDepth 100000 in
/-- spec.BestTick. -/
theorem specBest_yes (A : Option Addr) (n c : Nat) (ps : List Scn) (most : Int) (w : World) (hv : RdC w A n ps) (hm : Sizes ps n) (h1 : scnsB ps = true) (h2 : inB most 1 60 = true) :
    Calls Try.prog 39 #[.slice A n c, .int .i64 most] w fun e w' => e = .returned (.tuple #[.int .i64 (bestV ps most).1, .int .i64 (bestV ps most).2.1, .int .i64 (bestV ps most).2.2]) ∧ Below w.heap.size w w' := by
  have OK := Lib.hid (fun u h => l08Ok_any A n c ps u h hm)
  have IA := Lib.hid (fun u => l00In_any most 1 60 u)
  rw [h1] at OK
  rw [h2] at IA
  have hl := hv.1
  have hl2 := scnsB_len h1
  have ht := ticksIn h1
  have BD := Lib.hid (fun k hk => bestS_bd (most := most) ht hl2.2 k hk)
  have HT := Lib.hid (show TicksIn ps n by rw [← hl]; exact ht)
  have HV := Lib.hid hv
  have HQ := Lib.hid (show bestV ps most = if (bestS ps most 100).1 = 0 then (0, 0, 3) else ((bestS ps most 100).1, (bestS ps most 100).2, 0) by simp [bestV, h1, h2])
  have MA := Lib.hid (fun e (e1 : 1 ≤ e) (e2 : e ≤ 100) u hu => l08Many_any A n c ps e u hu HT.out (by omega) e1 e2)
  have ER := Lib.hid (fun e (e1 : 1 ≤ e) (e2 : e ≤ 100) u hu => l08Error_any A n c ps e u hu HT.out (by omega) e1 e2)
  clear hv hm hl hl2 ht h1 h2
  go_enter Try.func39, Try.ntmps39
  go_wp2_with fail
  refine (OK.out _ HV.out).mono ?_
  rintro r u ⟨rfl, hb⟩
  have HV2 := Lib.hid (HV.out.below hb)
  have HB := Lib.hid hb
  clear hb
  go_wp2_with fail
  refine (IA.out _).mono ?_
  rintro r u2 ⟨rfl, rfl⟩
  go_wp2_with fail
  go_loopw [9, 7, 8] (fun i b l wr => ∃ k : Nat, k ≤ 100 ∧ i = .int .i64 ((k : Int) + 1) ∧ b = .int .i64 (bestS ps most k).1 ∧ l = .int .i64 (bestS ps most k).2 ∧ Hid (Below u.heap.size u wr)) (fun i _ _ _ => 101 - (intOf i).toNat)
  case atStart => exact ⟨0, Nat.zero_le _, rfl, rfl, rfl, Lib.hid (Below.refl _ _)⟩
  case round =>
    obtain ⟨k, hk, rfl, rfl, rfl, HB2⟩ := hrel
    obtain ⟨b1, b2, b3, b4⟩ := BD.out k hk
    by_cases hlt : k < 100
    · have HV3 := Lib.hid (HV2.out.below HB2.out)
      have MAk := Lib.hid (MA.out ((k : Int) + 1) (by omega) (by omega))
      have ERk := Lib.hid (ER.out ((k : Int) + 1) (by omega) (by omega))
      by_cases hp : most < pagesN ((k : Int) + 1) ps
      · have HS := Lib.hid (bestS_skip hp)
        generalize pagesN ((k : Int) + 1) ps = P at *
        go_wp2_with fail
        refine (MAk.out _ HV3.out).mono ?_
        rintro r v1 ⟨rfl, hv1⟩
        have HV4 := Lib.hid (HV3.out.below hv1)
        have HB4 := Lib.hid (bTrans HB2.out hv1)
        clear hv1
        go_wp2
        go_roundw
        case rel => exact ⟨k + 1, by omega, by go_num, by rw [HS.out], by rw [HS.out], HB4⟩
        case measure => simp [intOf]; omega
      · by_cases hb : (bestS ps most k).1 = 0 ∨ wrongN ((k : Int) + 1) ps ≤ (bestS ps most k).2
        · have HS := Lib.hid (bestS_take hp hb)
          generalize pagesN ((k : Int) + 1) ps = P at *
          generalize wrongN ((k : Int) + 1) ps = Z at *
          generalize (bestS ps most k).1 = b at *
          generalize (bestS ps most k).2 = l at *
          by_cases hb1 : b = 0
          · subst hb1
            clear hb
            go_wp2_with fail
            refine (MAk.out _ HV3.out).mono ?_
            rintro r v1 ⟨rfl, hv1⟩
            have HV4 := Lib.hid (HV3.out.below hv1)
            have HB4 := Lib.hid (bTrans HB2.out hv1)
            clear hv1
            go_wp2_with fail
            refine (ERk.out _ HV4.out).mono ?_
            rintro r v2 ⟨rfl, hv2⟩
            have HB5 := Lib.hid (bTrans HB4.out hv2)
            clear hv2
            go_wp2
            go_roundw
            case rel => exact ⟨k + 1, by omega, by go_num, by rw [HS.out], by rw [HS.out], HB5⟩
            case measure => simp [intOf]; omega
          · have hb0 : (b == 0) = false := beq_eq_false_iff_ne.2 hb1
            have hb2 : Z ≤ l := hb.resolve_left hb1
            clear hb hb1
            go_wp2_with fail
            refine (MAk.out _ HV3.out).mono ?_
            rintro r v1 ⟨rfl, hv1⟩
            have HV4 := Lib.hid (HV3.out.below hv1)
            have HB4 := Lib.hid (bTrans HB2.out hv1)
            clear hv1
            go_wp2_with fail
            refine (ERk.out _ HV4.out).mono ?_
            rintro r v2 ⟨rfl, hv2⟩
            have HB5 := Lib.hid (bTrans HB4.out hv2)
            clear hv2
            go_wp2
            go_roundw
            case rel => exact ⟨k + 1, by omega, by go_num, by rw [HS.out], by rw [HS.out], HB5⟩
            case measure => simp [intOf]; omega
        · have HS := Lib.hid (bestS_keep hp hb)
          have hb0 : ((bestS ps most k).1 == 0) = false := beq_eq_false_iff_ne.2 (fun e => hb (.inl e))
          have hb2 : ¬ wrongN ((k : Int) + 1) ps ≤ (bestS ps most k).2 := fun e => hb (.inr e)
          clear hb
          generalize pagesN ((k : Int) + 1) ps = P at *
          generalize wrongN ((k : Int) + 1) ps = Z at *
          go_wp2_with fail
          refine (MAk.out _ HV3.out).mono ?_
          rintro r v1 ⟨rfl, hv1⟩
          have HV4 := Lib.hid (HV3.out.below hv1)
          have HB4 := Lib.hid (bTrans HB2.out hv1)
          clear hv1
          go_wp2_with fail
          refine (ERk.out _ HV4.out).mono ?_
          rintro r v2 ⟨rfl, hv2⟩
          have HB5 := Lib.hid (bTrans HB4.out hv2)
          clear hv2
          go_wp2
          go_roundw
          case rel => exact ⟨k + 1, by omega, by go_num, by rw [HS.out], by rw [HS.out], HB5⟩
          case measure => simp [intOf]; omega
    · have hk2 : k = 100 := by omega
      subst hk2
      by_cases hz : (bestS ps most 100).1 = 0
      · have HZ := Lib.hid (show bestV ps most = (0, 0, 3) by rw [HQ.out, if_pos hz])
        rw [hz]
        clear hz b1 b2 b3 b4
        go_wp2
        go_ret3
        exact ⟨by rw [HZ.out] <;> rfl, bTrans HB.out HB2.out⟩
      · have HZ := Lib.hid (show bestV ps most = ((bestS ps most 100).1, (bestS ps most 100).2, 0) by rw [HQ.out, if_neg hz])
        have hb0 : ((bestS ps most 100).1 == 0) = false := beq_eq_false_iff_ne.2 hz
        clear hz b1 b2 b3 b4
        go_wp2
        go_ret3
        exact ⟨by rw [HZ.out] <;> rfl, bTrans HB.out HB2.out⟩

set_option maxHeartbeats 1000000 in
/-- impl.BestTick, of what is not in order. -/
theorem implBest_no (A : Option Addr) (n c : Nat) (ps : List Scn) (most : Int) (w : World) (hv : RdC w A n ps) (hm : Sizes ps n) (h : scnsB ps = false ∨ inB most 1 60 = false) :
    Calls Try.prog 25 #[.slice A n c, .int .i64 most] w fun e w' => e = .returned (.tuple #[.int .i64 (bestV ps most).1, .int .i64 (bestV ps most).2.1, .int .i64 (bestV ps most).2.2]) ∧ Below w.heap.size w w' := by
  have OK := Lib.hid (fun u h => validScenes_any A n c ps u h hm)
  have HV := Lib.hid hv
  clear hv hm
  cases h1 : scnsB ps
  · have HZ := Lib.hid (show bestV ps most = (0, 0, 1) by simp [bestV, h1])
    rw [h1] at OK
    rw [HZ.out]
    go_enter Try.func25, Try.ntmps25
    go_wp2_with fail
    refine (OK.out _ HV.out).mono ?_
    rintro r u ⟨rfl, hb⟩
    go_wp2_with fail
    go_ret3
    exact ⟨rfl, hb⟩
  · have h2 : inB most 1 60 = false := h.resolve_left (by rw [h1]; simp)
    have HZ := Lib.hid (show bestV ps most = (0, 0, 2) by simp [bestV, h1, h2])
    have IA := Lib.hid (fun u => isWithin_any most 1 60 u)
    rw [h1] at OK
    rw [h2] at IA
    rw [HZ.out]
    go_enter Try.func25, Try.ntmps25
    go_wp2_with fail
    refine (OK.out _ HV.out).mono ?_
    rintro r u ⟨rfl, hb⟩
    go_wp2_with fail
    refine (IA.out _).mono ?_
    rintro r u2 ⟨rfl, rfl⟩
    go_wp2_with fail
    go_ret3
    exact ⟨rfl, hb⟩

set_option maxHeartbeats 2000000 in
set_option maxRecDepth 100000 in
/-- impl.BestTick. -/
theorem implBest_yes (A : Option Addr) (n c : Nat) (ps : List Scn) (most : Int) (w : World) (hv : RdC w A n ps) (hm : Sizes ps n) (h1 : scnsB ps = true) (h2 : inB most 1 60 = true) :
    Calls Try.prog 25 #[.slice A n c, .int .i64 most] w fun e w' => e = .returned (.tuple #[.int .i64 (bestV ps most).1, .int .i64 (bestV ps most).2.1, .int .i64 (bestV ps most).2.2]) ∧ Below w.heap.size w w' := by
  have OK := Lib.hid (fun u h => validScenes_any A n c ps u h hm)
  have IA := Lib.hid (fun u => isWithin_any most 1 60 u)
  rw [h1] at OK
  rw [h2] at IA
  have hl := hv.1
  have hl2 := scnsB_len h1
  have ht := ticksIn h1
  have BD := Lib.hid (fun k hk => bestS_bd (most := most) ht hl2.2 k hk)
  have HT := Lib.hid (show TicksIn ps n by rw [← hl]; exact ht)
  have HV := Lib.hid hv
  have HQ := Lib.hid (show bestV ps most = if (bestS ps most 100).1 = 0 then (0, 0, 3) else ((bestS ps most 100).1, (bestS ps most 100).2, 0) by simp [bestV, h1, h2])
  have RF := Lib.hid (fun e (e1 : 1 ≤ e) (e2 : e ≤ 100) u hu => runsFor_any A n c ps e u hu HT.out e1 e2)
  have SP := Lib.hid (fun e (e1 : 1 ≤ e) (e2 : e ≤ 100) A' c' u hu => sumPages_any A' n c' ps e u hu hl HT.out (by omega) e1 e2)
  have SW := Lib.hid (fun e (e1 : 1 ≤ e) (e2 : e ≤ 100) A' c' u hu => sumWrong_any A' n c' ps e u hu hl HT.out (by omega) e1 e2)
  replace SP : Hid (∀ e, 1 ≤ e → e ≤ 100 → ∀ A' c' u, RdN u A' n (runL ps e n) → Calls Try.prog 53 #[.slice A' n c', .func (.func 60) #[] #[]] u fun r w' => r = .returned (.int .i64 (pagesN e ps)) ∧ Below u.heap.size u w') := SP
  replace SW : Hid (∀ e, 1 ≤ e → e ≤ 100 → ∀ A' c' u, RdN u A' n (runL ps e n) → Calls Try.prog 53 #[.slice A' n c', .func (.func 54) #[] #[]] u fun r w' => r = .returned (.int .i64 (wrongN e ps)) ∧ Below u.heap.size u w') := SW
  clear hv hm hl hl2 ht h1 h2
  go_enter Try.func25, Try.ntmps25
  go_wp2_with fail
  refine (OK.out _ HV.out).mono ?_
  rintro r u ⟨rfl, hb⟩
  have HV2 := Lib.hid (HV.out.below hb)
  have HB := Lib.hid hb
  clear hb
  go_wp2_with fail
  refine (IA.out _).mono ?_
  rintro r u2 ⟨rfl, rfl⟩
  go_wp2_with fail
  go_loopw [9, 7, 8] (fun i b l wr => ∃ k : Nat, k ≤ 100 ∧ i = .int .i64 ((k : Int) + 1) ∧ b = .int .i64 (bestS ps most k).1 ∧ l = .int .i64 (bestS ps most k).2 ∧ Hid (Below u.heap.size u wr)) (fun i _ _ _ => 101 - (intOf i).toNat)
  case atStart => exact ⟨0, Nat.zero_le _, rfl, rfl, rfl, Lib.hid (Below.refl _ _)⟩
  case round =>
    obtain ⟨k, hk, rfl, rfl, rfl, HB2⟩ := hrel
    obtain ⟨b1, b2, b3, b4⟩ := BD.out k hk
    by_cases hlt : k < 100
    · have HV3 := Lib.hid (HV2.out.below HB2.out)
      have RFk := Lib.hid (RF.out ((k : Int) + 1) (by omega) (by omega))
      have SPk := Lib.hid (SP.out ((k : Int) + 1) (by omega) (by omega))
      have SWk := Lib.hid (SW.out ((k : Int) + 1) (by omega) (by omega))
      by_cases hp : most < pagesN ((k : Int) + 1) ps
      · have HS := Lib.hid (bestS_skip hp)
        generalize pagesN ((k : Int) + 1) ps = P at *
        go_wp2_with fail
        refine (RFk.out _ HV3.out).mono ?_
        rintro r v0 ⟨A', c', rfl, hr, hv0⟩
        have HR0 := Lib.hid hr
        have HB0 := Lib.hid (bTrans HB2.out hv0)
        clear hr hv0
        go_wp2_with fail
        refine (SPk.out A' c' _ HR0.out).mono ?_
        rintro r v1 ⟨rfl, hv1⟩
        have HR1 := Lib.hid (HR0.out.below hv1)
        have HB4 := Lib.hid (bTrans HB0.out hv1)
        clear hv1
        go_wp2
        go_roundw
        case rel => exact ⟨k + 1, by omega, by go_num, by rw [HS.out], by rw [HS.out], HB4⟩
        case measure => simp [intOf]; omega
      · by_cases hb : (bestS ps most k).1 = 0 ∨ wrongN ((k : Int) + 1) ps ≤ (bestS ps most k).2
        · have HS := Lib.hid (bestS_take hp hb)
          generalize pagesN ((k : Int) + 1) ps = P at *
          generalize wrongN ((k : Int) + 1) ps = Z at *
          generalize (bestS ps most k).1 = b at *
          generalize (bestS ps most k).2 = l at *
          by_cases hb1 : b = 0
          · subst hb1
            clear hb
            go_wp2_with fail
            refine (RFk.out _ HV3.out).mono ?_
            rintro r v0 ⟨A', c', rfl, hr, hv0⟩
            have HR0 := Lib.hid hr
            have HB0 := Lib.hid (bTrans HB2.out hv0)
            clear hr hv0
            go_wp2_with fail
            refine (SPk.out A' c' _ HR0.out).mono ?_
            rintro r v1 ⟨rfl, hv1⟩
            have HR1 := Lib.hid (HR0.out.below hv1)
            have HB4 := Lib.hid (bTrans HB0.out hv1)
            clear hv1
            go_wp2_with fail
            refine (SWk.out A' c' _ HR1.out).mono ?_
            rintro r v2 ⟨rfl, hv2⟩
            have HB5 := Lib.hid (bTrans HB4.out hv2)
            clear hv2
            go_wp2
            go_roundw
            case rel => exact ⟨k + 1, by omega, by go_num, by rw [HS.out], by rw [HS.out], HB5⟩
            case measure => simp [intOf]; omega
          · have hb0 : (b == 0) = false := beq_eq_false_iff_ne.2 hb1
            have hb2 : Z ≤ l := hb.resolve_left hb1
            clear hb hb1
            go_wp2_with fail
            refine (RFk.out _ HV3.out).mono ?_
            rintro r v0 ⟨A', c', rfl, hr, hv0⟩
            have HR0 := Lib.hid hr
            have HB0 := Lib.hid (bTrans HB2.out hv0)
            clear hr hv0
            go_wp2_with fail
            refine (SPk.out A' c' _ HR0.out).mono ?_
            rintro r v1 ⟨rfl, hv1⟩
            have HR1 := Lib.hid (HR0.out.below hv1)
            have HB4 := Lib.hid (bTrans HB0.out hv1)
            clear hv1
            go_wp2_with fail
            refine (SWk.out A' c' _ HR1.out).mono ?_
            rintro r v2 ⟨rfl, hv2⟩
            have HB5 := Lib.hid (bTrans HB4.out hv2)
            clear hv2
            go_wp2
            go_roundw
            case rel => exact ⟨k + 1, by omega, by go_num, by rw [HS.out], by rw [HS.out], HB5⟩
            case measure => simp [intOf]; omega
        · have HS := Lib.hid (bestS_keep hp hb)
          have hb0 : ((bestS ps most k).1 == 0) = false := beq_eq_false_iff_ne.2 (fun e => hb (.inl e))
          have hb2 : ¬ wrongN ((k : Int) + 1) ps ≤ (bestS ps most k).2 := fun e => hb (.inr e)
          clear hb
          generalize pagesN ((k : Int) + 1) ps = P at *
          generalize wrongN ((k : Int) + 1) ps = Z at *
          go_wp2_with fail
          refine (RFk.out _ HV3.out).mono ?_
          rintro r v0 ⟨A', c', rfl, hr, hv0⟩
          have HR0 := Lib.hid hr
          have HB0 := Lib.hid (bTrans HB2.out hv0)
          clear hr hv0
          go_wp2_with fail
          refine (SPk.out A' c' _ HR0.out).mono ?_
          rintro r v1 ⟨rfl, hv1⟩
          have HR1 := Lib.hid (HR0.out.below hv1)
          have HB4 := Lib.hid (bTrans HB0.out hv1)
          clear hv1
          go_wp2_with fail
          refine (SWk.out A' c' _ HR1.out).mono ?_
          rintro r v2 ⟨rfl, hv2⟩
          have HB5 := Lib.hid (bTrans HB4.out hv2)
          clear hv2
          go_wp2
          go_roundw
          case rel => exact ⟨k + 1, by omega, by go_num, by rw [HS.out], by rw [HS.out], HB5⟩
          case measure => simp [intOf]; omega
    · have hk2 : k = 100 := by omega
      subst hk2
      by_cases hz : (bestS ps most 100).1 = 0
      · have HZ := Lib.hid (show bestV ps most = (0, 0, 3) by rw [HQ.out, if_pos hz])
        rw [hz]
        clear hz b1 b2 b3 b4
        go_wp2
        go_ret3
        exact ⟨by rw [HZ.out] <;> rfl, bTrans HB.out HB2.out⟩
      · have HZ := Lib.hid (show bestV ps most = ((bestS ps most 100).1, (bestS ps most 100).2, 0) by rw [HQ.out, if_neg hz])
        have hb0 : ((bestS ps most 100).1 == 0) = false := beq_eq_false_iff_ne.2 hz
        clear hz b1 b2 b3 b4
        go_wp2
        go_ret3
        exact ⟨by rw [HZ.out] <;> rfl, bTrans HB.out HB2.out⟩

/-- spec.BestTick. -/
theorem specBest_any (A : Option Addr) (n c : Nat) (ps : List Scn) (most : Int) (w : World) (hv : RdC w A n ps) (hm : Sizes ps n) :
    Calls Try.prog 39 #[.slice A n c, .int .i64 most] w fun e w' => e = .returned (.tuple #[.int .i64 (bestV ps most).1, .int .i64 (bestV ps most).2.1, .int .i64 (bestV ps most).2.2]) ∧ Below w.heap.size w w' := by
  cases h1 : scnsB ps
  · exact specBest_no A n c ps most w hv hm (.inl h1)
  · cases h2 : inB most 1 60
    · exact specBest_no A n c ps most w hv hm (.inr h2)
    · exact specBest_yes A n c ps most w hv hm h1 h2

/-- impl.BestTick. -/
theorem implBest_any (A : Option Addr) (n c : Nat) (ps : List Scn) (most : Int) (w : World) (hv : RdC w A n ps) (hm : Sizes ps n) :
    Calls Try.prog 25 #[.slice A n c, .int .i64 most] w fun e w' => e = .returned (.tuple #[.int .i64 (bestV ps most).1, .int .i64 (bestV ps most).2.1, .int .i64 (bestV ps most).2.2]) ∧ Below w.heap.size w w' := by
  cases h1 : scnsB ps
  · exact implBest_no A n c ps most w hv hm (.inl h1)
  · cases h2 : inB most 1 60
    · exact implBest_no A n c ps most w hv hm (.inr h2)
    · exact implBest_yes A n c ps most w hv hm h1 h2

/-- laws.FnExactBestTick. -/
theorem law_BestTick (A : Option Addr) (n c : Nat) (d : List Scn) (a : Int) (w : World) (hp : CRow w A n d) (ha : -9223372036854775808 ≤ a ∧ a ≤ 9223372036854775807) :
    Calls Try.prog 12 #[.slice A n c, .int .i64 a] w fun e w' => e = .returned (.bool true) ∧ Below w.heap.size w w' := by
  by_cases ht : n + totC d ≤ 1048576
  · exact lawBestTick_of A n c d a _ _ _ w hp ht (fun E f u hu => specBest_any E n f d a u hu hp.2.2.1) (fun E f u hu => implBest_any E n f d a u hu hp.2.2.1)
  · exact lawBestTick_big A n c d a w hp ht

end Go.Proofs.Ytibafngidpmgdab
