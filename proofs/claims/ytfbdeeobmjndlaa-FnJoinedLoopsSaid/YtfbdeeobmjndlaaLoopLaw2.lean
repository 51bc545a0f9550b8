/- Every so many places, turned loops, the roughest step: the model, and the statements. -/
import Derived.Test.YtfbdeeobmjndlaaProg
import Derived.Test.YtfbdeeobmjndlaaLoopMath
import Derived.Test.YtfbdeeobmjndlaaInts
import Derived.Test.YtfbdeeobmjndlaaLoop
import Derived.Test.YtfbdeeobmjndlaaLoop2
import Derived.Test.YtfbdeeobmjndlaaLoop3
import Derived.Test.YtfbdeeobmjndlaaIGrids
import Derived.Test.YtfbdeeobmjndlaaComLen
import Derived.Test.YtfbdeeobmjndlaaThin
import Derived.Test.YtfbdeeobmjndlaaTurnL
import Derived.Test.YtfbdeeobmjndlaaTurnL2
import Derived.Test.YtfbdeeobmjndlaaRough2
import Derived.Deep.AppendLies
import Derived.Deep.DrawnRows
import Derived.Test.YtfbdeeobmjndlaaHold
import Derived.IntWalk
import Derived.WalkSpells
import Derived.OwnWalk
import Derived.Laws.AppendOwn
import Derived.Laws.OwnMore
import Derived.Deep.RegionWith
import Derived.Deep.DrawnRows
import Derived.Deep.RegionHeld3
import Derived.Tactics
import Derived.Tactics2
import Derived.WalkKit
import Derived.LoopTactic
import Derived.BigQuiet
import Derived.RegionTactic
import Derived.Deep.QuietTactic
import Derived.Outline
import Derived.Lib.Hide
import Derived.Below
import Derived.KernelRfl
namespace Go.Proofs.Ytfbdeeobmjndlaa
set_option linter.unusedSimpArgs false
set_option linter.unusedVariables false
open Go.RowKit

/-- spec.ThinLoop. -/
theorem specThin_bad (A : Option Addr) (n c : Nat) (zs : List Int) (d : Int) (w : World) (hv : RdI w A n zs) (hz : loopB zs = false) :
    Calls Try.prog 46 #[.slice A n c, .int .i64 d] w fun e w' => ∃ v, e = .returned (.tuple #[v, .int .i64 1]) ∧ Ints w' w.heap.size v [] ∧ Below w.heap.size w w' := by
  have HV := Lib.hid hv
  clear hv
  go_enter Try.func46, Try.ntmps46
  go_wp2_with fail
  refine (l05Ok_any A n c zs _ HV.out).mono ?_
  rintro e u ⟨rfl, rfl⟩
  rw [hz]
  go_wp2
  go_ret2
  exact ⟨_, rfl, World.ownsRow_nil _ _ _ _, Below.refl _ _⟩
theorem specThin_range (A : Option Addr) (n c : Nat) (zs : List Int) (d : Int) (w : World) (hv : RdI w A n zs) (hz : loopB zs = true) (hd : lenB d = false) :
    Calls Try.prog 46 #[.slice A n c, .int .i64 d] w fun e w' => ∃ v, e = .returned (.tuple #[v, .int .i64 2]) ∧ Ints w' w.heap.size v [] ∧ Below w.heap.size w w' := by
  have HV := Lib.hid hv
  have hd' : inB d 1 60 = false := hd
  clear hv
  go_enter Try.func46, Try.ntmps46
  go_wp2_with fail
  refine (l05Ok_any A n c zs _ HV.out).mono ?_
  rintro e u ⟨rfl, rfl⟩
  rw [hz]
  go_wp2_with fail
  refine (l00In_any _ _ _ _).mono ?_
  rintro e u ⟨rfl, rfl⟩
  rw [hd']
  go_wp2
  go_ret2
  exact ⟨_, rfl, World.ownsRow_nil _ _ _ _, Below.refl _ _⟩
theorem specThin_odd (A : Option Addr) (n c : Nat) (zs : List Int) (d : Nat) (w : World) (hv : RdI w A n zs) (hz : loopB zs = true) (hd : lenB d = true) (hm : n % d ≠ 0) :
    Calls Try.prog 46 #[.slice A n c, .int .i64 d] w fun e w' => ∃ v, e = .returned (.tuple #[v, .int .i64 8]) ∧ Ints w' w.heap.size v [] ∧ Below w.heap.size w w' := by
  have HV := Lib.hid hv
  have hd' : inB (d : Int) 1 60 = true := hd
  obtain ⟨d1, d2⟩ := lenB_iff.1 hd
  have hl := loopB_len hz
  rw [hv.1] at hl
  clear hv
  have hr2 : (n : Int) % d = ((n % d : Nat) : Int) := (Int.natCast_emod _ _).symm
  have hr : Int.tmod (n : Int) d = ((n % d : Nat) : Int) := by rw [Int.tmod_eq_emod_of_nonneg (by omega), hr2]
  have hd0 : ¬ d = 0 := by omega
  have hmb : (((n % d : Nat) : Int) != 0) = true := by rw [bne_iff_ne]; omega
  generalize n % d = r at *
  go_enter Try.func46, Try.ntmps46
  go_wp2_with fail
  refine (l05Ok_any A n c zs _ HV.out).mono ?_
  rintro e u ⟨rfl, rfl⟩
  rw [hz]
  go_wp2_with fail
  refine (l00In_any _ _ _ _).mono ?_
  rintro e u ⟨rfl, rfl⟩
  rw [hd']
  go_wp2
  go_ret2
  exact ⟨_, rfl, World.ownsRow_nil _ _ _ _, Below.refl _ _⟩
set_option maxHeartbeats 1000000 in
theorem specThin_ok (A : Option Addr) (n c : Nat) (zs : List Int) (d : Nat) (w : World) (hv : RdI w A n zs) (hz : loopB zs = true) (hd : lenB d = true) (hm : n % d = 0) :
    Calls Try.prog 46 #[.slice A n c, .int .i64 d] w fun e w' => ∃ v, e = .returned (.tuple #[v, .int .i64 0]) ∧ Ints w' w.heap.size v (thinL zs d) ∧ Below w.heap.size w w' := by
  obtain ⟨i0, hi, hz0, hz1, hz2⟩ := info_parts infoI64
  have HV := Lib.hid hv
  have HV2 := Lib.hid hv.2.2
  have hd' : inB (d : Int) 1 60 = true := hd
  obtain ⟨d1, d2⟩ := lenB_iff.1 hd
  have hl := loopB_len hz
  rw [hv.1] at hl
  have HE := Lib.hid (show genL (fun k => zs.getD (k * d) 0) (n / d) = thinL zs d by unfold thinL; rw [hv.1])
  have HLs := Lib.hid (show (thinL zs d).length = n / d by unfold thinL; rw [genL_length, hv.1])
  have HS := Lib.hid (genL_succ (fun k => zs.getD (k * d) 0))
  have hr2 : (n : Int) % d = 0 := by rw [← Int.natCast_emod, hm]; rfl
  have hr : Int.tmod (n : Int) d = 0 := by rw [Int.tmod_eq_emod_of_nonneg (by omega), hr2]
  have hd0 : ¬ d = 0 := by omega
  have HN := Lib.hid (show n / d * d = n from Nat.div_mul_cancel (Nat.dvd_of_mod_eq_zero hm))
  have hrn : n / d ≤ n := Nat.div_le_self _ _
  clear hv
  generalize n / d = r at *
  go_enter Try.func46, Try.ntmps46
  go_wp2_with fail
  refine (l05Ok_any A n c zs _ HV.out).mono ?_
  rintro e u ⟨rfl, rfl⟩
  rw [hz]
  go_wp2_with fail
  refine (l00In_any _ _ _ _).mono ?_
  rintro e u ⟨rfl, rfl⟩
  rw [hd']
  go_wp2
  go_loopw [7, 6] (fun i v wr => ∃ k m : Nat, k ≤ r ∧ i = .int .i64 m ∧ m ≤ n ∧ Hid (m = k * d) ∧ Hid (wr.ownsRow w.heap.size 2 1 v k ((genL (fun k => zs.getD (k * d) 0) k).map (Value.int .i64))) ∧ Hid (Below w.heap.size w wr)) (fun i _ _ => n - (intOf i).toNat)
  case atStart => exact ⟨0, 0, Nat.zero_le _, rfl, Nat.zero_le _, Lib.hid (by simp), Lib.hid (World.ownsRow_lit w #[] 0 (Nat.le_refl _) (Nat.zero_le _) rfl), Lib.hid (bAlloc (Below.refl _ _) _)⟩
  case round =>
    obtain ⟨k, m, hk, rfl, hmn, HM, HO, HB⟩ := hrel
    by_cases hlt : m < n
    · have hkr : k < r := by
        rcases Nat.lt_or_ge k r with h | h
        · exact h
        · have : k = r := by omega
          subst this
          have := HM.out
          have := HN.out
          omega
      rcases HV2.out with h0 | ⟨g, rfl, hg, h3⟩
      · omega
      have hstep : (k + 1) * d ≤ r * d := Nat.mul_le_mul_right d hkr
      rw [HN.out, Nat.add_mul, Nat.one_mul, ← HM.out] at hstep
      have c0 := (HB.out.cell (p := ⟨g, m, none⟩) hg).trans (h3 m hlt)
      have HS1 := Lib.hid (HS.out k)
      have HE1 := Lib.hid (show zs.getD (k * d) 0 = zs.getD m 0 by rw [HM.out])
      clear h3
      generalize zs.getD m 0 = x at *
      have hbz := HB.out.size
      go_wp2_with (first | (at_builtin; refine wpList_append_own _ rfl _ _ 22 rfl w.heap.size 2 i0 (.int .i64 0) 1 8 Try.underlying22 hi hz0 hz1 hz2 rfl (by decide) _ _ _ rfl (HO.out.alloc _) ⟨wr.heap.size, 0, none⟩ 1 1 [.int .i64 x] rfl rfl (oneI_new _ _ _) (ints_oneCell .i64 [x]) (by unfold maxLen; omega) (by omega) (by simp; omega) ?_; intro v' w1 hown' hgrow hnil))
      have HO' := Lib.hid hown'
      have HB' := Lib.hid (Below.grown (bAlloc HB.out _) hgrow (by simp; omega) (fun j hj => (World.ownsRow.lt HO.out j hj).1))
      clear hown' hgrow hnil
      go_wp2
      go_roundw
      case rel => exact ⟨k + 1, m + d, by omega, by go_num, by omega, Lib.hid (by rw [HM.out, Nat.add_mul, Nat.one_mul]), Lib.hid (by rw [HS1.out, HE1.out, List.map_append]; exact HO'.out), HB'⟩
      case measure => simp [intOf]; omega
    · have hkr : k = r := by
        rcases Nat.lt_or_ge k r with h | h
        · have hstep : (k + 1) * d ≤ r * d := Nat.mul_le_mul_right d h
          rw [HN.out, Nat.add_mul, Nat.one_mul, ← HM.out] at hstep
          omega
        · omega
      subst hkr
      have h1 := HO.out
      rw [HE.out] at h1
      have H1 := Lib.hid h1
      clear h1
      go_wp2
      go_ret2
      refine ⟨_, rfl, ?_, HB.out⟩
      unfold Ints
      rw [HLs.out]
      exact H1.out

set_option maxHeartbeats 2000000 in
set_option maxRecDepth 100000 in
/-- laws.FnExactThinLoop, out of contracts. -/
theorem lawThinLoop_of (A0 : Option Addr) (n0 c0 : Nat) (d0 : List Int) (a1 : Int) (z : Int) (qs : List Int) (w : World) (hp0 : IRow w A0 n0 d0) (hq : qs.length ≤ 1000) (ht0 : n0 ≤ 1048576)
    (hs : ∀ (E0 : Option Addr) (f0 : Nat) (u : World), RdI u E0 n0 d0 → Calls Try.prog 46 #[.slice E0 n0 f0, .int .i64 a1] u fun e u' => ∃ v, e = .returned (.tuple #[v, .int .i64 z]) ∧ Ints u' u.heap.size v qs ∧ Below u.heap.size u u')
    (hi : ∀ (E0 : Option Addr) (f0 : Nat) (u : World), RdI u E0 n0 d0 → Calls Try.prog 47 #[.slice E0 n0 f0, .int .i64 a1] u fun e u' => ∃ v, e = .returned (.tuple #[v, .int .i64 z]) ∧ Ints u' u.heap.size v qs ∧ Below u.heap.size u u')
    : Calls Try.prog 11 #[.slice A0 n0 c0, .int .i64 a1] w fun e w' => e = .returned (.bool true) ∧ Below w.heap.size w w' := by
  have HL0 := Lib.hid hp0.1
  have hm0 := ht0
  have hl0 := Nat.le_of_eq hp0.1
  have HP0 := Lib.hid hp0
  clear hp0
  have S := Lib.hid hs
  have I := Lib.hid hi
  clear hs hi
  have B := Lib.hid (Below.refl w.heap.size w)
  go_enter Try.func11, Try.ntmps11
  go_wp2_with fail
  refine (toI A0 n0 c0 d0 _ (HP0.out.below B.out) (by omega)).mono ?_
  rintro e u1 ⟨ET0, fT0, rfl, p1, hb1⟩
  have T0 := Lib.hid (ownsBase p1 (B' := w.heap.size) B.out.size)
  replace B := Lib.hid (bTrans B.out hb1)
  clear p1 hb1
  go_wp2_with fail
  refine (S.out _ _ _ (Ints.rdOf T0.out HL0.out (by omega))).mono ?_
  rintro e u2 ⟨vW, rfl, p2, hb2⟩
  have W := Lib.hid (ownsBase p2 (B' := w.heap.size) B.out.size)
  replace T0 := Lib.hid (Ints.below T0.out hb2)
  replace B := Lib.hid (bTrans B.out hb2)
  clear p2 hb2
  clear T0
  go_wp2_with fail
  refine (toI A0 n0 c0 d0 _ (HP0.out.below B.out) (by omega)).mono ?_
  rintro e u3 ⟨EX0, fX0, rfl, p3, hb3⟩
  have SWX0 := Lib.hid (sepOf _ (fun q hq => (ownsLt W.out q hq).2) (fun q hq => (ownsLt p3 q hq).1))
  have X0 := Lib.hid (ownsBase p3 (B' := w.heap.size) B.out.size)
  replace W := Lib.hid (Ints.below W.out hb3)
  replace B := Lib.hid (bTrans B.out hb3)
  clear p3 hb3
  go_wp2_with fail
  refine (I.out _ _ _ (Ints.rdOf X0.out HL0.out (by omega))).mono ?_
  rintro e u4 ⟨vG, rfl, p4, hb4⟩
  have SWG := Lib.hid (sepOf _ (fun q hq => (ownsLt W.out q hq).2) (fun q hq => (ownsLt p4 q hq).1))
  have SX0G := Lib.hid (sepOf _ (fun q hq => (ownsLt X0.out q hq).2) (fun q hq => (ownsLt p4 q hq).1))
  have G := Lib.hid (ownsBase p4 (B' := w.heap.size) B.out.size)
  replace W := Lib.hid (Ints.below W.out hb4)
  replace X0 := Lib.hid (Ints.below X0.out hb4)
  replace B := Lib.hid (bTrans B.out hb4)
  clear p4 hb4
  go_wp2_with fail
  refine (eqI_same _ _ vG vW qs _ G.out W.out).mono ?_
  rintro e u5 ⟨rfl, hb5⟩
  replace W := Lib.hid (Ints.below W.out hb5)
  replace X0 := Lib.hid (Ints.below X0.out hb5)
  replace G := Lib.hid (Ints.below G.out hb5)
  replace B := Lib.hid (bTrans B.out hb5)
  clear hb5
  go_wp2_with fail
  refine (toI A0 n0 c0 d0 _ (HP0.out.below B.out) (by omega)).mono ?_
  rintro e u6 ⟨EY0, fY0, rfl, p6, hb6⟩
  have Y0 := Lib.hid (ownsBase p6 (B' := w.heap.size) B.out.size)
  replace W := Lib.hid (Ints.below W.out hb6)
  replace X0 := Lib.hid (Ints.below X0.out hb6)
  replace G := Lib.hid (Ints.below G.out hb6)
  replace B := Lib.hid (bTrans B.out hb6)
  clear p6 hb6
  go_wp2_with fail
  refine (eqInt64S_rdB EX0 EY0 n0 fX0 fY0 d0 _ (Ints.rdOf X0.out HL0.out (by omega)) (Ints.rdOf Y0.out HL0.out (by omega))).mono ?_
  rintro e u7 ⟨rfl, hb7⟩
  replace W := Lib.hid (Ints.below W.out hb7)
  replace X0 := Lib.hid (Ints.below X0.out hb7)
  replace G := Lib.hid (Ints.below G.out hb7)
  replace Y0 := Lib.hid (Ints.below Y0.out hb7)
  replace B := Lib.hid (bTrans B.out hb7)
  clear hb7
  clear Y0
  go_wp2_with fail
  refine (markZ_any _ _ _ _ _ X0.out (by omega) (by omega) (by omega)).mono ?_
  rintro e u8 ⟨rfl, p8, g8⟩
  replace W := Lib.hid (ownsChg W.out (Chg.ofGrown g8) SWX0.out)
  replace G := Lib.hid (ownsChg G.out (Chg.ofGrown g8) SX0G.out.symm)
  replace B := Lib.hid (belowChg B.out (Chg.ofGrown g8) (fun q hq => (ownsLt X0.out q hq).1))
  clear p8 g8
  clear X0
  go_wp2_with fail
  refine (eqI_same _ _ vG vW qs _ G.out W.out).mono ?_
  rintro e u9 ⟨rfl, hb9⟩
  replace W := Lib.hid (Ints.below W.out hb9)
  replace G := Lib.hid (Ints.below G.out hb9)
  replace B := Lib.hid (bTrans B.out hb9)
  clear hb9
  go_wp2_with fail
  refine (mark1 _ _ _ _ G.out (by omega)).mono ?_
  rintro e u10 ⟨rfl, p10, g10⟩
  replace W := Lib.hid (ownsChg W.out (Chg.ofGrown g10) SWG.out)
  replace B := Lib.hid (belowChg B.out (Chg.ofGrown g10) (fun q hq => (ownsLt G.out q hq).1))
  replace G := Lib.hid p10
  clear p10 g10
  go_wp2_with fail
  refine (held1 _ qs.length vG _ G.out (by omega)).mono ?_
  rintro e u ⟨rfl, rfl⟩
  go_wp2_with fail
  refine (toI A0 n0 c0 d0 _ (HP0.out.below B.out) (by omega)).mono ?_
  rintro e u11 ⟨EZ0, fZ0, rfl, p11, hb11⟩
  have Z0 := Lib.hid (ownsBase p11 (B' := w.heap.size) B.out.size)
  replace W := Lib.hid (Ints.below W.out hb11)
  replace G := Lib.hid (Ints.below G.out hb11)
  replace B := Lib.hid (bTrans B.out hb11)
  clear p11 hb11
  go_wp2_with fail
  refine (I.out _ _ _ (Ints.rdOf Z0.out HL0.out (by omega))).mono ?_
  rintro e u12 ⟨vH, rfl, p12, hb12⟩
  have H := Lib.hid (ownsBase p12 (B' := w.heap.size) B.out.size)
  replace W := Lib.hid (Ints.below W.out hb12)
  replace G := Lib.hid (Ints.below G.out hb12)
  replace Z0 := Lib.hid (Ints.below Z0.out hb12)
  replace B := Lib.hid (bTrans B.out hb12)
  clear p12 hb12
  clear Z0
  go_wp2_with fail
  refine (eqI_same _ _ vH vW qs _ H.out W.out).mono ?_
  rintro e u13 ⟨rfl, hb13⟩
  replace W := Lib.hid (Ints.below W.out hb13)
  replace G := Lib.hid (Ints.below G.out hb13)
  replace H := Lib.hid (Ints.below H.out hb13)
  replace B := Lib.hid (bTrans B.out hb13)
  clear hb13
  go_wp2_with fail
  refine (held1 _ qs.length vG _ G.out (by omega)).mono ?_
  rintro e u ⟨rfl, rfl⟩
  go_wp2_with fail
  go_ret
  exact ⟨rfl, B.out⟩

set_option maxRecDepth 100000 in
/-- laws.FnExactThinLoop, of what is too large to be looked at. -/
theorem lawThinLoop_big (A0 : Option Addr) (n0 c0 : Nat) (d0 : List Int) (a1 : Int) (w : World) (hp0 : IRow w A0 n0 d0) (ht : ¬ (n0 ≤ 1048576)) :
    Calls Try.prog 11 #[.slice A0 n0 c0, .int .i64 a1] w fun e w' => e = .returned (.bool true) ∧ Below w.heap.size w w' := by
  have hm0 := hp0.2.1
  unfold maxLen at hm0
  clear hp0
  go_enter Try.func11, Try.ntmps11
  go_wp2
  go_ret
  exact ⟨rfl, Below.refl _ _⟩


/-- laws.FnExactThinLoop. -/
theorem law_ThinLoop (A0 : Option Addr) (n0 c0 : Nat) (d0 : List Int) (a1 : Int) (w : World) (hp0 : IRow w A0 n0 d0) (_h1 : I64 a1) :
    Calls Try.prog 11 #[.slice A0 n0 c0, .int .i64 a1] w fun e w' => e = .returned (.bool true) ∧ Below w.heap.size w w' := by
  by_cases ht : n0 ≤ 1048576
  · cases hz : loopB d0
    · exact lawThinLoop_of A0 n0 c0 d0 a1 1 [] w hp0 (by simp) ht (fun E f u h => specThin_bad E n0 f d0 a1 u h hz) (fun E f u h => implThin_bad E n0 f d0 a1 u h hz)
    · have hl := loopB_len hz
      cases hd : lenB a1
      · exact lawThinLoop_of A0 n0 c0 d0 a1 2 [] w hp0 (by simp) ht (fun E f u h => specThin_range E n0 f d0 a1 u h hz hd) (fun E f u h => implThin_range E n0 f d0 a1 u h hz hd)
      · have d1 := (lenB_iff.1 hd).1
        obtain ⟨d, rfl⟩ := Int.eq_ofNat_of_zero_le (show 0 ≤ a1 by omega)
        by_cases hm : n0 % d = 0
        · have h8 : n0 / d ≤ n0 := Nat.div_le_self _ _
          have h9 := hp0.1
          exact lawThinLoop_of A0 n0 c0 d0 d 0 (thinL d0 d) w hp0 (by unfold thinL; rw [genL_length, h9]; omega) ht (fun E f u h => specThin_ok E n0 f d0 d u h hz hd hm) (fun E f u h => implThin_ok E n0 f d0 d u h hz hd hm)
        · exact lawThinLoop_of A0 n0 c0 d0 d 8 [] w hp0 (by simp) ht (fun E f u h => specThin_odd E n0 f d0 d u h hz hd hm) (fun E f u h => implThin_odd E n0 f d0 d u h hz hd hm)
  · exact lawThinLoop_big A0 n0 c0 d0 a1 w hp0 ht

set_option maxHeartbeats 2000000 in
set_option maxRecDepth 100000 in
/-- laws.FnExactTurnLoop, out of contracts. -/
theorem lawTurnLoop_of (A0 : Option Addr) (n0 c0 : Nat) (d0 : List Int) (a1 : Int) (z : Int) (qs : List Int) (w : World) (hp0 : IRow w A0 n0 d0) (hq : qs.length ≤ 1000) (ht0 : n0 ≤ 1048576)
    (hs : ∀ (E0 : Option Addr) (f0 : Nat) (u : World), RdI u E0 n0 d0 → Calls Try.prog 42 #[.slice E0 n0 f0, .int .i64 a1] u fun e u' => ∃ v, e = .returned (.tuple #[v, .int .i64 z]) ∧ Ints u' u.heap.size v qs ∧ Below u.heap.size u u')
    (hi : ∀ (E0 : Option Addr) (f0 : Nat) (u : World), RdI u E0 n0 d0 → Calls Try.prog 43 #[.slice E0 n0 f0, .int .i64 a1] u fun e u' => ∃ v, e = .returned (.tuple #[v, .int .i64 z]) ∧ Ints u' u.heap.size v qs ∧ Below u.heap.size u u')
    : Calls Try.prog 9 #[.slice A0 n0 c0, .int .i64 a1] w fun e w' => e = .returned (.bool true) ∧ Below w.heap.size w w' := by
  have HL0 := Lib.hid hp0.1
  have hm0 := ht0
  have hl0 := Nat.le_of_eq hp0.1
  have HP0 := Lib.hid hp0
  clear hp0
  have S := Lib.hid hs
  have I := Lib.hid hi
  clear hs hi
  have B := Lib.hid (Below.refl w.heap.size w)
  go_enter Try.func9, Try.ntmps9
  go_wp2_with fail
  refine (toI A0 n0 c0 d0 _ (HP0.out.below B.out) (by omega)).mono ?_
  rintro e u1 ⟨ET0, fT0, rfl, p1, hb1⟩
  have T0 := Lib.hid (ownsBase p1 (B' := w.heap.size) B.out.size)
  replace B := Lib.hid (bTrans B.out hb1)
  clear p1 hb1
  go_wp2_with fail
  refine (S.out _ _ _ (Ints.rdOf T0.out HL0.out (by omega))).mono ?_
  rintro e u2 ⟨vW, rfl, p2, hb2⟩
  have W := Lib.hid (ownsBase p2 (B' := w.heap.size) B.out.size)
  replace T0 := Lib.hid (Ints.below T0.out hb2)
  replace B := Lib.hid (bTrans B.out hb2)
  clear p2 hb2
  clear T0
  go_wp2_with fail
  refine (toI A0 n0 c0 d0 _ (HP0.out.below B.out) (by omega)).mono ?_
  rintro e u3 ⟨EX0, fX0, rfl, p3, hb3⟩
  have SWX0 := Lib.hid (sepOf _ (fun q hq => (ownsLt W.out q hq).2) (fun q hq => (ownsLt p3 q hq).1))
  have X0 := Lib.hid (ownsBase p3 (B' := w.heap.size) B.out.size)
  replace W := Lib.hid (Ints.below W.out hb3)
  replace B := Lib.hid (bTrans B.out hb3)
  clear p3 hb3
  go_wp2_with fail
  refine (I.out _ _ _ (Ints.rdOf X0.out HL0.out (by omega))).mono ?_
  rintro e u4 ⟨vG, rfl, p4, hb4⟩
  have SWG := Lib.hid (sepOf _ (fun q hq => (ownsLt W.out q hq).2) (fun q hq => (ownsLt p4 q hq).1))
  have SX0G := Lib.hid (sepOf _ (fun q hq => (ownsLt X0.out q hq).2) (fun q hq => (ownsLt p4 q hq).1))
  have G := Lib.hid (ownsBase p4 (B' := w.heap.size) B.out.size)
  replace W := Lib.hid (Ints.below W.out hb4)
  replace X0 := Lib.hid (Ints.below X0.out hb4)
  replace B := Lib.hid (bTrans B.out hb4)
  clear p4 hb4
  go_wp2_with fail
  refine (eqI_same _ _ vG vW qs _ G.out W.out).mono ?_
  rintro e u5 ⟨rfl, hb5⟩
  replace W := Lib.hid (Ints.below W.out hb5)
  replace X0 := Lib.hid (Ints.below X0.out hb5)
  replace G := Lib.hid (Ints.below G.out hb5)
  replace B := Lib.hid (bTrans B.out hb5)
  clear hb5
  go_wp2_with fail
  refine (toI A0 n0 c0 d0 _ (HP0.out.below B.out) (by omega)).mono ?_
  rintro e u6 ⟨EY0, fY0, rfl, p6, hb6⟩
  have Y0 := Lib.hid (ownsBase p6 (B' := w.heap.size) B.out.size)
  replace W := Lib.hid (Ints.below W.out hb6)
  replace X0 := Lib.hid (Ints.below X0.out hb6)
  replace G := Lib.hid (Ints.below G.out hb6)
  replace B := Lib.hid (bTrans B.out hb6)
  clear p6 hb6
  go_wp2_with fail
  refine (eqInt64S_rdB EX0 EY0 n0 fX0 fY0 d0 _ (Ints.rdOf X0.out HL0.out (by omega)) (Ints.rdOf Y0.out HL0.out (by omega))).mono ?_
  rintro e u7 ⟨rfl, hb7⟩
  replace W := Lib.hid (Ints.below W.out hb7)
  replace X0 := Lib.hid (Ints.below X0.out hb7)
  replace G := Lib.hid (Ints.below G.out hb7)
  replace Y0 := Lib.hid (Ints.below Y0.out hb7)
  replace B := Lib.hid (bTrans B.out hb7)
  clear hb7
  clear Y0
  go_wp2_with fail
  refine (markZ_any _ _ _ _ _ X0.out (by omega) (by omega) (by omega)).mono ?_
  rintro e u8 ⟨rfl, p8, g8⟩
  replace W := Lib.hid (ownsChg W.out (Chg.ofGrown g8) SWX0.out)
  replace G := Lib.hid (ownsChg G.out (Chg.ofGrown g8) SX0G.out.symm)
  replace B := Lib.hid (belowChg B.out (Chg.ofGrown g8) (fun q hq => (ownsLt X0.out q hq).1))
  clear p8 g8
  clear X0
  go_wp2_with fail
  refine (eqI_same _ _ vG vW qs _ G.out W.out).mono ?_
  rintro e u9 ⟨rfl, hb9⟩
  replace W := Lib.hid (Ints.below W.out hb9)
  replace G := Lib.hid (Ints.below G.out hb9)
  replace B := Lib.hid (bTrans B.out hb9)
  clear hb9
  go_wp2_with fail
  refine (mark1 _ _ _ _ G.out (by omega)).mono ?_
  rintro e u10 ⟨rfl, p10, g10⟩
  replace W := Lib.hid (ownsChg W.out (Chg.ofGrown g10) SWG.out)
  replace B := Lib.hid (belowChg B.out (Chg.ofGrown g10) (fun q hq => (ownsLt G.out q hq).1))
  replace G := Lib.hid p10
  clear p10 g10
  go_wp2_with fail
  refine (held1 _ qs.length vG _ G.out (by omega)).mono ?_
  rintro e u ⟨rfl, rfl⟩
  go_wp2_with fail
  refine (toI A0 n0 c0 d0 _ (HP0.out.below B.out) (by omega)).mono ?_
  rintro e u11 ⟨EZ0, fZ0, rfl, p11, hb11⟩
  have Z0 := Lib.hid (ownsBase p11 (B' := w.heap.size) B.out.size)
  replace W := Lib.hid (Ints.below W.out hb11)
  replace G := Lib.hid (Ints.below G.out hb11)
  replace B := Lib.hid (bTrans B.out hb11)
  clear p11 hb11
  go_wp2_with fail
  refine (I.out _ _ _ (Ints.rdOf Z0.out HL0.out (by omega))).mono ?_
  rintro e u12 ⟨vH, rfl, p12, hb12⟩
  have H := Lib.hid (ownsBase p12 (B' := w.heap.size) B.out.size)
  replace W := Lib.hid (Ints.below W.out hb12)
  replace G := Lib.hid (Ints.below G.out hb12)
  replace Z0 := Lib.hid (Ints.below Z0.out hb12)
  replace B := Lib.hid (bTrans B.out hb12)
  clear p12 hb12
  clear Z0
  go_wp2_with fail
  refine (eqI_same _ _ vH vW qs _ H.out W.out).mono ?_
  rintro e u13 ⟨rfl, hb13⟩
  replace W := Lib.hid (Ints.below W.out hb13)
  replace G := Lib.hid (Ints.below G.out hb13)
  replace H := Lib.hid (Ints.below H.out hb13)
  replace B := Lib.hid (bTrans B.out hb13)
  clear hb13
  go_wp2_with fail
  refine (held1 _ qs.length vG _ G.out (by omega)).mono ?_
  rintro e u ⟨rfl, rfl⟩
  go_wp2_with fail
  go_ret
  exact ⟨rfl, B.out⟩

set_option maxRecDepth 100000 in
/-- laws.FnExactTurnLoop, of what is too large to be looked at. -/
theorem lawTurnLoop_big (A0 : Option Addr) (n0 c0 : Nat) (d0 : List Int) (a1 : Int) (w : World) (hp0 : IRow w A0 n0 d0) (ht : ¬ (n0 ≤ 1048576)) :
    Calls Try.prog 9 #[.slice A0 n0 c0, .int .i64 a1] w fun e w' => e = .returned (.bool true) ∧ Below w.heap.size w w' := by
  have hm0 := hp0.2.1
  unfold maxLen at hm0
  clear hp0
  go_enter Try.func9, Try.ntmps9
  go_wp2
  go_ret
  exact ⟨rfl, Below.refl _ _⟩


/-- laws.FnExactTurnLoop. -/
theorem law_TurnLoop (A0 : Option Addr) (n0 c0 : Nat) (d0 : List Int) (a1 : Int) (w : World) (hp0 : IRow w A0 n0 d0) (_h1 : I64 a1) :
    Calls Try.prog 9 #[.slice A0 n0 c0, .int .i64 a1] w fun e w' => e = .returned (.bool true) ∧ Below w.heap.size w w' := by
  by_cases ht : n0 ≤ 1048576
  · cases hz : loopB d0
    · exact lawTurnLoop_of A0 n0 c0 d0 a1 1 [] w hp0 (by simp) ht (fun E f u h => specTurn_bad E n0 f d0 a1 u h hz) (fun E f u h => implTurn_bad E n0 f d0 a1 u h hz)
    · have hl := loopB_len hz
      cases hd : inB a1 0 60
      · exact lawTurnLoop_of A0 n0 c0 d0 a1 2 [] w hp0 (by simp) ht (fun E f u h => specTurn_range E n0 f d0 a1 u h hz hd) (fun E f u h => implTurn_range E n0 f d0 a1 u h hz hd)
      · have d1 := inB_iff.1 hd
        obtain ⟨d, rfl⟩ := Int.eq_ofNat_of_zero_le (show 0 ≤ a1 by omega)
        exact lawTurnLoop_of A0 n0 c0 d0 d 0 (turnL d0 d) w hp0 (by unfold turnL; rw [genL_length]; omega) ht (fun E f u h => specTurn_ok E n0 f d0 d u h hz (by omega)) (fun E f u h => implTurn_ok E n0 f d0 d u h hz (by omega))
  · exact lawTurnLoop_big A0 n0 c0 d0 a1 w hp0 ht

set_option maxHeartbeats 2000000 in
set_option maxRecDepth 100000 in
/-- laws.FnExactRoughestStep, out of contracts. -/
theorem lawRoughestStep_of (A0 : Option Addr) (n0 c0 : Nat) (d0 : List Int) (z0 z1 z2 : Int) (w : World) (hp0 : IRow w A0 n0 d0)  (ht0 : n0 ≤ 1048576)
    (hs : ∀ (E0 : Option Addr) (f0 : Nat) (u : World), RdI u E0 n0 d0 → Calls Try.prog 31 #[.slice E0 n0 f0] u fun e u' => e = .returned (.tuple #[.int .i64 z0, .int .i64 z1, .int .i64 z2]) ∧ Below u.heap.size u u')
    (hi : ∀ (E0 : Option Addr) (f0 : Nat) (u : World), RdI u E0 n0 d0 → Calls Try.prog 32 #[.slice E0 n0 f0] u fun e u' => e = .returned (.tuple #[.int .i64 z0, .int .i64 z1, .int .i64 z2]) ∧ Below u.heap.size u u')
    : Calls Try.prog 5 #[.slice A0 n0 c0] w fun e w' => e = .returned (.bool true) ∧ Below w.heap.size w w' := by
  have HL0 := Lib.hid hp0.1
  have hm0 := ht0
  have hl0 := Nat.le_of_eq hp0.1
  have HP0 := Lib.hid hp0
  clear hp0
  have S := Lib.hid hs
  have I := Lib.hid hi
  clear hs hi
  have B := Lib.hid (Below.refl w.heap.size w)
  go_enter Try.func5, Try.ntmps5
  go_wp2_with fail
  refine (toI A0 n0 c0 d0 _ (HP0.out.below B.out) (by omega)).mono ?_
  rintro e u1 ⟨ET0, fT0, rfl, p1, hb1⟩
  have T0 := Lib.hid (ownsBase p1 (B' := w.heap.size) B.out.size)
  replace B := Lib.hid (bTrans B.out hb1)
  clear p1 hb1
  go_wp2_with fail
  refine (S.out _ _ _ (Ints.rdOf T0.out HL0.out (by omega))).mono ?_
  rintro e u2 ⟨rfl, hb2⟩
  replace T0 := Lib.hid (Ints.below T0.out hb2)
  replace B := Lib.hid (bTrans B.out hb2)
  clear hb2
  clear T0
  go_wp2_with fail
  refine (toI A0 n0 c0 d0 _ (HP0.out.below B.out) (by omega)).mono ?_
  rintro e u3 ⟨EX0, fX0, rfl, p3, hb3⟩
  have X0 := Lib.hid (ownsBase p3 (B' := w.heap.size) B.out.size)
  replace B := Lib.hid (bTrans B.out hb3)
  clear p3 hb3
  go_wp2_with fail
  refine (I.out _ _ _ (Ints.rdOf X0.out HL0.out (by omega))).mono ?_
  rintro e u4 ⟨rfl, hb4⟩
  replace X0 := Lib.hid (Ints.below X0.out hb4)
  replace B := Lib.hid (bTrans B.out hb4)
  clear hb4
  go_wp2_with fail
  refine (toI A0 n0 c0 d0 _ (HP0.out.below B.out) (by omega)).mono ?_
  rintro e u5 ⟨EY0, fY0, rfl, p5, hb5⟩
  have Y0 := Lib.hid (ownsBase p5 (B' := w.heap.size) B.out.size)
  replace X0 := Lib.hid (Ints.below X0.out hb5)
  replace B := Lib.hid (bTrans B.out hb5)
  clear p5 hb5
  go_wp2_with fail
  refine (eqInt64S_rdB EX0 EY0 n0 fX0 fY0 d0 _ (Ints.rdOf X0.out HL0.out (by omega)) (Ints.rdOf Y0.out HL0.out (by omega))).mono ?_
  rintro e u6 ⟨rfl, hb6⟩
  replace X0 := Lib.hid (Ints.below X0.out hb6)
  replace Y0 := Lib.hid (Ints.below Y0.out hb6)
  replace B := Lib.hid (bTrans B.out hb6)
  clear hb6
  clear Y0
  go_wp2_with fail
  go_ret
  exact ⟨rfl, B.out⟩

set_option maxRecDepth 100000 in
/-- laws.FnExactRoughestStep, of what is too large to be looked at. -/
theorem lawRoughestStep_big (A0 : Option Addr) (n0 c0 : Nat) (d0 : List Int) (w : World) (hp0 : IRow w A0 n0 d0) (ht : ¬ (n0 ≤ 1048576)) :
    Calls Try.prog 5 #[.slice A0 n0 c0] w fun e w' => e = .returned (.bool true) ∧ Below w.heap.size w w' := by
  have hm0 := hp0.2.1
  unfold maxLen at hm0
  clear hp0
  go_enter Try.func5, Try.ntmps5
  go_wp2
  go_ret
  exact ⟨rfl, Below.refl _ _⟩


/-- laws.FnExactRoughestStep. -/
theorem law_RoughestStep (A0 : Option Addr) (n0 c0 : Nat) (d0 : List Int) (w : World) (hp0 : IRow w A0 n0 d0) :
    Calls Try.prog 5 #[.slice A0 n0 c0] w fun e w' => e = .returned (.bool true) ∧ Below w.heap.size w w' := by
  by_cases ht : n0 ≤ 1048576
  · cases hz : loopB d0
    · exact lawRoughestStep_of A0 n0 c0 d0 0 0 1 w hp0 ht (fun E f u h => specRough_bad E n0 f d0 u h hz) (fun E f u h => implRough_bad E n0 f d0 u h hz)
    · exact lawRoughestStep_of A0 n0 c0 d0 _ _ 0 w hp0 ht (fun E f u h => specRough_ok E n0 f d0 u h hz) (fun E f u h => implRough_ok E n0 f d0 u h hz)
  · exact lawRoughestStep_big A0 n0 c0 d0 w hp0 ht

end Go.Proofs.Ytfbdeeobmjndlaa
