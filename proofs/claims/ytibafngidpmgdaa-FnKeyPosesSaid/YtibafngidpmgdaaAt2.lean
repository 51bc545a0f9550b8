/- The pose at a tick: the specification. -/
import Derived.Test.YtibafngidpmgdaaProg
import Derived.Test.YtibafngidpmgdaaAtMath
import Derived.Test.YtibafngidpmgdaaBetween
import Derived.Test.YtibafngidpmgdaaKeyOk
import Derived.Test.YtibafngidpmgdaaAt
import Derived.OwnWalk
import Derived.Deep.RegionWith
import Derived.Deep.DrawnRows
import Derived.Deep.RegionHeld3
import Derived.Tactics
import Derived.Tactics2
import Derived.WalkKit
import Derived.WalkSpells
import Derived.LoopTactic
import Derived.BigQuiet
import Derived.RegionTactic
import Derived.Deep.QuietTactic
import Derived.IntWalk
import Derived.Outline
import Derived.Lib.Hide
import Derived.Below
import Derived.KernelRfl
namespace Go.Proofs.Ytibafngidpmgdaa
set_option linter.unusedSimpArgs false
set_option linter.unusedVariables false
open Go.RowKit

set_option maxHeartbeats 4000000 in
set_option maxRecDepth 100000 in
/-- spec.l04At. -/
theorem l04At_any (A : Option Addr) (n c : Nat) (ks : List Key) (t : Int) (w : World) (hv : RdK w A n ks) (hk : keysB ks = true) (ht0 : tk ks 0 ≤ t) (ht1 : t ≤ tk ks (n - 1)) :
    Calls Try.prog 110 #[.slice A n c, .int .i64 t] w fun e w' => ∃ v, e = .returned v ∧ Pts w' w.heap.size v (poseAtN ks t) ∧ Below w.heap.size w w' := by
  have hn := hv.2.1
  have HL := Lib.hid hv.1
  obtain ⟨hk1, hk2, hko⟩ := keysB_ok hk
  rw [hv.1] at hk1 hk2
  have HO := Lib.hid hko
  have HV := Lib.hid hv
  have tb0 := (HO.out 0 (by rw [HL.out]; omega)).1
  have tb1 := (HO.out (n - 1) (by rw [HL.out]; omega)).2.1
  have h0t : 0 ≤ t := Int.le_trans tb0 ht0
  have ht9 : t ≤ 10000 := Int.le_trans ht1 tb1
  have HT0 := Lib.hid ht0
  have HT1 := Lib.hid ht1
  clear hv hk hko tb0 tb1 ht0 ht1
  go_enter Try.func110, Try.ntmps110
  go_wp2
  go_loopw [5] (fun i wr => ∃ k : Nat, 1 ≤ k ∧ k ≤ n ∧ i = .int .i64 k ∧ Hid (∀ j, j < k → j = 0 ∨ tk ks j < t) ∧ Hid (Below w.heap.size w wr)) (fun i _ => n - (intOf i).toNat)
  case atStart => exact ⟨1, Nat.le_refl _, hk1, rfl, Lib.hid (fun j hj => by omega), Lib.hid (Below.refl _ _)⟩
  case round =>
    obtain ⟨k, hk0, hkn, rfl, HP, HB⟩ := hrel
    by_cases hkn2 : k < n
    · obtain ⟨i, rfl⟩ : ∃ i, k = i + 1 := ⟨k - 1, by omega⟩
      obtain ⟨_, _, h3⟩ := HV.out.below HB.out
      rcases h3 with h0 | ⟨g, rfl, hg, h3⟩
      · omega
      obtain ⟨c0, A1, f1, c1, r1⟩ := h3 i (by omega)
      obtain ⟨c2, A2, f2, c3, r2⟩ := h3 (i + 1) hkn2
      have k1 := HO.out i (by omega)
      have k2 := HO.out (i + 1) (by rw [HL.out]; exact hkn2)
      have hl1 := k1.2.2.2.1
      have hl2 := k2.2.2.2.1
      have hlm : (ks.getD (i + 1) Go.Proofs.Ytibafngidpmgdaa.k0).2.length = (ks.getD i Go.Proofs.Ytibafngidpmgdaa.k0).2.length := by rw [hl1, hl2]
      rw [hlm] at c3 r2
      have hr := tk_lt HO.out (i := i) (j := i + 1) (by omega) (by rw [HL.out]; exact hkn2)
      have hwi : IntKind.i64.wrap ((i : Int) + 1 - 1) = (i : Int) := by rw [IntWalk.i64_in _ (by omega)]; omega
      have hwj : IntKind.i64.wrap (i : Int) = (i : Int) := IntWalk.i64_in _ (by omega)
      have hcast := Lib.hid (show ((i + 1 : Nat) : Int) = (i : Int) + 1 from by omega)
      have x0 : (0:Int) ≤ (i:Int) := by omega
      have x1 : (i:Int) < n := by omega
      have x2 : (i:Int) + 1 < n := by omega
      have x3 : (0:Int) ≤ (i:Int) + 1 := by omega
      by_cases hle : t ≤ tk ks (i + 1)
      · have hge : tk ks i ≤ t := by
          by_cases hi0 : i = 0
          · subst hi0
            exact HT0.out
          · rcases HP.out i (by omega) with h | h
            · omega
            · omega
        have HS := Lib.hid (show poseAtN ks t = segN ks t (i + 1) by
          unfold poseAtN
          rw [HL.out]
          exact atFrom_hit ks t (n - 1) 1 (i + 1) (by omega) (by omega) hle (fun j a b => by
            rcases HP.out j b with h | h
            · omega
            · exact h))
        have HQ := Lib.hid (show poseB (jt ks i) = true ∧ poseB (jt ks (i + 1)) = true from ⟨k1.2.2.1, k2.2.2.1⟩)
        have HSG := Lib.hid (show segN ks t (i + 1) = mixL (jt ks i) (jt ks (i + 1)) (t - tk ks i) (tk ks (i + 1) - tk ks i) (ks.getD i Go.Proofs.Ytibafngidpmgdaa.k0).2.length by unfold segN; rw [show i + 1 - 1 = i by omega]; show mixL _ _ _ _ (ks.getD 0 Go.Proofs.Ytibafngidpmgdaa.k0).2.length = _; rw [hl1])
        have a0 := k1.1
        have a1 := k1.2.1
        have a2 := k2.1
        have a3 := k2.2.1
        have hdl : decide (t ≤ (ks.getD (i + 1) Go.Proofs.Ytibafngidpmgdaa.k0).1) = true := decide_eq_true hle
        simp only [tk] at hle hge hr HSG
        have RV := Lib.hid (fun q (hb : Below wr.heap.size wr q) => And.intro (r1.below hb) (r2.below hb))
        have CO := Lib.hid (fun q (hb : Below wr.heap.size wr q) => l04Between_any A1 A2 (ks.getD i Go.Proofs.Ytibafngidpmgdaa.k0).2.length f1 f2 (jt ks i) (jt ks (i + 1)) (t - (ks.getD i Go.Proofs.Ytibafngidpmgdaa.k0).1) ((ks.getD (i + 1) Go.Proofs.Ytibafngidpmgdaa.k0).1 - (ks.getD i Go.Proofs.Ytibafngidpmgdaa.k0).1) q (RV.out q hb).1 (RV.out q hb).2 HQ.out.1 HQ.out.2 (by omega) (by omega) (by omega) (by omega))
        have hw1 : IntKind.i64.wrap (t - (ks.getD i Go.Proofs.Ytibafngidpmgdaa.k0).1) = t - (ks.getD i Go.Proofs.Ytibafngidpmgdaa.k0).1 := IntWalk.i64_in _ (by omega)
        have hw2 : IntKind.i64.wrap ((ks.getD (i + 1) Go.Proofs.Ytibafngidpmgdaa.k0).1 - (ks.getD i Go.Proofs.Ytibafngidpmgdaa.k0).1) = (ks.getD (i + 1) Go.Proofs.Ytibafngidpmgdaa.k0).1 - (ks.getD i Go.Proofs.Ytibafngidpmgdaa.k0).1 := IntWalk.i64_in _ (by omega)
        clear h3 k1 k2 hl1 hl2 hlm hr hge r1 r2 RV a0 a1 a2 a3 hle HP
        generalize (ks.getD i Go.Proofs.Ytibafngidpmgdaa.k0).1 = t0 at *
        generalize (ks.getD (i + 1) Go.Proofs.Ytibafngidpmgdaa.k0).1 = t1 at *
        generalize (ks.getD i Go.Proofs.Ytibafngidpmgdaa.k0).2.length = m at *
        rw [hcast.out]
        go_wp2
        go_region_held3 (fun w' => w'.cell? ⟨g, i * 2, none⟩ = some (.int .i64 t0) ∧ w'.cell? ⟨g, i * 2 + 1, none⟩ = some (.slice A1 m f1) ∧ w'.cell? ⟨g, (i + 1) * 2, none⟩ = some (.int .i64 t1) ∧ w'.cell? ⟨g, (i + 1) * 2 + 1, none⟩ = some (.slice A2 m f2)) (go_keep)
          (first
            | (go_at_call 107; with_reducible refine (CO.out _ (Below.drew (Below.refl _ _))).mono ?_; rintro e w3 ⟨v, rfl, p3, hb3⟩; have HP3 := Lib.hid p3; clear p3; have HB3 := Lib.hid hb3; obtain ⟨hc4, hf4⟩ := bCells hb3; have e0 : w3.cell? ⟨g, i * 2, none⟩ = some (.int .i64 t0) := (hc4 _ _ (by first | exact hg | simpa using hg)).trans (by first | exact c0 | simpa using c0); have e1 : w3.cell? ⟨g, i * 2 + 1, none⟩ = some (.slice A1 m f1) := (hc4 _ _ (by first | exact hg | simpa using hg)).trans (by first | exact c1 | simpa using c1); have e2 : w3.cell? ⟨g, (i + 1) * 2, none⟩ = some (.int .i64 t1) := (hc4 _ _ (by first | exact hg | simpa using hg)).trans (by first | exact c2 | simpa using c2); have e3 : w3.cell? ⟨g, (i + 1) * 2 + 1, none⟩ = some (.slice A2 m f2) := (hc4 _ _ (by first | exact hg | simpa using hg)).trans (by first | exact c3 | simpa using c3)))
        have P := Lib.hid (Pts.base HP3.out (B' := w.heap.size) (by have := HB.out.size; simp; omega))
        have B3 := Lib.hid (bTrans HB.out (bUndrew HB3.out))
        clear HP3 HB3 hc4 hf4 e0 e1 e2 e3
        go_wp2
        go_ret
        exact ⟨v, rfl, by rw [HS.out, HSG.out]; exact P.out, B3.out⟩
      · have HG := Lib.hid (show tk ks (i + 1) < t from Int.not_le.1 hle)
        have hdl : decide (t ≤ (ks.getD (i + 1) Go.Proofs.Ytibafngidpmgdaa.k0).1) = false := decide_eq_false hle
        simp only [tk] at hle hr
        clear h3 k1 k2 hl1 hl2 hlm r1 r2 hr
        generalize (ks.getD i Go.Proofs.Ytibafngidpmgdaa.k0).1 = t0 at *
        generalize hT : (ks.getD (i + 1) Go.Proofs.Ytibafngidpmgdaa.k0).1 = t1 at *
        generalize (ks.getD i Go.Proofs.Ytibafngidpmgdaa.k0).2.length = m at *
        clear hT
        rw [hcast.out]
        go_wp2
        go_roundw
        case rel => exact ⟨i + 1 + 1, by omega, by omega, by go_num, Lib.hid (fun j hj => by
          by_cases hji : j < i + 1
          · exact HP.out j hji
          · have : j = i + 1 := by omega
            rw [this]
            exact .inr HG.out), HB⟩
        case measure => simp [intOf]; omega
    · have : k = n := by omega
      subst this
      have hn1 : k = 1 := by
        by_cases h1 : k = 1
        · exact h1
        · rcases HP.out (k - 1) (by omega) with h | h
          · omega
          · have := HT1.out
            omega
      subst hn1
      obtain ⟨_, _, h3⟩ := HV.out.below HB.out
      rcases h3 with h0 | ⟨g, rfl, hg, h3⟩
      · omega
      obtain ⟨c0, A1, f1, c1, r1⟩ := h3 0 (by omega)
      have k1 := HO.out 0 (by rw [HL.out]; omega)
      have HS := Lib.hid (show poseAtN ks t = jt ks 0 by
        have : t = tk ks 0 := Int.le_antisymm HT1.out HT0.out
        rw [this]
        exact poseAt_key HO.out (by rw [HL.out]; omega))
      have hm := poseB_len k1.2.2.1
      obtain ⟨i0, hi, hz0, hz1, hz2⟩ := info_parts infoPt
      have HLm := Lib.hid r1.1
      obtain ⟨-, -, r3⟩ := r1
      rcases r3 with h0 | ⟨g1, rfl, hg1, r3⟩
      · omega
      have HN := Lib.hid (Rd.news HLm.out r3)
      have HE : Hid ((wr.alloc (.cells #[] 57)).ownsRow wr.heap.size 57 2 (.slice (some ⟨wr.heap.size, 0, none⟩) 0 0) 0 []) := Lib.hid (World.ownsRow_lit wr #[] 0 (Nat.le_refl _) (Nat.zero_le _) rfl)
      have hm1 := hm.1
      have hm2 := hm.2
      clear h3 r3 k1 hm
      generalize (ks.getD 0 Go.Proofs.Ytibafngidpmgdaa.k0).1 = t0 at *
      simp only [Nat.zero_mul, Nat.zero_add] at c0 c1
      have HJ := Lib.hid (show jt ks 0 = (ks.getD 0 Go.Proofs.Ytibafngidpmgdaa.k0).2 from rfl)
      generalize hJ : (ks.getD 0 Go.Proofs.Ytibafngidpmgdaa.k0).2 = ps at *
      clear hJ
      go_wp2_with (first | (at_builtin; refine wpList_append_own _ rfl _ _ 24 rfl wr.heap.size 57 i0 (fr 0 0) 2 16 Try.underlying24 hi hz0 hz1 hz2 rfl (by decide) _ _ _ rfl (World.ownsRow_lit wr #[] 0 (Nat.le_refl _) (Nat.zero_le _) rfl) ⟨g1, 0, none⟩ ps.length f1 (flat ps) rfl (by rw [flat_length]) (fun j u hj => (World.cell?_alloc_lt wr _ _ (by rw [addP]; exact hg1)).trans (HN.out j u hj)) (flat_oneCell ps) (by unfold maxLen; omega) (by omega) (by simp) ?_; intro v' w1 hown' hgrow hnil) | fail)
      have HO2 := Lib.hid hown'
      have HB2 := Lib.hid (Below.grown (bAlloc (Below.refl _ wr) _) hgrow (by simp) (fun j hj => (World.ownsRow.lt HE.out j hj).1))
      clear hown' hgrow hnil HN
      have hP : Pts w1 wr.heap.size v' ps := by
        unfold Pts
        simpa using HO2.out
      have P := Lib.hid (Pts.base hP (B' := w.heap.size) HB.out.size)
      have B3 := Lib.hid (bTrans HB.out HB2.out)
      clear hP HO2 HB2
      go_wp2
      go_ret
      exact ⟨v', rfl, by rw [HS.out, HJ.out]; exact P.out, B3.out⟩

end Go.Proofs.Ytibafngidpmgdaa
