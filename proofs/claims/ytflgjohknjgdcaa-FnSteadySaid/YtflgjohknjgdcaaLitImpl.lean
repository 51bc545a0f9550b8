/- The light of two wheels in the program: at how many parts it passes both; the best offset. -/
import Derived.Test.YtflgjohknjgdcaaProg
import Derived.Test.YtflgjohknjgdcaaLightOf
import Derived.Test.YtflgjohknjgdcaaBoth
import Derived.Laws.Cover1
import Derived.Deep.RegionWith
import Derived.Deep.RegionHeld3
import Derived.Deep.DrawnRows
import Derived.Deep.DeepCutAuto
import Derived.Tactics
import Derived.Tactics2
import Derived.WalkKit
import Derived.LoopTactic
import Derived.BigQuiet
import Derived.BigRegion
import Derived.RegionTactic
import Derived.Deep.QuietTactic
import Derived.Outline
import Derived.Lib.Hide
import Derived.Below
import Derived.KernelRfl
namespace Go.Proofs.Ytflgjohknjgdcaa
set_option linter.unusedSimpArgs false
set_option linter.unusedVariables false
open Go.RowKit

theorem lightOf_any (ma oa mb ob : Int) {Ma Sa Ga Mb Sb Gb : Nat} (WA : Wh ma oa Ma Sa Ga) (WB : Wh mb ob Mb Sb Gb) (w : World) :
    Calls Try.prog 81 #[fr ma oa, fr mb ob] w fun e w' => ∃ pf pi b1 b2 : Nat, e = .returned (.func (.func 98) #[] #[.pointer (some ⟨pf, 0, none⟩), .pointer (some ⟨pi, 0, none⟩)]) ∧ Lt w' pf pi b1 b2 (openB Sa Ga) Sb Gb ∧ Below w.heap.size w w' :=
  (lightOf_of ma oa mb ob WA WB _ rfl w).mono fun _ _ ⟨pf, pi, b1, b2, h1, ⟨h2, h3, h4, h5⟩, h6⟩ => ⟨pf, pi, b1, b2, h1, ⟨h2, h3, h4.1, h4.2.1, h5⟩, h6⟩

theorem light_any (pf pi b1 b2 : Nat) {Sa Ga Sb Gb : Nat} (y : Nat) (w : World) (h : Lt w pf pi b1 b2 (openB Sa Ga) Sb Gb) (hS : 1 ≤ Sb) (hS2 : Sb ≤ 1000) (hG : Gb ≤ 1000) (hy : y ≤ 1000) :
    Calls Try.prog 98 #[.int .i64 y, .pointer (some ⟨pf, 0, none⟩), .pointer (some ⟨pi, 0, none⟩)] w fun e w' => e = .returned (.int .i64 (litN Sa Ga Sb Gb y)) ∧ Below w.heap.size w w' :=
  light1_of pf pi b1 b2 (openB Sa Ga) y _ _ rfl rfl w h hS hS2 hG hy

theorem implTwo_yes (m o m2 o2 : Int) {Ma Sa Ga Mb Sb Gb : Nat} (WA : Wh m o Ma Sa Ga) (WB : Wh m2 o2 Mb Sb Gb) (h1 : bladesB m o = true) (h2 : bladesB m2 o2 = true) (y : Nat) (h4 : inB y 0 999 = true) (w : World) :
    Calls Try.prog 36 #[fr m o, fr m2 o2, .int .i64 y] w fun e w' => e = .returned (.tuple #[.int .i64 (litN Sa Ga Sb Gb y), .int .i64 0]) ∧ Below w.heap.size w w' := by
  obtain ⟨y0, y1⟩ := inB_iff.1 h4
  have sb := WB.sb
  have gb := WB.gs
  go_enter Try.func36, Try.ntmps36
  go_wp2_with fail
  refine (validBlades_any m o _).mono ?_
  rintro e u1 ⟨rfl, hb1⟩
  have P0 : Bk u1 w.heap.size m o := bkOf hb1 (by refine ⟨?_, ?_, ?_, ?_, ?_⟩ <;> go_simp)
  have P1 : Bk u1 (w.heap.size + 1) m2 o2 := bkOf hb1 (by refine ⟨?_, ?_, ?_, ?_, ?_⟩ <;> go_simp)
  have Q1 := P1
  obtain ⟨a1, b1, f1, g1, z1⟩ := Q1
  go_wp2_with fail
  refine (validBlades_any m2 o2 _).mono ?_
  rintro e u2 ⟨rfl, hb2⟩
  obtain ⟨a2, b2, f2, g2, z2⟩ := bkOf hb2 P0
  clear a1 b1 f1 g1 z1
  obtain ⟨a1, b1, f1, g1, z1⟩ := bkOf hb2 P1
  go_wp2_with fail
  refine (isPart_any _ _).mono ?_
  rintro e u ⟨rfl, rfl⟩
  go_wp2_with fail
  refine (lightOf_any m o m2 o2 WA WB _).mono ?_
  rintro e u3 ⟨pf, pi, c1, c2, rfl, hL, hb3⟩
  go_wp2_with fail
  refine (light_any pf pi c1 c2 y _ hL (by omega) (by omega) (by omega) (by omega)).mono ?_
  rintro e u4 ⟨rfl, hb4⟩
  go_wp2_with fail
  go_ret2
  exact ⟨rfl, bTrans (bTrans (bTrans (bTrans (bAlloc (bAlloc (Below.refl _ _) _) _) hb1) hb2) hb3) hb4⟩

/-- Where the program's search for the best offset stands behind k offsets. -/
def TopZ (f : Nat → Nat) (k b m : Nat) : Prop := (k = 0 ∧ b = 0 ∧ m = 0) ∨ IsTop f k b m

set_option maxHeartbeats 4000000 in
set_option maxRecDepth 100000 in
theorem implBest_yes (m o m2 o2 : Int) {Ma Sa Ga Mb Sb Gb : Nat} (WA : Wh m o Ma Sa Ga) (WB : Wh m2 o2 Mb Sb Gb) (h1 : bladesB m o = true) (h2 : bladesB m2 o2 = true) (B M : Nat) (hT : IsTop (litN Sa Ga Sb Gb) 1000 B M) (w : World) :
    Calls Try.prog 47 #[fr m o, fr m2 o2] w fun e w' => e = .returned (.tuple #[.int .i64 B, .int .i64 M, .int .i64 0]) ∧ Below w.heap.size w w' := by
  have sa := WA.sb
  have sb := WB.sb
  have gb := WB.gs
  have hper := Lib.hid (lit_per Sa Ga Sb Gb WA.ms WB.ms)
  have g1000 : Nat.gcd Sa Sb ≤ 1000 := Nat.le_trans (Nat.gcd_le_left Sb (by omega)) (by omega)
  have gpos : 1 ≤ Nat.gcd Sa Sb := Nat.gcd_pos_of_pos_left Sb (by omega)
  have HT0 := Lib.hid hT
  clear hT
  go_enter Try.func47, Try.ntmps47
  go_wp2_with fail
  refine (validBlades_any m o _).mono ?_
  rintro e u1 ⟨rfl, hb1⟩
  have P0 : Bk u1 w.heap.size m o := bkOf hb1 (by refine ⟨?_, ?_, ?_, ?_, ?_⟩ <;> go_simp)
  have P1 : Bk u1 (w.heap.size + 1) m2 o2 := bkOf hb1 (by refine ⟨?_, ?_, ?_, ?_, ?_⟩ <;> go_simp)
  have Q1 := P1
  obtain ⟨a1, b1, f1, g1, z1⟩ := Q1
  go_wp2_with fail
  refine (validBlades_any m2 o2 _).mono ?_
  rintro e u2 ⟨rfl, hb2⟩
  have P2 := bkOf hb2 P0
  have P3 := bkOf hb2 P1
  clear a1 b1 f1 g1 z1
  have Q2 := P2
  have Q3 := P3
  obtain ⟨a2, b2, f2, g2, z2⟩ := Q2
  obtain ⟨a1, b1, f1, g1, z1⟩ := Q3
  go_wp2_with fail
  refine (lightOf_any m o m2 o2 WA WB _).mono ?_
  rintro e u3 ⟨pf, pi, c1, c2, rfl, hL, hb3⟩
  have HL := Lib.hid hL
  have h0 := Lib.hid (bTrans (bTrans (bTrans (bAlloc (bAlloc (Below.refl w.heap.size w) _) _) hb1) hb2) hb3)
  have P4 := bkOf hb3 P2
  have P5 := bkOf hb3 P3
  have hz3 := bTrans (bTrans (bTrans (bAlloc (bAlloc (Below.refl w.heap.size w) (.cells #[.int .i64 m, .int .i64 o] 25)) (.cells #[.int .i64 m2, .int .i64 o2] 25)) hb1) hb2) hb3
  have hz := hz3.size
  clear a1 b1 f1 g1 z1 a2 b2 f2 g2 z2 P0 P1 P2 P3 hb1 hb2 hb3 hL hz3
  go_upto_region 5 with fail
  obtain ⟨a0, b0, f0, g0, z0⟩ := P4
  obtain ⟨a1, b1, f1, g1, z1⟩ := P5
  have MK := Lib.hid (fun v (hb : Below u3.heap.size u3 v) => (⟨(hb.cell (p := ⟨w.heap.size, 0, none⟩) z0).trans a0, (hb.cell (p := ⟨w.heap.size, 1, none⟩) z0).trans b0, (hb.cell (p := ⟨w.heap.size + 1, 0, none⟩) z1).trans a1, (hb.cell (p := ⟨w.heap.size + 1, 1, none⟩) z1).trans b1, hb⟩ : v.cell? ⟨w.heap.size, 0, none⟩ = some (.int .i64 m) ∧ v.cell? ⟨w.heap.size, 1, none⟩ = some (.int .i64 o) ∧ v.cell? ⟨w.heap.size + 1, 0, none⟩ = some (.int .i64 m2) ∧ v.cell? ⟨w.heap.size + 1, 1, none⟩ = some (.int .i64 o2) ∧ Below u3.heap.size u3 v))
  have HB := Lib.hid (Below.refl u3.heap.size u3)
  go_region_held3 (fun v => v.cell? ⟨w.heap.size, 0, none⟩ = some (.int .i64 m) ∧ v.cell? ⟨w.heap.size, 1, none⟩ = some (.int .i64 o) ∧ v.cell? ⟨w.heap.size + 1, 0, none⟩ = some (.int .i64 m2) ∧ v.cell? ⟨w.heap.size + 1, 1, none⟩ = some (.int .i64 o2) ∧ Below u3.heap.size u3 v) ((refine MK.out _ ?_; repeat (first | with_reducible exact HB.out | with_reducible exact Below.refl _ _ | with_reducible refine Below.drew ?_))) (first | (go_at_call_of 84 (Value.agg #[.int .i64 m, .int .i64 o]); refine (sector_any m o WA _).mono ?_; rintro e v ⟨rfl, hbv⟩; have HB := Lib.hid (bTrans (‹_ ∧ _ ∧ _ ∧ _ ∧ Below _ u3 _›).2.2.2.2 hbv)) | (go_at_call_of 84 (Value.agg #[.int .i64 m2, .int .i64 o2]); refine (sector_any m2 o2 WB _).mono ?_; rintro e v ⟨rfl, hbv⟩; have HB := Lib.hid (bTrans (‹_ ∧ _ ∧ _ ∧ _ ∧ Below _ u3 _›).2.2.2.2 hbv)) | (go_at_call 87; refine (greatestDivisor_any Sa Sb _ (by omega) (by omega)).mono ?_; rintro e v ⟨rfl, nd, rfl⟩; have HB := Lib.hid (bDrewN (‹_ ∧ _ ∧ _ ∧ _ ∧ Below _ u3 _›).2.2.2.2 nd)))
  have HU := Lib.hid (HL.out.below HB.out)
  have HW := Lib.hid (h0.out.trans (HB.out.mono (by omega)))
  clear MK HB HL h0 a0 b0 f0 g0 z0 a1 b1 f1 g1 z1
  generalize hg : Nat.gcd Sa Sb = g at *
  have HG := Lib.hid hg
  clear hg
  generalize v.drewN nd = u at *
  go_wp2_with fail
  go_loopw [8, 9, 28] (fun s t z wr => ∃ (k b mm : Nat), k ≤ g ∧ b ≤ 1000 ∧ mm ≤ 1000 ∧ s = .int .i64 b ∧ t = .int .i64 mm ∧ z = .int .i64 k ∧ Hid (TopZ (litN Sa Ga Sb Gb) k b mm) ∧ Hid (Below u.heap.size u wr)) (fun _ _ z _ => g - (intOf z).toNat)
  case atStart => exact ⟨0, 0, 0, by omega, by omega, by omega, rfl, rfl, rfl, Lib.hid (.inl ⟨rfl, rfl, rfl⟩), Lib.hid (Below.refl _ _)⟩
  case round =>
    obtain ⟨k, b, mm, k2, kb, km, rfl, rfl, rfl, HT, HBr⟩ := hrel
    by_cases hlt : k < g
    · have hLi := Lib.hid (light_any pf pi c1 c2 k wr (HU.out.below HBr.out) (by omega) (by omega) (by omega) (by omega))
      have lx := lit_le Sa Ga Sb Gb k
      obtain ⟨x, hx⟩ : ∃ x, litN Sa Ga Sb Gb k = x := ⟨_, rfl⟩
      rw [hx] at hLi lx
      by_cases hgr : mm < x
      · have hN : Hid (TopZ (litN Sa Ga Sb Gb) (k + 1) k x) := Lib.hid (by
          rcases HT.out with ⟨rfl, _, _⟩ | ht
          · exact .inr (by rw [← hx]; exact IsTop.one _)
          · exact .inr (by rw [← hx]; exact ht.greater (by rw [hx]; omega)))
        clear hx
        go_wp2_with fail
        refine hLi.out.mono ?_
        rintro e v ⟨rfl, hbv⟩
        have HBv := Lib.hid (HBr.out.trans (hbv.mono HBr.out.size))
        clear hbv
        go_wp2_with fail
        go_roundw
        case rel => exact ⟨k + 1, k, x, by omega, by omega, by omega, rfl, rfl, by go_num, hN, HBv⟩
        case measure => simp [intOf]; omega
      · have hN : Hid (TopZ (litN Sa Ga Sb Gb) (k + 1) b mm) := Lib.hid (by
          rcases HT.out with ⟨rfl, rfl, rfl⟩ | ht
          · have e0 : litN Sa Ga Sb Gb 0 = 0 := by omega
            have h1 := IsTop.one (litN Sa Ga Sb Gb)
            rw [e0] at h1
            exact .inr h1
          · exact .inr (ht.same (by rw [hx]; omega)))
        clear hx
        go_wp2_with fail
        refine hLi.out.mono ?_
        rintro e v ⟨rfl, hbv⟩
        have HBv := Lib.hid (HBr.out.trans (hbv.mono HBr.out.size))
        clear hbv
        go_wp2_with fail
        go_roundw
        case rel => exact ⟨k + 1, b, mm, by omega, by omega, by omega, rfl, rfl, by go_num, hN, HBv⟩
        case measure => simp [intOf]; omega
    · have : k = g := by omega
      subst this
      have hE : b = B ∧ mm = M := by
        rcases HT.out with ⟨h, _, _⟩ | ht
        · omega
        · have hp := hper.out
          exact (ht.more hp g1000).unique HT0.out
      obtain ⟨rfl, rfl⟩ := hE
      have HE := Lib.hid (HW.out.trans (HBr.out.mono HW.out.size))
      go_wp2_with fail
      go_ret3
      exact ⟨rfl, HE.out⟩

end Go.Proofs.Ytflgjohknjgdcaa
