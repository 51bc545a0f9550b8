/- Open parts: one part, the parts before one, the parts between two; in the program and in the model. -/
import Derived.Test.YtflgjohknjgdcaaProg
import Derived.Test.YtflgjohknjgdcaaBldFn4
import Derived.Test.YtflgjohknjgdcaaBldOp
import Derived.Test.YtflgjohknjgdcaaLitMath
import Derived.Laws.Cover1
import Derived.Deep.RegionWith
import Derived.Deep.RegionHeld3
import Derived.Deep.DrawnRows
import Derived.Deep.DeepCutAuto
import Derived.Tactics
import Derived.Tactics2
import Derived.WalkKit
import Derived.LoopTactic
import Derived.BigQuiet
import Derived.BigRegion
import Derived.RegionTactic
import Derived.Deep.QuietTactic
import Derived.Outline
import Derived.Lib.Hide
import Derived.Below
import Derived.KernelRfl
namespace Go.Proofs.Ytflgjohknjgdcaa
set_option linter.unusedSimpArgs false
set_option linter.unusedVariables false
open Go.RowKit

/-- How many parts before a part are open. -/
def beforeN (S G x : Nat) : Nat := cnt (openB S G) x
theorem beforeN_eq {S G : Nat} (hS : 0 < S) (hG : G ≤ S) (x : Nat) : x / S * G + min (x % S) G = beforeN S G x := before_eq S G hS hG x
theorem beforeN_le (S G x : Nat) : beforeN S G x ≤ x := cnt_le _ _
theorem beforeN_mono (S G : Nat) {x y : Nat} (h : x ≤ y) : beforeN S G x ≤ beforeN S G y := by
  obtain ⟨d, rfl⟩ := Nat.exists_eq_add_of_le h
  rw [beforeN, beforeN, cnt_cut]
  omega

theorem implOpen_yes (m o : Int) {M S G : Nat} (W : Wh m o M S G) (h1 : bladesB m o = true) (p : Nat) (h4 : inB p 0 999 = true) (w : World) :
    Calls Try.prog 34 #[fr m o, .int .i64 p] w fun e w' => e = .returned (.tuple #[.bool (openB S G p), .int .i64 0]) ∧ Below w.heap.size w w' := by
  obtain ⟨s1, s2, s3, s4, m1, m2, o1, o2, m0⟩ := W.sb
  have gs := W.gs
  obtain ⟨p0, p1⟩ := inB_iff.1 h4
  go_enter Try.func34, Try.ntmps34
  go_wp2_with fail
  refine (validBlades_any m o _).mono ?_
  rintro e u1 ⟨rfl, hb1⟩
  obtain ⟨a0, b0, f0, g0, z0⟩ : Bk u1 w.heap.size m o := bkOf hb1 (by refine ⟨?_, ?_, ?_, ?_, ?_⟩ <;> go_simp)
  go_wp2_with fail
  refine (isPart_any _ _).mono ?_
  rintro e u ⟨rfl, rfl⟩
  go_wp2_with fail
  refine (opening_any m o W _).mono ?_
  rintro e u2 ⟨b1, b2, rfl, hop, hb2⟩
  go_wp2_with fail
  refine (opening1_any b1 b2 p _ hop (by omega) s2 (by omega) (by omega)).mono ?_
  rintro e u3 ⟨rfl, n, rfl⟩
  go_wp2_with fail
  go_ret2
  refine ⟨rfl, bDrewN (bTrans (bTrans (bAlloc (Below.refl _ _) _) hb1) hb2) n⟩

theorem specOpen_yes (m o : Int) {M S G : Nat} (W : Wh m o M S G) (h1 : bladesB m o = true) (p : Nat) (h4 : inB p 0 999 = true) (w : World) :
    Calls Try.prog 45 #[fr m o, .int .i64 p] w fun e w' => e = .returned (.tuple #[.bool (openB S G p), .int .i64 0]) ∧ Below w.heap.size w w' := by
  obtain ⟨p0, p1⟩ := inB_iff.1 h4
  go_enter Try.func45, Try.ntmps45
  go_wp2_with fail
  refine (l09Ok_any _ m o _ (bkNew _ _ _ _)).mono ?_
  rintro e u ⟨rfl, n1, rfl⟩
  go_wp2_with fail
  refine (l00In_any _ _ _ _).mono ?_
  rintro e u ⟨rfl, rfl⟩
  go_wp2_with fail
  refine (l09Open_any _ m o W p _ (bkOf (bDrewN (Below.refl _ _) n1) (bkNew _ _ _ _)) (by omega)).mono ?_
  rintro e u ⟨rfl, n2, rfl⟩
  go_wp2_with fail
  go_ret2
  exact ⟨rfl, bDrewN (bAlloc (Below.refl _ _) _) (n1 + n2)⟩

theorem w64id {n : Int} (h0 : 0 ≤ n) (h1 : n ≤ 1000000) : wrap64 n = n := by unfold wrap64; omega
def lo9 (a b : Int) : Int := if b < a then b else a
theorem lo9_eq (a b : Int) : lo9 a b = min a b := by
  unfold lo9
  split <;> omega
@[local go_sem high] theorem run_min_9 {P : Program} (w : World) (ts : Array TypeId) (t : TypeId) (k k' : IntKind) (x y : Int) : (Builtin.min_ ts t #[.int k x, .int k' y]).run P w = .ok (.int k (lo9 x y)) w := by
  simp [Builtin.min_, Builtin.min2, lo9]

set_option maxHeartbeats 4000000 in
/-- impl.Blades.openBefore. -/
theorem openBefore_any (m o : Int) {M S G : Nat} (W : Wh m o M S G) (x : Nat) (hx : x ≤ 1000) (w : World) :
    Calls Try.prog 74 #[fr m o, .int .i64 x] w fun e w' => e = .returned (.int .i64 (beforeN S G x)) ∧ Below w.heap.size w w' := by
  obtain ⟨s1, s2, s3, s4, m1, m2, o1, o2, m0⟩ := W.sb
  have gs := W.gs
  have hB := Lib.hid (beforeN_eq (S := S) (G := G) (by omega) (by omega) x)
  have hle := beforeN_le S G x
  go_enter Try.func74, Try.ntmps74
  go_upto_region 1 with fail
  have B0 := bkNew w m o 25
  have h0 := Lib.hid (bAlloc (Below.refl w.heap.size w) (.cells #[.int .i64 m, .int .i64 o] 25))
  generalize w.alloc (.cells #[.int .i64 m, .int .i64 o] 25) = u3 at *
  obtain ⟨a0, b0, f0, g0, z0⟩ := B0
  have MK := Lib.hid (fun v (hb : Below u3.heap.size u3 v) => (⟨(hb.cell (p := ⟨w.heap.size, 0, none⟩) z0).trans a0, (hb.cell (p := ⟨w.heap.size, 1, none⟩) z0).trans b0, hb⟩ : v.cell? ⟨w.heap.size, 0, none⟩ = some (.int .i64 m) ∧ v.cell? ⟨w.heap.size, 1, none⟩ = some (.int .i64 o) ∧ Below u3.heap.size u3 v))
  have HB := Lib.hid (Below.refl u3.heap.size u3)
  go_region_held3 (fun v => v.cell? ⟨w.heap.size, 0, none⟩ = some (.int .i64 m) ∧ v.cell? ⟨w.heap.size, 1, none⟩ = some (.int .i64 o) ∧ Below u3.heap.size u3 v) ((refine MK.out _ ?_; repeat (first | with_reducible exact HB.out | with_reducible exact Below.refl _ _ | with_reducible refine Below.drew ?_))) (first | (go_at_call 84; refine (sector_any m o W _).mono ?_; rintro e v ⟨rfl, hbv⟩; have HB := Lib.hid (bTrans (‹_ ∧ _ ∧ Below _ u3 _›).2.2 hbv)) | (go_at_call 85; refine (gap_any m o W _).mono ?_; rintro e v ⟨rfl, hbv⟩; have HB := Lib.hid (bTrans (‹_ ∧ _ ∧ Below _ u3 _›).2.2 hbv)))
  have HW := Lib.hid (h0.out.trans (HB.out.mono (Nat.le_of_lt z0)))
  clear HB MK h0
  have hS0 : ¬ (S : Int) = 0 := by omega
  obtain ⟨q, hq⟩ : ∃ q, x / S = q := ⟨_, rfl⟩
  obtain ⟨r, hr⟩ : ∃ r, x % S = r := ⟨_, rfl⟩
  have hq1 : q ≤ 1000 := by rw [← hq]; exact Nat.le_trans (Nat.div_le_self _ _) hx
  have e1 : (x : Int) / (S : Int) = (q : Int) := by rw [← hq]; rfl
  have e2 : (x : Int) % (S : Int) = (r : Int) := by rw [← hr]; rfl
  rw [hq, hr] at hB
  have hm : lo9 (r : Int) (G : Int) = ((min r G : Nat) : Int) := by rw [lo9_eq]; omega
  obtain ⟨t, ht⟩ : ∃ t, q * G = t := ⟨_, rfl⟩
  have hb := hB.out
  rw [ht] at hb
  have e3 : IntKind.i64.wrap ((q : Int) * (G : Int)) = (t : Int) := by
    rw [← Int.natCast_mul, ht]
    exact IntWalk.i64_in _ (by omega)
  generalize min r G = z at *
  generalize hy : beforeN S G x = y at *
  have e4 : wrap64 (wrap64 ((q : Int) * (G : Int)) + (z : Int)) = (y : Int) := by
    rw [← Int.natCast_mul, ht, w64id (n := (t : Int)) (by omega) (by omega), w64id (by omega) (by omega)]
    omega
  have E4 := Lib.hid e4
  have HY := Lib.hid hy
  clear hB hq hr ht hb e3 e4 hy
  go_wp2_with fail
  go_quiet (fail)
  go_wp2_with fail
  go_ret
  refine ⟨?_, bDrewN HW.out _⟩
  rw [HY.out, ← E4.out]
  rfl

end Go.Proofs.Ytflgjohknjgdcaa
