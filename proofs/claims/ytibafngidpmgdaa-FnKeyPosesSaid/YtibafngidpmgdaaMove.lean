/- The joint that moves farthest: the program and the model. -/
import Derived.Test.YtibafngidpmgdaaProg
import Derived.Test.YtibafngidpmgdaaPose
import Derived.OwnWalk
import Derived.Deep.RegionWith
import Derived.Deep.DrawnRows
import Derived.Deep.RegionHeld3
import Derived.Tactics
import Derived.Tactics2
import Derived.WalkKit
import Derived.LoopTactic
import Derived.BigQuiet
import Derived.RegionTactic
import Derived.Deep.QuietTactic
import Derived.Outline
import Derived.Lib.Hide
import Derived.Below
import Derived.KernelRfl
namespace Go.Proofs.Ytibafngidpmgdaa
set_option linter.unusedSimpArgs false
set_option linter.unusedVariables false
open Go.RowKit

/-- The square of the way between two joints. -/
def sqD (p q : Pt) : Int := (p.1 - q.1) * (p.1 - q.1) + (p.2 - q.2) * (p.2 - q.2)
theorem sq_bd {d : Int} (h1 : -1000 ≤ d) (h2 : d ≤ 1000) : 0 ≤ d * d ∧ d * d ≤ 1000000 := by
  rcases Int.le_total 0 d with h | h
  · have a := Int.mul_nonneg h h
    have b := Int.mul_le_mul h2 h2 h (by omega)
    omega
  · have h' : 0 ≤ -d := by omega
    have a := Int.mul_nonneg h' h'
    have b := Int.mul_le_mul (show -d ≤ 1000 by omega) (show -d ≤ 1000 by omega) h' (by omega)
    rw [Int.neg_mul_neg] at a b
    omega
theorem sqD_bd {p q : Pt} (hp : 0 ≤ p.1 ∧ p.1 ≤ 1000 ∧ 0 ≤ p.2 ∧ p.2 ≤ 1000) (hq : 0 ≤ q.1 ∧ q.1 ≤ 1000 ∧ 0 ≤ q.2 ∧ q.2 ≤ 1000) : 0 ≤ sqD p q ∧ sqD p q ≤ 2000000 := by
  have h1 := sq_bd (d := p.1 - q.1) (by omega) (by omega)
  have h2 := sq_bd (d := p.2 - q.2) (by omega) (by omega)
  unfold sqD
  omega

/-- The first joint of those below n that moves farthest, and the square of its way. -/
def mostN (ps qs : List Pt) : Nat → Int × Int
  | 0 => (0, 0)
  | n + 1 => if (mostN ps qs n).2 < sqD (ps.getD n (0, 0)) (qs.getD n (0, 0)) then ((n : Int), sqD (ps.getD n (0, 0)) (qs.getD n (0, 0))) else mostN ps qs n
theorem mostN_bd {ps qs : List Pt} (hp : poseB ps = true) (hq : poseB qs = true) (hl : ps.length = qs.length) : ∀ n, n ≤ ps.length → 0 ≤ (mostN ps qs n).2 ∧ (mostN ps qs n).2 ≤ 2000000 ∧ 0 ≤ (mostN ps qs n).1 ∧ (mostN ps qs n).1 ≤ n
  | 0, _ => by simp [mostN]
  | n + 1, h => by
    have ih := mostN_bd hp hq hl n (by omega)
    have hb := sqD_bd (poseB_get hp n (by omega)) (poseB_get hq n (by omega))
    unfold mostN
    split
    · simp only
      omega
    · omega

/-- impl.Point.squareTo. -/
theorem squareTo_any (p q : Pt) (w : World) (hp : 0 ≤ p.1 ∧ p.1 ≤ 1000 ∧ 0 ≤ p.2 ∧ p.2 ≤ 1000) (hq : 0 ≤ q.1 ∧ q.1 ≤ 1000 ∧ 0 ≤ q.2 ∧ q.2 ≤ 1000) :
    Calls Try.prog 112 #[fr p.1 p.2, fr q.1 q.2] w fun e w' => e = .returned (.int .i64 (sqD p q)) ∧ Below w.heap.size w w' := by
  obtain ⟨x, y⟩ := p
  obtain ⟨x', y'⟩ := q
  simp only at hp hq
  have h1 := sq_bd (d := x' - x) (by omega) (by omega)
  have h2 := sq_bd (d := y' - y) (by omega) (by omega)
  have hE := Lib.hid (show (x' - x) * (x' - x) + (y' - y) * (y' - y) = sqD (x, y) (x', y') by
    unfold sqD
    rw [← Int.neg_mul_neg (x - x') (x - x'), ← Int.neg_mul_neg (y - y') (y - y'), Int.neg_sub, Int.neg_sub])
  go_enter Try.func112, Try.ntmps112
  go_wp2
  go_quiet (fail)
  go_wp2
  go_ret
  exact ⟨ret_int hE.out, bDrewN (bAlloc (bAlloc (Below.refl _ _) _) _) _⟩

/-- spec.l04Two, of what is not a pose. -/
theorem l04Two_bad (A A' : Option Addr) (n m c c' : Nat) (ps qs : List Pt) (w : World) (hv : Rd w A n ps) (hu : Rd w A' m qs) (h : (poseB ps && poseB qs) = false) :
    Calls Try.prog 106 #[.slice A n c, .slice A' m c'] w fun e w' => e = .returned (.int .i64 1) ∧ w = w' := by
  have HV := Lib.hid hv
  have HU := Lib.hid hu
  clear hv hu
  cases hp : poseB ps
  · go_enter Try.func106, Try.ntmps106
    go_wp2_with fail
    refine (l04Ok_any A n c ps _ HV.out).mono ?_
    rintro e u ⟨rfl, rfl⟩
    rw [hp]
    go_wp2
    go_ret
    exact ⟨rfl, rfl⟩
  · have hq : poseB qs = false := by simpa [hp] using h
    go_enter Try.func106, Try.ntmps106
    go_wp2_with fail
    refine (l04Ok_any A n c ps _ HV.out).mono ?_
    rintro e u ⟨rfl, rfl⟩
    rw [hp]
    go_wp2_with fail
    refine (l04Ok_any A' m c' qs _ HU.out).mono ?_
    rintro e u ⟨rfl, rfl⟩
    rw [hq]
    go_wp2
    go_ret
    exact ⟨rfl, rfl⟩
/-- spec.l04Two, of two poses. -/
theorem l04Two_ok (A A' : Option Addr) (n m c c' : Nat) (ps qs : List Pt) (w : World) (hv : Rd w A n ps) (hu : Rd w A' m qs) (hp : poseB ps = true) (hq : poseB qs = true) :
    Calls Try.prog 106 #[.slice A n c, .slice A' m c'] w fun e w' => e = .returned (.int .i64 0) ∧ w = w' := by
  have HV := Lib.hid hv
  have HU := Lib.hid hu
  clear hv hu
  go_enter Try.func106, Try.ntmps106
  go_wp2_with fail
  refine (l04Ok_any A n c ps _ HV.out).mono ?_
  rintro e u ⟨rfl, rfl⟩
  rw [hp]
  go_wp2_with fail
  refine (l04Ok_any A' m c' qs _ HU.out).mono ?_
  rintro e u ⟨rfl, rfl⟩
  rw [hq]
  go_wp2
  go_ret
  exact ⟨rfl, rfl⟩

/-- impl.GreatestMove, of what is not a pose. -/
theorem implMove_bad (A A' : Option Addr) (n m c c' : Nat) (ps qs : List Pt) (w : World) (hv : Rd w A n ps) (hu : Rd w A' m qs) (h : (poseB ps && poseB qs) = false) :
    Calls Try.prog 42 #[.slice A n c, .slice A' m c'] w fun e w' => e = .returned (.tuple #[.int .i64 0, .int .i64 0, .int .i64 1]) ∧ Below w.heap.size w w' := by
  have HV := Lib.hid hv
  have HU := Lib.hid hu
  clear hv hu
  cases hp : poseB ps
  · go_enter Try.func42, Try.ntmps42
    go_wp2_with fail
    refine (validPose_any A n c ps _ HV.out).mono ?_
    rintro e u ⟨rfl, hb⟩
    rw [hp]
    go_wp2
    exact bodyPost_ret (v := .tuple #[.int .i64 0, .int .i64 0, .int .i64 1]) (by simp [results, Try.results42, go_sem]) rfl ⟨rfl, hb⟩
  · have hq : poseB qs = false := by simpa [hp] using h
    go_enter Try.func42, Try.ntmps42
    go_wp2_with fail
    refine (validPose_any A n c ps _ HV.out).mono ?_
    rintro e u ⟨rfl, hb⟩
    have HU1 := Lib.hid (HU.out.below hb)
    rw [hp]
    go_wp2_with fail
    refine (validPose_any A' m c' qs _ HU1.out).mono ?_
    rintro e u2 ⟨rfl, hb2⟩
    rw [hq]
    go_wp2
    exact bodyPost_ret (v := .tuple #[.int .i64 0, .int .i64 0, .int .i64 1]) (by simp [results, Try.results42, go_sem]) rfl ⟨rfl, bTrans hb hb2⟩

/-- impl.GreatestMove, of two poses with not as many joints. -/
theorem implMove_fmt (A A' : Option Addr) (n m c c' : Nat) (ps qs : List Pt) (w : World) (hv : Rd w A n ps) (hu : Rd w A' m qs) (hp : poseB ps = true) (hq : poseB qs = true) (hnm : ¬ n = m) :
    Calls Try.prog 42 #[.slice A n c, .slice A' m c'] w fun e w' => e = .returned (.tuple #[.int .i64 0, .int .i64 0, .int .i64 8]) ∧ Below w.heap.size w w' := by
  have HV := Lib.hid hv
  have HU := Lib.hid hu
  have hn := hv.2.1
  have hm := hu.2.1
  have hnm2 : ((n : Int) != (m : Int)) = true := by rw [bne_iff_ne]; omega
  clear hv hu
  go_enter Try.func42, Try.ntmps42
  go_wp2_with fail
  refine (validPose_any A n c ps _ HV.out).mono ?_
  rintro e u ⟨rfl, hb⟩
  have HU1 := Lib.hid (HU.out.below hb)
  rw [hp]
  go_wp2_with fail
  refine (validPose_any A' m c' qs _ HU1.out).mono ?_
  rintro e u2 ⟨rfl, hb2⟩
  rw [hq]
  go_wp2
  exact bodyPost_ret (v := .tuple #[.int .i64 0, .int .i64 0, .int .i64 8]) (by simp [results, Try.results42, go_sem]) rfl ⟨rfl, bTrans hb hb2⟩

set_option maxHeartbeats 2000000 in
set_option maxRecDepth 100000 in
/-- impl.GreatestMove. -/
theorem implMove_ok (A A' : Option Addr) (n c c' : Nat) (ps qs : List Pt) (w : World) (hv : Rd w A n ps) (hu : Rd w A' n qs) (hp : poseB ps = true) (hq : poseB qs = true) :
    Calls Try.prog 42 #[.slice A n c, .slice A' n c'] w fun e w' => e = .returned (.tuple #[.int .i64 (mostN ps qs n).1, .int .i64 (mostN ps qs n).2, .int .i64 0]) ∧ Below w.heap.size w w' := by
  have HLn := Lib.hid hv.1
  have HLm := Lib.hid hu.1
  have HV := Lib.hid hv
  have HU := Lib.hid hu
  have hn := hv.2.1
  have hnm2 : ((n : Int) != (n : Int)) = false := by simp
  have HB := Lib.hid (mostN_bd hp hq (by rw [HLn.out, HLm.out]))
  have HP := Lib.hid (poseB_get hp)
  have HQ := Lib.hid (poseB_get hq)
  clear hv hu
  go_enter Try.func42, Try.ntmps42
  go_wp2_with fail
  refine (validPose_any A n c ps _ HV.out).mono ?_
  rintro e u ⟨rfl, hb⟩
  have HV1 := Lib.hid (HV.out.below hb)
  have HU1 := Lib.hid (HU.out.below hb)
  have L1 := Lib.hid hb
  rw [hp]
  clear hb
  go_wp2_with fail
  refine (validPose_any A' n c' qs _ HU1.out).mono ?_
  rintro e u2 ⟨rfl, hb2⟩
  have HV2 := Lib.hid (HV1.out.below hb2)
  have HU2 := Lib.hid (HU1.out.below hb2)
  have L2 := Lib.hid (bTrans L1.out hb2)
  rw [hq]
  clear hb2 hp hq HV HU HV1 HU1 L1
  go_wp2
  go_loopw [27, 7, 8] (fun i b m wr => ∃ k : Nat, k ≤ n ∧ i = .int .i64 k ∧ b = .int .i64 (mostN ps qs k).1 ∧ m = .int .i64 (mostN ps qs k).2 ∧ Hid (Below u2.heap.size u2 wr)) (fun i _ _ _ => n - (intOf i).toNat)
  case atStart => exact ⟨0, Nat.zero_le _, rfl, rfl, rfl, Lib.hid (Below.refl _ _)⟩
  case round =>
    obtain ⟨k, hk, rfl, rfl, rfl, HW⟩ := hrel
    obtain ⟨b1, b2, b3, b4⟩ := HB.out k (by rw [HLn.out]; exact hk)
    by_cases hlt : k < n
    · obtain ⟨_, _, h3⟩ := HV2.out.below HW.out
      obtain ⟨_, _, h4⟩ := HU2.out.below HW.out
      rcases h3 with h0 | ⟨g, rfl, hg, h3⟩
      · omega
      rcases h4 with h0 | ⟨d, rfl, hd, h4⟩
      · omega
      obtain ⟨c0, c1⟩ := h3 k hlt
      obtain ⟨c2, c3⟩ := h4 k hlt
      have q1 := HP.out k (by rw [HLn.out]; exact hlt)
      have q2 := HQ.out k (by rw [HLm.out]; exact hlt)
      have sb := sqD_bd q1 q2
      have SQ := Lib.hid (fun w => squareTo_any (ps.getD k (0, 0)) (qs.getD k (0, 0)) w q1 q2)
      have hstep := Lib.hid (show mostN ps qs (k + 1) = if (mostN ps qs k).2 < sqD (ps.getD k (0, 0)) (qs.getD k (0, 0)) then ((k : Int), sqD (ps.getD k (0, 0)) (qs.getD k (0, 0))) else mostN ps qs k from rfl)
      clear h3 h4 q1 q2
      generalize sqD (ps.getD k (0, 0)) (qs.getD k (0, 0)) = D at *
      generalize (ps.getD k (0, 0)).1 = x at *
      generalize (ps.getD k (0, 0)).2 = y at *
      generalize (qs.getD k (0, 0)).1 = x' at *
      generalize (qs.getD k (0, 0)).2 = y' at *
      by_cases hgt : (mostN ps qs k).2 < D
      all_goals
        have hs2 := hstep.out
        first | rw [if_pos hgt] at hs2 | rw [if_neg hgt] at hs2
        have HS := Lib.hid hs2
        clear hs2 hstep
        generalize mostN ps qs k = M at *
        obtain ⟨M1, M2⟩ := M
        simp only at b1 b2 b3 b4 hgt
        go_wp2
        go_region_held3 (fun w' => w'.cell? ⟨d, k * 2, none⟩ = some (.int .i64 x') ∧ w'.cell? ⟨d, k * 2 + 1, none⟩ = some (.int .i64 y') ∧ w'.cell? ⟨wr.heap.size, 0, none⟩ = some (.int .i64 x) ∧ w'.cell? ⟨wr.heap.size, 1, none⟩ = some (.int .i64 y)) (go_keep)
          (first | (go_at_call 112; refine (SQ.out _).mono ?_; rintro e w2 ⟨rfl, hb2⟩; obtain ⟨hc3, hf3⟩ := bCells hb2; have e0 : w2.cell? ⟨d, k * 2, none⟩ = some (.int .i64 x') := (hc3 _ _ (by simp; omega)).trans (by go_simp); have e1 : w2.cell? ⟨d, k * 2 + 1, none⟩ = some (.int .i64 y') := (hc3 _ _ (by simp; omega)).trans (by go_simp); have e2 : w2.cell? ⟨wr.heap.size, 0, none⟩ = some (.int .i64 x) := (hc3 _ _ (by simp)).trans (by go_simp); have e3 : w2.cell? ⟨wr.heap.size, 1, none⟩ = some (.int .i64 y) := (hc3 _ _ (by simp)).trans (by go_simp)))
        all_goals go_wp2
        go_roundw
        case rel => exact ⟨k + 1, by omega, by go_num, by rw [HS.out], by rw [HS.out], Lib.hid (bTrans (bAlloc HW.out _) (bUndrew hb2))⟩
        case measure => simp [intOf]; omega
    · have : k = n := by omega
      subst this
      go_wp2
      exact bodyPost_ret (v := .tuple #[.int .i64 (mostN ps qs k).1, .int .i64 (mostN ps qs k).2, .int .i64 0]) (by simp [results, Try.results42, go_sem]) rfl ⟨rfl, bTrans L2.out HW.out⟩

/-- spec.GreatestMove, of what is not a pose. -/
theorem specMove_bad (A A' : Option Addr) (n m c c' : Nat) (ps qs : List Pt) (w : World) (hv : Rd w A n ps) (hu : Rd w A' m qs) (h : (poseB ps && poseB qs) = false) :
    Calls Try.prog 43 #[.slice A n c, .slice A' m c'] w fun e w' => e = .returned (.tuple #[.int .i64 0, .int .i64 0, .int .i64 1]) ∧ Below w.heap.size w w' := by
  have HV := Lib.hid hv
  have HU := Lib.hid hu
  have HH := Lib.hid h
  clear hv hu h
  go_enter Try.func43, Try.ntmps43
  go_wp2_with fail
  refine (l04Two_bad A A' n m c c' ps qs _ HV.out HU.out HH.out).mono ?_
  rintro e u ⟨rfl, rfl⟩
  go_wp2
  exact bodyPost_ret (v := .tuple #[.int .i64 0, .int .i64 0, .int .i64 1]) (by simp [results, Try.results43, go_sem]) rfl ⟨rfl, Below.refl _ _⟩

/-- spec.GreatestMove, of two poses with not as many joints. -/
theorem specMove_fmt (A A' : Option Addr) (n m c c' : Nat) (ps qs : List Pt) (w : World) (hv : Rd w A n ps) (hu : Rd w A' m qs) (hp : poseB ps = true) (hq : poseB qs = true) (hnm : ¬ n = m) :
    Calls Try.prog 43 #[.slice A n c, .slice A' m c'] w fun e w' => e = .returned (.tuple #[.int .i64 0, .int .i64 0, .int .i64 8]) ∧ Below w.heap.size w w' := by
  have HV := Lib.hid hv
  have HU := Lib.hid hu
  have hn := hv.2.1
  have hm := hu.2.1
  have HP := Lib.hid hp
  have HQ := Lib.hid hq
  have hnm2 : ((n : Int) != (m : Int)) = true := by rw [bne_iff_ne]; omega
  clear hv hu hp hq
  go_enter Try.func43, Try.ntmps43
  go_wp2_with fail
  refine (l04Two_ok A A' n m c c' ps qs _ HV.out HU.out HP.out HQ.out).mono ?_
  rintro e u ⟨rfl, rfl⟩
  go_wp2
  exact bodyPost_ret (v := .tuple #[.int .i64 0, .int .i64 0, .int .i64 8]) (by simp [results, Try.results43, go_sem]) rfl ⟨rfl, Below.refl _ _⟩

/-- The model's greatest square so far. -/
def mostS (ps qs : List Pt) (k : Nat) : Int := if k = 0 then -1 else (mostN ps qs k).2
theorem mostS_yes {ps qs : List Pt} {k : Nat} (h : mostS ps qs k < sqD (ps.getD k (0, 0)) (qs.getD k (0, 0))) (h0 : 0 ≤ sqD (ps.getD k (0, 0)) (qs.getD k (0, 0))) : mostN ps qs (k + 1) = ((k : Int), sqD (ps.getD k (0, 0)) (qs.getD k (0, 0))) ∧ mostS ps qs (k + 1) = sqD (ps.getD k (0, 0)) (qs.getD k (0, 0)) := by
  have e : mostN ps qs (k + 1) = ((k : Int), sqD (ps.getD k (0, 0)) (qs.getD k (0, 0))) := by
    unfold mostN
    by_cases hk : k = 0
    · subst hk
      split
      · rfl
      · next hh =>
        simp only [mostN] at hh ⊢
        have : sqD (ps.getD 0 (0, 0)) (qs.getD 0 (0, 0)) = 0 := by omega
        rw [this]
        rfl
    · rw [mostS, if_neg hk] at h
      rw [if_pos h]
  refine ⟨e, ?_⟩
  rw [mostS, if_neg (by omega), e]
theorem mostS_no {ps qs : List Pt} {k : Nat} (h : ¬ mostS ps qs k < sqD (ps.getD k (0, 0)) (qs.getD k (0, 0))) (h0 : 0 ≤ sqD (ps.getD k (0, 0)) (qs.getD k (0, 0))) : mostN ps qs (k + 1) = mostN ps qs k ∧ mostS ps qs (k + 1) = mostS ps qs k := by
  have hk : ¬ k = 0 := by
    intro e
    subst e
    rw [mostS, if_pos rfl] at h
    omega
  have e : mostN ps qs (k + 1) = mostN ps qs k := by
    rw [mostS, if_neg hk] at h
    conv => lhs; unfold mostN
    rw [if_neg h]
  refine ⟨e, ?_⟩
  rw [mostS, mostS, if_neg (by omega), if_neg hk, e]
theorem mostS_step {ps qs : List Pt} {k : Nat} (h0 : 0 ≤ sqD (ps.getD k (0, 0)) (qs.getD k (0, 0))) :
    mostN ps qs (k + 1) = (if mostS ps qs k < sqD (ps.getD k (0, 0)) (qs.getD k (0, 0)) then ((k : Int), sqD (ps.getD k (0, 0)) (qs.getD k (0, 0))) else mostN ps qs k) ∧
    mostS ps qs (k + 1) = (if mostS ps qs k < sqD (ps.getD k (0, 0)) (qs.getD k (0, 0)) then sqD (ps.getD k (0, 0)) (qs.getD k (0, 0)) else mostS ps qs k) := by
  by_cases h : mostS ps qs k < sqD (ps.getD k (0, 0)) (qs.getD k (0, 0))
  · rw [if_pos h, if_pos h]
    exact mostS_yes h h0
  · rw [if_neg h, if_neg h]
    exact mostS_no h h0
theorem mostS_bd {ps qs : List Pt} {k : Nat} (h : 0 ≤ (mostN ps qs k).2 ∧ (mostN ps qs k).2 ≤ 2000000) : -1 ≤ mostS ps qs k ∧ mostS ps qs k ≤ 2000000 := by
  unfold mostS
  split <;> omega

set_option maxHeartbeats 2000000 in
set_option maxRecDepth 100000 in
/-- spec.GreatestMove. -/
theorem specMove_ok (A A' : Option Addr) (n c c' : Nat) (ps qs : List Pt) (w : World) (hv : Rd w A n ps) (hu : Rd w A' n qs) (hp : poseB ps = true) (hq : poseB qs = true) :
    Calls Try.prog 43 #[.slice A n c, .slice A' n c'] w fun e w' => e = .returned (.tuple #[.int .i64 (mostN ps qs n).1, .int .i64 (mostN ps qs n).2, .int .i64 0]) ∧ Below w.heap.size w w' := by
  have HLn := Lib.hid hv.1
  have HLm := Lib.hid hu.1
  have HV := Lib.hid hv
  have HU := Lib.hid hu
  have hn := hv.2.1
  have hpl := (poseB_len hp).1
  rw [hv.1] at hpl
  have hnm2 : ((n : Int) != (n : Int)) = false := by simp
  have HB := Lib.hid (mostN_bd hp hq (by rw [HLn.out, HLm.out]))
  have HP := Lib.hid (poseB_get hp)
  have HQ := Lib.hid (poseB_get hq)
  have HPP := Lib.hid hp
  have HQQ := Lib.hid hq
  clear hv hu hp hq
  go_enter Try.func43, Try.ntmps43
  go_wp2_with fail
  refine (l04Two_ok A A' n n c c' ps qs _ HV.out HU.out HPP.out HQQ.out).mono ?_
  rintro e u ⟨rfl, rfl⟩
  go_wp2
  go_loopw [10, 8, 9] (fun i b m wr => ∃ k : Nat, k ≤ n ∧ i = .int .i64 k ∧ b = .int .i64 (mostN ps qs k).1 ∧ m = .int .i64 (mostS ps qs k) ∧ ∃ d, Hid (wr = w.drewN d)) (fun i _ _ _ => n - (intOf i).toNat)
  case atStart => exact ⟨0, Nat.zero_le _, rfl, rfl, rfl, 0, Lib.hid rfl⟩
  case round =>
    obtain ⟨k, hk, rfl, rfl, rfl, d0, HW⟩ := hrel
    have hbk := HB.out k (by rw [HLn.out]; exact hk)
    obtain ⟨b1, b2⟩ := mostS_bd ⟨hbk.1, hbk.2.1⟩
    by_cases hlt : k < n
    · obtain ⟨_, _, h3⟩ := HV.out.drewN d0
      obtain ⟨_, _, h4⟩ := HU.out.drewN d0
      rw [← HW.out] at h3 h4
      rcases h3 with h0 | ⟨g, rfl, hg, h3⟩
      · omega
      rcases h4 with h0 | ⟨d, rfl, hd, h4⟩
      · omega
      obtain ⟨c0, c1⟩ := h3 k hlt
      obtain ⟨c2, c3⟩ := h4 k hlt
      have q1 := HP.out k (by rw [HLn.out]; exact hlt)
      have q2 := HQ.out k (by rw [HLm.out]; exact hlt)
      have sb := sqD_bd q1 q2
      have HY := Lib.hid (mostS_step (ps := ps) (qs := qs) (k := k) sb.1)
      have s1 := sq_bd (d := (ps.getD k (0, 0)).1 - (qs.getD k (0, 0)).1) (by omega) (by omega)
      have s2 := sq_bd (d := (ps.getD k (0, 0)).2 - (qs.getD k (0, 0)).2) (by omega) (by omega)
      have HD := Lib.hid (show sqD (ps.getD k (0, 0)) (qs.getD k (0, 0)) = ((ps.getD k (0, 0)).1 - (qs.getD k (0, 0)).1) * ((ps.getD k (0, 0)).1 - (qs.getD k (0, 0)).1) + ((ps.getD k (0, 0)).2 - (qs.getD k (0, 0)).2) * ((ps.getD k (0, 0)).2 - (qs.getD k (0, 0)).2) from rfl)
      clear h3 h4 hbk
      generalize sqD (ps.getD k (0, 0)) (qs.getD k (0, 0)) = D at *
      generalize (ps.getD k (0, 0)).1 = x at *
      generalize (ps.getD k (0, 0)).2 = y at *
      generalize (qs.getD k (0, 0)).1 = x' at *
      generalize (qs.getD k (0, 0)).2 = y' at *
      by_cases hgt : mostS ps qs k < D
      all_goals
        obtain ⟨e1, e2⟩ := HY.out
        first | rw [if_pos hgt] at e1 e2 | rw [if_neg hgt] at e1 e2
        have E1 := Lib.hid e1
        have E2 := Lib.hid e2
        clear e1 e2 HY
        rw [HD.out] at hgt
        go_wp2
        go_quiet (fail)
        go_wp2
        go_quiet (fail)
        go_wp2
        go_roundw
        case rel => exact ⟨k + 1, by omega, by go_num, by rw [E1.out], by (try rw [E2.out]); (try rw [HD.out]), _, Lib.hid (by rw [HW.out, World.drewN_drewN])⟩
        case measure => simp [intOf]; omega
    · have : k = n := by omega
      subst this
      have HE := Lib.hid (show mostS ps qs k = (mostN ps qs k).2 by rw [mostS, if_neg (by omega)])
      rw [HE.out]
      go_wp2
      exact bodyPost_ret (v := .tuple #[.int .i64 (mostN ps qs k).1, .int .i64 (mostN ps qs k).2, .int .i64 0]) (by simp [results, Try.results43, go_sem]) rfl ⟨rfl, by rw [HW.out]; exact bDrewN (Below.refl _ _) _⟩

end Go.Proofs.Ytibafngidpmgdaa
