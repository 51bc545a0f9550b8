/- The pose between two: the program and the model whole; the statement's own walk. -/
import Derived.Test.YtibafngidpmgdaaProg
import Derived.Test.YtibafngidpmgdaaIter
import Derived.Test.YtibafngidpmgdaaMove
import Derived.Test.YtibafngidpmgdaaPoseLaw
import Derived.OwnWalk
import Derived.Deep.RegionWith
import Derived.Deep.DrawnRows
import Derived.Deep.RegionHeld3
import Derived.Tactics
import Derived.Tactics2
import Derived.WalkKit
import Derived.LoopTactic
import Derived.BigQuiet
import Derived.RegionTactic
import Derived.Deep.QuietTactic
import Derived.Outline
import Derived.Lib.Hide
import Derived.Below
import Derived.KernelRfl
namespace Go.Proofs.Ytibafngidpmgdaa
set_option linter.unusedSimpArgs false
set_option linter.unusedVariables false
open Go.RowKit

/-- slices.Collect of the joints between two poses. -/
theorem collect_any (s : Nat) (A A' : Option Addr) (n c c' : Nat) (ps qs : List Pt) (m N : Int) (w : World) (hv : Rd w A n ps) (hu : Rd w A' n qs) (hp : poseB ps = true) (hq : poseB qs = true) (m0 : 0 ≤ m) (m1 : m ≤ N) (n0 : 1 ≤ N) (n1 : N ≤ 10000)
    (hC : Caps w s A n c A' c' m N) :
    Calls Try.prog 104 #[.func (.func 145) #[] #[.pointer (some ⟨s, 0, none⟩), .pointer (some ⟨s + 1, 0, none⟩), .pointer (some ⟨s + 2, 0, none⟩), .pointer (some ⟨s + 3, 0, none⟩)]] w fun e w' => ∃ v, e = .returned v ∧ Pts w' w.heap.size v (mixL ps qs m N n) ∧ Below w.heap.size w w' := by
  have hn := hv.2.1
  have T := Lib.hid (appendSeq_any 145 _ (enters_of Try.func145 (by kernel_rfl) rfl) _ n (mixL ps qs m N n) (by rw [mixL_length]; exact hn) hn w (joints_stops 2 (by omega) s A A' n c c' ps qs m N w hv hu hp hq m0 m1 n0 n1 hC))
  clear hv hu hp hq hC
  go_enter Try.func104, Try.ntmps104
  go_wp2_with fail
  refine T.out.mono ?_
  rintro e u ⟨v, rfl, p, hb⟩
  have P := Lib.hid p
  clear p
  go_wp2
  go_ret
  exact ⟨v, rfl, P.out, hb⟩

/-- The part is within the parts. -/
def partB (m N : Int) : Bool := inB N 1 10000 && inB m 0 N
theorem partB_bd {m N : Int} (h : partB m N = true) : 1 ≤ N ∧ N ≤ 10000 ∧ 0 ≤ m ∧ m ≤ N := by
  simp only [partB, Bool.and_eq_true] at h
  obtain ⟨a, b⟩ := inB_iff.1 h.1
  obtain ⟨c, d⟩ := inB_iff.1 h.2
  exact ⟨a, b, c, d⟩

theorem pts_nil (w : World) (B : Nat) : Pts w B (.slice none 0 0) [] := World.ownsRow_nil _ _ _ _

/-- What PoseBetween hands back. -/
def BetweenR (w : World) (z : Int) (ps : List Pt) (e : Ending) (w' : World) : Prop := ∃ v, e = .returned (.tuple #[v, .int .i64 z]) ∧ Pts w' w.heap.size v ps ∧ Below w.heap.size w w'

/-- impl.PoseBetween, of what is not a pose. -/
theorem implBetween_bad (A A' : Option Addr) (n k c c' : Nat) (ps qs : List Pt) (m N : Int) (w : World) (hv : Rd w A n ps) (hu : Rd w A' k qs) (h : (poseB ps && poseB qs) = false) :
    Calls Try.prog 35 #[.slice A n c, .slice A' k c', .int .i64 m, .int .i64 N] w (BetweenR w 1 []) := by
  have HV := Lib.hid hv
  have HU := Lib.hid hu
  clear hv hu
  cases hp : poseB ps
  · go_enter Try.func35, Try.ntmps35
    go_wp2_with fail
    refine (validPose_any A n c ps _ HV.out).mono ?_
    rintro e u ⟨rfl, hb⟩
    rw [hp]
    go_wp2
    go_ret2
    exact ⟨_, rfl, pts_nil _ _, hb⟩
  · have hq : poseB qs = false := by simpa [hp] using h
    go_enter Try.func35, Try.ntmps35
    go_wp2_with fail
    refine (validPose_any A n c ps _ HV.out).mono ?_
    rintro e u ⟨rfl, hb⟩
    have HU1 := Lib.hid (HU.out.below hb)
    rw [hp]
    go_wp2_with fail
    refine (validPose_any A' k c' qs _ HU1.out).mono ?_
    rintro e u2 ⟨rfl, hb2⟩
    rw [hq]
    go_wp2
    go_ret2
    exact ⟨_, rfl, pts_nil _ _, bTrans hb hb2⟩

/-- impl.PoseBetween, of a part that is none. -/
theorem implBetween_part (A A' : Option Addr) (n k c c' : Nat) (ps qs : List Pt) (m N : Int) (w : World) (hv : Rd w A n ps) (hu : Rd w A' k qs) (hp : poseB ps = true) (hq : poseB qs = true) (h : partB m N = false) :
    Calls Try.prog 35 #[.slice A n c, .slice A' k c', .int .i64 m, .int .i64 N] w (BetweenR w 2 []) := by
  have HV := Lib.hid hv
  have HU := Lib.hid hu
  have hc : N < 1 ∨ (¬ N < 1 ∧ 10000 < N) ∨ (¬ N < 1 ∧ ¬ 10000 < N ∧ m < 0) ∨ (¬ N < 1 ∧ ¬ 10000 < N ∧ ¬ m < 0 ∧ N < m) := by
    have h2 : ¬ (1 ≤ N ∧ N ≤ 10000 ∧ 0 ≤ m ∧ m ≤ N) := by
      intro hh
      rw [partB, inB_iff.2 ⟨hh.1, hh.2.1⟩, inB_iff.2 ⟨hh.2.2.1, hh.2.2.2⟩] at h
      cases h
    omega
  clear hv hu h
  rcases hc with h1 | ⟨h1, h2⟩ | ⟨h1, h2, h3⟩ | ⟨h1, h2, h3, h4⟩
  all_goals
    go_enter Try.func35, Try.ntmps35
    go_wp2_with fail
    refine (validPose_any A n c ps _ HV.out).mono ?_
    rintro e u ⟨rfl, hb⟩
    have HU1 := Lib.hid (HU.out.below hb)
    rw [hp]
    go_wp2_with fail
    refine (validPose_any A' k c' qs _ HU1.out).mono ?_
    rintro e u2 ⟨rfl, hb2⟩
    rw [hq]
    go_wp2
    go_ret2
    exact ⟨_, rfl, pts_nil _ _, bTrans hb hb2⟩

/-- impl.PoseBetween, of two poses with not as many joints. -/
theorem implBetween_fmt (A A' : Option Addr) (n k c c' : Nat) (ps qs : List Pt) (m N : Int) (w : World) (hv : Rd w A n ps) (hu : Rd w A' k qs) (hp : poseB ps = true) (hq : poseB qs = true) (h : partB m N = true) (hnk : ¬ n = k) :
    Calls Try.prog 35 #[.slice A n c, .slice A' k c', .int .i64 m, .int .i64 N] w (BetweenR w 8 []) := by
  have HV := Lib.hid hv
  have HU := Lib.hid hu
  have hn := hv.2.1
  have hk := hu.2.1
  obtain ⟨b1, b2, b3, b4⟩ := partB_bd h
  have hnm2 : ((n : Int) != (k : Int)) = true := by rw [bne_iff_ne]; omega
  clear hv hu h
  go_enter Try.func35, Try.ntmps35
  go_wp2_with fail
  refine (validPose_any A n c ps _ HV.out).mono ?_
  rintro e u ⟨rfl, hb⟩
  have HU1 := Lib.hid (HU.out.below hb)
  rw [hp]
  go_wp2_with fail
  refine (validPose_any A' k c' qs _ HU1.out).mono ?_
  rintro e u2 ⟨rfl, hb2⟩
  rw [hq]
  go_wp2
  go_ret2
  exact ⟨_, rfl, pts_nil _ _, bTrans hb hb2⟩

set_option maxHeartbeats 1000000 in
/-- impl.PoseBetween. -/
theorem implBetween_ok (A A' : Option Addr) (n c c' : Nat) (ps qs : List Pt) (m N : Int) (w : World) (hv : Rd w A n ps) (hu : Rd w A' n qs) (hp : poseB ps = true) (hq : poseB qs = true) (h : partB m N = true) :
    Calls Try.prog 35 #[.slice A n c, .slice A' n c', .int .i64 m, .int .i64 N] w (BetweenR w 0 (mixL ps qs m N n)) := by
  have HV := Lib.hid hv
  have HU := Lib.hid hu
  have HP := Lib.hid hp
  have HQ := Lib.hid hq
  have hn := hv.2.1
  obtain ⟨b1, b2, b3, b4⟩ := partB_bd h
  have hnm2 : ((n : Int) != (n : Int)) = false := by simp
  clear hv hu h
  go_enter Try.func35, Try.ntmps35
  go_wp2_with fail
  refine (validPose_any A n c ps _ HV.out).mono ?_
  rintro e u ⟨rfl, hb⟩
  have HV1 := Lib.hid (HV.out.below hb)
  have HU1 := Lib.hid (HU.out.below hb)
  have B1 := Lib.hid hb
  clear hb
  rw [hp]
  go_wp2_with fail
  refine (validPose_any A' n c' qs _ HU1.out).mono ?_
  rintro e u2 ⟨rfl, hb2⟩
  have HV2 := Lib.hid (HV1.out.below hb2)
  have HU2 := Lib.hid (HU1.out.below hb2)
  have B2 := Lib.hid (bTrans B1.out hb2)
  clear hb2
  rw [hq]
  clear hp hq
  go_wp2_with fail
  refine (jointsBetween_any A A' n c c' m N _).mono ?_
  rintro e u3 ⟨rfl, hc, hb3⟩
  have HV3 := Lib.hid (HV2.out.below hb3)
  have HU3 := Lib.hid (HU2.out.below hb3)
  have B3 := Lib.hid (bTrans B2.out hb3)
  have C := Lib.hid hc
  clear hb3 hc
  go_wp2_with fail
  refine (collect_any _ A A' n c c' ps qs m N _ HV3.out HU3.out HP.out HQ.out b3 b4 b1 b2 C.out).mono ?_
  rintro e u4 ⟨v, rfl, p, hb4⟩
  have P := Lib.hid (p.base (B' := w.heap.size) B3.out.size)
  have B4 := Lib.hid (bTrans B3.out hb4)
  clear p hb4
  go_wp2
  go_ret2
  exact ⟨v, rfl, P.out, B4.out⟩

/-- spec.PoseBetween, of what is not a pose. -/
theorem specBetween_bad (A A' : Option Addr) (n k c c' : Nat) (ps qs : List Pt) (m N : Int) (w : World) (hv : Rd w A n ps) (hu : Rd w A' k qs) (h : (poseB ps && poseB qs) = false) :
    Calls Try.prog 36 #[.slice A n c, .slice A' k c', .int .i64 m, .int .i64 N] w (BetweenR w 1 []) := by
  have HV := Lib.hid hv
  have HU := Lib.hid hu
  have HH := Lib.hid h
  clear hv hu h
  go_enter Try.func36, Try.ntmps36
  go_wp2_with fail
  refine (l04Two_bad A A' n k c c' ps qs _ HV.out HU.out HH.out).mono ?_
  rintro e u ⟨rfl, rfl⟩
  go_wp2
  go_ret2
  exact ⟨_, rfl, pts_nil _ _, Below.refl _ _⟩

/-- spec.PoseBetween, of a part that is none. -/
theorem specBetween_part (A A' : Option Addr) (n k c c' : Nat) (ps qs : List Pt) (m N : Int) (w : World) (hv : Rd w A n ps) (hu : Rd w A' k qs) (hp : poseB ps = true) (hq : poseB qs = true) (h : partB m N = false) :
    Calls Try.prog 36 #[.slice A n c, .slice A' k c', .int .i64 m, .int .i64 N] w (BetweenR w 2 []) := by
  have HV := Lib.hid hv
  have HU := Lib.hid hu
  have HP := Lib.hid hp
  have HQ := Lib.hid hq
  clear hv hu hp hq
  cases h1 : inB N 1 10000
  · clear h
    go_enter Try.func36, Try.ntmps36
    go_wp2_with fail
    refine (l04Two_ok A A' n k c c' ps qs _ HV.out HU.out HP.out HQ.out).mono ?_
    rintro e u ⟨rfl, rfl⟩
    go_wp2_with fail
    refine (l00In_any _ _ _ _).mono ?_
    rintro e u ⟨rfl, rfl⟩
    rw [h1]
    go_wp2
    go_ret2
    exact ⟨_, rfl, pts_nil _ _, Below.refl _ _⟩
  · have h2 : inB m 0 N = false := by simpa [partB, h1] using h
    clear h
    go_enter Try.func36, Try.ntmps36
    go_wp2_with fail
    refine (l04Two_ok A A' n k c c' ps qs _ HV.out HU.out HP.out HQ.out).mono ?_
    rintro e u ⟨rfl, rfl⟩
    go_wp2_with fail
    refine (l00In_any _ _ _ _).mono ?_
    rintro e u ⟨rfl, rfl⟩
    rw [h1]
    go_wp2_with fail
    refine (l00In_any _ _ _ _).mono ?_
    rintro e u ⟨rfl, rfl⟩
    rw [h2]
    go_wp2
    go_ret2
    exact ⟨_, rfl, pts_nil _ _, Below.refl _ _⟩

/-- spec.PoseBetween, of two poses with not as many joints. -/
theorem specBetween_fmt (A A' : Option Addr) (n k c c' : Nat) (ps qs : List Pt) (m N : Int) (w : World) (hv : Rd w A n ps) (hu : Rd w A' k qs) (hp : poseB ps = true) (hq : poseB qs = true) (h : partB m N = true) (hnk : ¬ n = k) :
    Calls Try.prog 36 #[.slice A n c, .slice A' k c', .int .i64 m, .int .i64 N] w (BetweenR w 8 []) := by
  have HV := Lib.hid hv
  have HU := Lib.hid hu
  have HP := Lib.hid hp
  have HQ := Lib.hid hq
  have hn := hv.2.1
  have hk := hu.2.1
  have hnm2 : ((n : Int) != (k : Int)) = true := by rw [bne_iff_ne]; omega
  simp only [partB, Bool.and_eq_true] at h
  obtain ⟨h1, h2⟩ := h
  clear hv hu hp hq
  go_enter Try.func36, Try.ntmps36
  go_wp2_with fail
  refine (l04Two_ok A A' n k c c' ps qs _ HV.out HU.out HP.out HQ.out).mono ?_
  rintro e u ⟨rfl, rfl⟩
  go_wp2_with fail
  refine (l00In_any _ _ _ _).mono ?_
  rintro e u ⟨rfl, rfl⟩
  rw [h1]
  go_wp2_with fail
  refine (l00In_any _ _ _ _).mono ?_
  rintro e u ⟨rfl, rfl⟩
  rw [h2]
  go_wp2
  go_ret2
  exact ⟨_, rfl, pts_nil _ _, Below.refl _ _⟩

/-- spec.PoseBetween. -/
theorem specBetween_ok (A A' : Option Addr) (n c c' : Nat) (ps qs : List Pt) (m N : Int) (w : World) (hv : Rd w A n ps) (hu : Rd w A' n qs) (hp : poseB ps = true) (hq : poseB qs = true) (h : partB m N = true) :
    Calls Try.prog 36 #[.slice A n c, .slice A' n c', .int .i64 m, .int .i64 N] w (BetweenR w 0 (mixL ps qs m N n)) := by
  have HV := Lib.hid hv
  have HU := Lib.hid hu
  have HP := Lib.hid hp
  have HQ := Lib.hid hq
  have hn := hv.2.1
  have hnm2 : ((n : Int) != (n : Int)) = false := by simp
  obtain ⟨b1, b2, b3, b4⟩ := partB_bd h
  simp only [partB, Bool.and_eq_true] at h
  obtain ⟨h1, h2⟩ := h
  clear hv hu hp hq
  go_enter Try.func36, Try.ntmps36
  go_wp2_with fail
  refine (l04Two_ok A A' n n c c' ps qs _ HV.out HU.out HP.out HQ.out).mono ?_
  rintro e u ⟨rfl, rfl⟩
  go_wp2_with fail
  refine (l00In_any _ _ _ _).mono ?_
  rintro e u ⟨rfl, rfl⟩
  rw [h1]
  go_wp2_with fail
  refine (l00In_any _ _ _ _).mono ?_
  rintro e u ⟨rfl, rfl⟩
  rw [h2]
  clear h1 h2
  go_wp2_with fail
  refine (l04Between_any A A' n c c' ps qs m N _ HV.out HU.out HP.out HQ.out b3 b4 b1 b2).mono ?_
  rintro e u4 ⟨v, rfl, p, hb4⟩
  have P := Lib.hid p
  clear p
  go_wp2
  go_ret2
  exact ⟨v, rfl, P.out, hb4⟩

end Go.Proofs.Ytibafngidpmgdaa
