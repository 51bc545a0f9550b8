/- The pose at a tick: PoseAt, and the statement's own walk. -/
import Derived.Test.YtibafngidpmgdaaProg
import Derived.Test.YtibafngidpmgdaaPose
import Derived.Test.YtibafngidpmgdaaKeys
import Derived.Test.YtibafngidpmgdaaKeyOk
import Derived.Test.YtibafngidpmgdaaPoseLaw
import Derived.Test.YtibafngidpmgdaaBetween
import Derived.Test.YtibafngidpmgdaaAt2
import Derived.IntWalk
import Derived.WalkSpells
import Derived.OwnWalk
import Derived.Deep.RegionWith
import Derived.Deep.DrawnRows
import Derived.Deep.RegionHeld3
import Derived.Tactics
import Derived.Tactics2
import Derived.WalkKit
import Derived.LoopTactic
import Derived.BigQuiet
import Derived.RegionTactic
import Derived.Deep.QuietTactic
import Derived.Outline
import Derived.Lib.Hide
import Derived.Below
import Derived.KernelRfl
namespace Go.Proofs.Ytibafngidpmgdaa
set_option linter.unusedSimpArgs false
set_option linter.unusedVariables false
open Go.RowKit


theorem keysB_len {ks : List Key} (h : keysB ks = true) : 1 ≤ ks.length ∧ ks.length ≤ 10 := ⟨(keysB_ok h).1, (keysB_ok h).2.1⟩
theorem belowDrewN {u w' : World} (h : ∃ d, w' = u.drewN d) : Below u.heap.size u w' := belowDrewn h

/-- impl.PoseAt, of what are not key poses. -/
theorem implAt_bad (A : Option Addr) (n c : Nat) (ks : List Key) (t : Int) (w : World) (hv : RdK w A n ks) (h : keysB ks = false) :
    Calls Try.prog 38 #[.slice A n c, .int .i64 t] w (BetweenR w 1 []) := by
  have HV := Lib.hid hv
  clear hv
  go_enter Try.func38, Try.ntmps38
  go_wp2_with fail
  refine (validKeys_any A n c ks _ HV.out).mono ?_
  rintro e u ⟨rfl, hb⟩
  rw [h]
  go_wp2
  go_ret2
  exact ⟨_, rfl, pts_nil _ _, hb⟩

/-- spec.PoseAt, of what are not key poses. -/
theorem specAt_bad (A : Option Addr) (n c : Nat) (ks : List Key) (t : Int) (w : World) (hv : RdK w A n ks) (h : keysB ks = false) :
    Calls Try.prog 39 #[.slice A n c, .int .i64 t] w (BetweenR w 1 []) := by
  have HV := Lib.hid hv
  clear hv
  go_enter Try.func39, Try.ntmps39
  go_wp2_with fail
  refine (l04Keys_any A n c ks _ HV.out).mono ?_
  rintro e u ⟨rfl, hb⟩
  have hb2 := belowDrewn hb
  clear hb
  rw [h]
  go_wp2
  go_ret2
  exact ⟨_, rfl, pts_nil _ _, hb2⟩

/-- impl.PoseAt, at a tick beyond. -/
theorem implAt_range (A : Option Addr) (n c : Nat) (ks : List Key) (t : Int) (w : World) (hv : RdK w A n ks) (h : keysB ks = true) (hr : inB t (tk ks 0) (tk ks (n - 1)) = false) :
    Calls Try.prog 38 #[.slice A n c, .int .i64 t] w (BetweenR w 2 []) := by
  have HV := Lib.hid hv
  have hl := keysB_len h
  rw [hv.1] at hl
  obtain ⟨hn1, hn2⟩ := hl
  have hlo : t < tk ks 0 ∨ (¬ t < tk ks 0 ∧ tk ks (n - 1) < t) := by
    by_cases h1 : t < tk ks 0
    · exact .inl h1
    · refine .inr ⟨h1, ?_⟩
      apply Int.not_le.1
      intro h2
      rw [inB_iff.2 ⟨Int.not_lt.1 h1, h2⟩] at hr
      cases hr
  clear hv hr
  go_enter Try.func38, Try.ntmps38
  go_wp2_with fail
  refine (validKeys_any A n c ks _ HV.out).mono ?_
  rintro e u ⟨rfl, hb⟩
  rw [h]
  obtain ⟨_, _, h3⟩ := HV.out.below hb
  rcases h3 with h0 | ⟨g, rfl, hg, h3⟩
  · omega
  obtain ⟨c0, -, -, -, -⟩ := h3 0 (by omega)
  obtain ⟨c2, -, -, -, -⟩ := h3 (n - 1) (by omega)
  have HB := Lib.hid hb
  clear h3 h hb
  have hwi : IntKind.i64.wrap ((n : Int) - 1) = (n : Int) - 1 := IntWalk.i64_in _ (by omega)
  have x0 : (0:Int) ≤ (n:Int) - 1 := by omega
  have x1 : (n:Int) - 1 < n := by omega
  have x2 : (0:Int) < n := by omega
  have hcast : (n:Int) - 1 = ((n - 1 : Nat) : Int) := by omega
  simp only [Nat.zero_mul, Nat.zero_add] at c0
  simp only [tk] at hlo
  generalize (ks.getD 0 Go.Proofs.Ytibafngidpmgdaa.k0).1 = t0 at *
  generalize (ks.getD (n - 1) Go.Proofs.Ytibafngidpmgdaa.k0).1 = t1 at *
  rcases hlo with h1 | ⟨h1, h2⟩
  · go_wp2
    go_ret2
    exact ⟨_, rfl, pts_nil _ _, HB.out⟩
  · go_wp2
    go_ret2
    exact ⟨_, rfl, pts_nil _ _, HB.out⟩

/-- spec.PoseAt, at a tick beyond. -/
theorem specAt_range (A : Option Addr) (n c : Nat) (ks : List Key) (t : Int) (w : World) (hv : RdK w A n ks) (h : keysB ks = true) (hr : inB t (tk ks 0) (tk ks (n - 1)) = false) :
    Calls Try.prog 39 #[.slice A n c, .int .i64 t] w (BetweenR w 2 []) := by
  have HV := Lib.hid hv
  have hl := keysB_len h
  rw [hv.1] at hl
  obtain ⟨hn1, hn2⟩ := hl
  have HR := Lib.hid hr
  clear hv hr
  go_enter Try.func39, Try.ntmps39
  go_wp2_with fail
  refine (l04Keys_any A n c ks _ HV.out).mono ?_
  rintro e u ⟨rfl, hd⟩
  have hb := belowDrewn hd
  rw [h]
  obtain ⟨_, _, h3⟩ := HV.out.below hb
  rcases h3 with h0 | ⟨g, rfl, hg, h3⟩
  · omega
  obtain ⟨c0, -, -, -, -⟩ := h3 0 (by omega)
  obtain ⟨c2, -, -, -, -⟩ := h3 (n - 1) (by omega)
  have HB := Lib.hid hb
  clear h3 h hb hd
  have hwi : IntKind.i64.wrap ((n : Int) - 1) = (n : Int) - 1 := IntWalk.i64_in _ (by omega)
  have x0 : (0:Int) ≤ (n:Int) - 1 := by omega
  have x1 : (n:Int) - 1 < n := by omega
  have x2 : (0:Int) < n := by omega
  have hcast : (n:Int) - 1 = ((n - 1 : Nat) : Int) := by omega
  simp only [Nat.zero_mul, Nat.zero_add] at c0
  simp only [tk] at HR
  generalize (ks.getD 0 Go.Proofs.Ytibafngidpmgdaa.k0).1 = t0 at *
  generalize (ks.getD (n - 1) Go.Proofs.Ytibafngidpmgdaa.k0).1 = t1 at *
  go_wp2
  go_quiet ((go_at_call 84; with_reducible exact quietEq (l00In_any _ _ _ _)))
  rw [HR.out]
  go_wp2
  go_ret2
  exact ⟨_, rfl, pts_nil _ _, bTrans HB.out (belowDrewn ⟨_, rfl⟩)⟩

/-- impl.PoseAt. -/
theorem implAt_ok (A : Option Addr) (n c : Nat) (ks : List Key) (t : Int) (w : World) (hv : RdK w A n ks) (h : keysB ks = true) (hr : inB t (tk ks 0) (tk ks (n - 1)) = true) :
    Calls Try.prog 38 #[.slice A n c, .int .i64 t] w (BetweenR w 0 (poseAtN ks t)) := by
  have HV := Lib.hid hv
  have hl := keysB_len h
  rw [hv.1] at hl
  obtain ⟨hn1, hn2⟩ := hl
  have hrr := inB_iff.1 hr
  have hlo : ¬ t < tk ks 0 := by omega
  have hhi : ¬ tk ks (n - 1) < t := by omega
  have PA := Lib.hid (fun q (r : RdK q A n ks) => poseAt_any A n c ks t q r h hrr.1 hrr.2)
  clear hv hr hrr
  go_enter Try.func38, Try.ntmps38
  go_wp2_with fail
  refine (validKeys_any A n c ks _ HV.out).mono ?_
  rintro e u ⟨rfl, hb⟩
  rw [h]
  have HV1 := Lib.hid (HV.out.below hb)
  obtain ⟨_, _, h3⟩ := HV.out.below hb
  rcases h3 with h0 | ⟨g, rfl, hg, h3⟩
  · omega
  obtain ⟨c0, -, -, -, -⟩ := h3 0 (by omega)
  obtain ⟨c2, -, -, -, -⟩ := h3 (n - 1) (by omega)
  have HB := Lib.hid hb
  clear h3 h hb
  have hwi : IntKind.i64.wrap ((n : Int) - 1) = (n : Int) - 1 := IntWalk.i64_in _ (by omega)
  have x0 : (0:Int) ≤ (n:Int) - 1 := by omega
  have x1 : (n:Int) - 1 < n := by omega
  have x2 : (0:Int) < n := by omega
  have hcast : (n:Int) - 1 = ((n - 1 : Nat) : Int) := by omega
  simp only [Nat.zero_mul, Nat.zero_add] at c0
  simp only [tk] at hlo hhi
  generalize (ks.getD 0 Go.Proofs.Ytibafngidpmgdaa.k0).1 = t0 at *
  generalize (ks.getD (n - 1) Go.Proofs.Ytibafngidpmgdaa.k0).1 = t1 at *
  go_wp2_with fail
  refine (PA.out _ HV1.out).mono ?_
  rintro e u2 ⟨v, rfl, p, hb2⟩
  have P := Lib.hid (Pts.base p (B' := w.heap.size) HB.out.size)
  have B2 := Lib.hid (bTrans HB.out hb2)
  clear p hb2 PA HV1
  go_wp2
  go_ret2
  exact ⟨v, rfl, P.out, B2.out⟩

/-- spec.PoseAt. -/
theorem specAt_ok (A : Option Addr) (n c : Nat) (ks : List Key) (t : Int) (w : World) (hv : RdK w A n ks) (h : keysB ks = true) (hr : inB t (tk ks 0) (tk ks (n - 1)) = true) :
    Calls Try.prog 39 #[.slice A n c, .int .i64 t] w (BetweenR w 0 (poseAtN ks t)) := by
  have HV := Lib.hid hv
  have hl := keysB_len h
  rw [hv.1] at hl
  obtain ⟨hn1, hn2⟩ := hl
  have hrr := inB_iff.1 hr
  have PA := Lib.hid (fun q (r : RdK q A n ks) => l04At_any A n c ks t q r h hrr.1 hrr.2)
  have HR := Lib.hid hr
  clear hv hr hrr
  go_enter Try.func39, Try.ntmps39
  go_wp2_with fail
  refine (l04Keys_any A n c ks _ HV.out).mono ?_
  rintro e u ⟨rfl, hd⟩
  have hb := belowDrewn hd
  rw [h]
  have HV1 := Lib.hid (HV.out.below hb)
  obtain ⟨_, _, h3⟩ := HV.out.below hb
  rcases h3 with h0 | ⟨g, rfl, hg, h3⟩
  · omega
  obtain ⟨c0, -, -, -, -⟩ := h3 0 (by omega)
  obtain ⟨c2, -, -, -, -⟩ := h3 (n - 1) (by omega)
  have HB := Lib.hid hb
  clear h3 h hb hd
  have hwi : IntKind.i64.wrap ((n : Int) - 1) = (n : Int) - 1 := IntWalk.i64_in _ (by omega)
  have x0 : (0:Int) ≤ (n:Int) - 1 := by omega
  have x1 : (n:Int) - 1 < n := by omega
  have x2 : (0:Int) < n := by omega
  have hcast : (n:Int) - 1 = ((n - 1 : Nat) : Int) := by omega
  simp only [Nat.zero_mul, Nat.zero_add] at c0
  simp only [tk] at HR
  generalize (ks.getD 0 Go.Proofs.Ytibafngidpmgdaa.k0).1 = t0 at *
  generalize (ks.getD (n - 1) Go.Proofs.Ytibafngidpmgdaa.k0).1 = t1 at *
  go_wp2
  go_quiet ((go_at_call 84; with_reducible exact quietEq (l00In_any _ _ _ _)))
  rw [HR.out]
  go_wp2_with fail
  refine (PA.out _ (by first | exact HV1.out | exact HV1.out.below (Below.drew (Below.refl _ _)))).mono ?_
  rintro e u2 ⟨v, rfl, p, hb2⟩
  have P := Lib.hid (Pts.base p (B' := w.heap.size) HB.out.size)
  have B2 := Lib.hid (bTrans (bTrans HB.out (belowDrewn ⟨_, rfl⟩)) hb2)
  clear p hb2 PA HV1
  go_wp2
  go_ret2
  exact ⟨v, rfl, P.out, B2.out⟩

end Go.Proofs.Ytibafngidpmgdaa
