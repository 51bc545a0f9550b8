/- The pose at a tick: PoseAt, and the statement's own walk. -/
import Derived.Test.YtfbdeeobmjndlaaProg
import Derived.Test.YtfbdeeobmjndlaaPose
import Derived.Test.YtfbdeeobmjndlaaKeys
import Derived.Test.YtfbdeeobmjndlaaKeyOk
import Derived.Test.YtfbdeeobmjndlaaPoseLaw
import Derived.Test.YtfbdeeobmjndlaaBetween
import Derived.Test.YtfbdeeobmjndlaaAt2
import Derived.IntWalk
import Derived.WalkSpells
import Derived.OwnWalk
import Derived.Deep.RegionWith
import Derived.Deep.DrawnRows
import Derived.Deep.RegionHeld3
import Derived.Tactics
import Derived.Tactics2
import Derived.WalkKit
import Derived.LoopTactic
import Derived.BigQuiet
import Derived.RegionTactic
import Derived.Deep.QuietTactic
import Derived.Outline
import Derived.Lib.Hide
import Derived.Below
import Derived.KernelRfl
namespace Go.Proofs.Ytfbdeeobmjndlaa
set_option linter.unusedSimpArgs false
set_option linter.unusedVariables false
open Go.RowKit


theorem keysB_len {ks : List Key} (h : keysB ks = true) : 1 ≤ ks.length ∧ ks.length ≤ 10 := ⟨(keysB_ok h).1, (keysB_ok h).2.1⟩
theorem belowDrewN {u w' : World} (h : ∃ d, w' = u.drewN d) : Below u.heap.size u w' := belowDrewn h

/-- impl.PoseAt, of what are not key poses. -/
theorem implAt_bad (A : Option Addr) (n c : Nat) (ks : List Key) (t : Int) (w : World) (hv : RdK w A n ks) (h : keysB ks = false) :
    Calls Try.prog 63 #[.slice A n c, .int .i64 t] w (BetweenR w 1 []) := by
  have HV := Lib.hid hv
  clear hv
  go_enter Try.func63, Try.ntmps63
  go_wp2_with fail
  refine (validKeys_any A n c ks _ HV.out).mono ?_
  rintro e u ⟨rfl, hb⟩
  rw [h]
  go_wp2
  go_ret2
  exact ⟨_, rfl, pts_nil _ _, hb⟩

/-- spec.PoseAt, of what are not key poses. -/
theorem specAt_bad (A : Option Addr) (n c : Nat) (ks : List Key) (t : Int) (w : World) (hv : RdK w A n ks) (h : keysB ks = false) :
    Calls Try.prog 64 #[.slice A n c, .int .i64 t] w (BetweenR w 1 []) := by
  have HV := Lib.hid hv
  clear hv
  go_enter Try.func64, Try.ntmps64
  go_wp2_with fail
  refine (l04Keys_any A n c ks _ HV.out).mono ?_
  rintro e u ⟨rfl, hb⟩
  have hb2 := belowDrewn hb
  clear hb
  rw [h]
  go_wp2
  go_ret2
  exact ⟨_, rfl, pts_nil _ _, hb2⟩

/-- impl.PoseAt, at a tick beyond. -/
theorem implAt_range (A : Option Addr) (n c : Nat) (ks : List Key) (t : Int) (w : World) (hv : RdK w A n ks) (h : keysB ks = true) (hr : inB t (tk ks 0) (tk ks (n - 1)) = false) :
    Calls Try.prog 63 #[.slice A n c, .int .i64 t] w (BetweenR w 2 []) := by
  have HV := Lib.hid hv
  have hl := keysB_len h
  rw [hv.1] at hl
  obtain ⟨hn1, hn2⟩ := hl
  have hlo : t < tk ks 0 ∨ (¬ t < tk ks 0 ∧ tk ks (n - 1) < t) := by
    by_cases h1 : t < tk ks 0
    · exact .inl h1
    · refine .inr ⟨h1, ?_⟩
      apply Int.not_le.1
      intro h2
      rw [inB_iff.2 ⟨Int.not_lt.1 h1, h2⟩] at hr
      cases hr
  clear hv hr
  go_enter Try.func63, Try.ntmps63
  go_wp2_with fail
  refine (validKeys_any A n c ks _ HV.out).mono ?_
  rintro e u ⟨rfl, hb⟩
  rw [h]
  obtain ⟨_, _, h3⟩ := HV.out.below hb
  rcases h3 with h0 | ⟨g, rfl, hg, h3⟩
  · omega
  obtain ⟨c0, -, -, -, -⟩ := h3 0 (by omega)
  obtain ⟨c2, -, -, -, -⟩ := h3 (n - 1) (by omega)
  have HB := Lib.hid hb
  clear h3 h hb
  have hwi : IntKind.i64.wrap ((n : Int) - 1) = (n : Int) - 1 := IntWalk.i64_in _ (by omega)
  have x0 : (0:Int) ≤ (n:Int) - 1 := by omega
  have x1 : (n:Int) - 1 < n := by omega
  have x2 : (0:Int) < n := by omega
  have hcast : (n:Int) - 1 = ((n - 1 : Nat) : Int) := by omega
  simp only [Nat.zero_mul, Nat.zero_add] at c0
  simp only [tk] at hlo
  generalize (ks.getD 0 Go.Proofs.Ytfbdeeobmjndlaa.k0).1 = t0 at *
  generalize (ks.getD (n - 1) Go.Proofs.Ytfbdeeobmjndlaa.k0).1 = t1 at *
  rcases hlo with h1 | ⟨h1, h2⟩
  · go_wp2
    go_ret2
    exact ⟨_, rfl, pts_nil _ _, HB.out⟩
  · go_wp2
    go_ret2
    exact ⟨_, rfl, pts_nil _ _, HB.out⟩

/-- spec.PoseAt, at a tick beyond. -/
theorem specAt_range (A : Option Addr) (n c : Nat) (ks : List Key) (t : Int) (w : World) (hv : RdK w A n ks) (h : keysB ks = true) (hr : inB t (tk ks 0) (tk ks (n - 1)) = false) :
    Calls Try.prog 64 #[.slice A n c, .int .i64 t] w (BetweenR w 2 []) := by
  have HV := Lib.hid hv
  have hl := keysB_len h
  rw [hv.1] at hl
  obtain ⟨hn1, hn2⟩ := hl
  have HR := Lib.hid hr
  clear hv hr
  go_enter Try.func64, Try.ntmps64
  go_wp2_with fail
  refine (l04Keys_any A n c ks _ HV.out).mono ?_
  rintro e u ⟨rfl, hd⟩
  have hb := belowDrewn hd
  rw [h]
  obtain ⟨_, _, h3⟩ := HV.out.below hb
  rcases h3 with h0 | ⟨g, rfl, hg, h3⟩
  · omega
  obtain ⟨c0, -, -, -, -⟩ := h3 0 (by omega)
  obtain ⟨c2, -, -, -, -⟩ := h3 (n - 1) (by omega)
  have HB := Lib.hid hb
  clear h3 h hb hd
  have hwi : IntKind.i64.wrap ((n : Int) - 1) = (n : Int) - 1 := IntWalk.i64_in _ (by omega)
  have x0 : (0:Int) ≤ (n:Int) - 1 := by omega
  have x1 : (n:Int) - 1 < n := by omega
  have x2 : (0:Int) < n := by omega
  have hcast : (n:Int) - 1 = ((n - 1 : Nat) : Int) := by omega
  simp only [Nat.zero_mul, Nat.zero_add] at c0
  simp only [tk] at HR
  generalize (ks.getD 0 Go.Proofs.Ytfbdeeobmjndlaa.k0).1 = t0 at *
  generalize (ks.getD (n - 1) Go.Proofs.Ytfbdeeobmjndlaa.k0).1 = t1 at *
  go_wp2
  go_quiet ((go_at_call 117; with_reducible exact quietEq (l00In_any _ _ _ _)))
  rw [HR.out]
  go_wp2
  go_ret2
  exact ⟨_, rfl, pts_nil _ _, bTrans HB.out (belowDrewn ⟨_, rfl⟩)⟩

/-- impl.PoseAt. -/
theorem implAt_ok (A : Option Addr) (n c : Nat) (ks : List Key) (t : Int) (w : World) (hv : RdK w A n ks) (h : keysB ks = true) (hr : inB t (tk ks 0) (tk ks (n - 1)) = true) :
    Calls Try.prog 63 #[.slice A n c, .int .i64 t] w (BetweenR w 0 (poseAtN ks t)) := by
  have HV := Lib.hid hv
  have hl := keysB_len h
  rw [hv.1] at hl
  obtain ⟨hn1, hn2⟩ := hl
  have hrr := inB_iff.1 hr
  have hlo : ¬ t < tk ks 0 := by omega
  have hhi : ¬ tk ks (n - 1) < t := by omega
  have PA := Lib.hid (fun q (r : RdK q A n ks) => poseAt_any A n c ks t q r h hrr.1 hrr.2)
  clear hv hr hrr
  go_enter Try.func63, Try.ntmps63
  go_wp2_with fail
  refine (validKeys_any A n c ks _ HV.out).mono ?_
  rintro e u ⟨rfl, hb⟩
  rw [h]
  have HV1 := Lib.hid (HV.out.below hb)
  obtain ⟨_, _, h3⟩ := HV.out.below hb
  rcases h3 with h0 | ⟨g, rfl, hg, h3⟩
  · omega
  obtain ⟨c0, -, -, -, -⟩ := h3 0 (by omega)
  obtain ⟨c2, -, -, -, -⟩ := h3 (n - 1) (by omega)
  have HB := Lib.hid hb
  clear h3 h hb
  have hwi : IntKind.i64.wrap ((n : Int) - 1) = (n : Int) - 1 := IntWalk.i64_in _ (by omega)
  have x0 : (0:Int) ≤ (n:Int) - 1 := by omega
  have x1 : (n:Int) - 1 < n := by omega
  have x2 : (0:Int) < n := by omega
  have hcast : (n:Int) - 1 = ((n - 1 : Nat) : Int) := by omega
  simp only [Nat.zero_mul, Nat.zero_add] at c0
  simp only [tk] at hlo hhi
  generalize (ks.getD 0 Go.Proofs.Ytfbdeeobmjndlaa.k0).1 = t0 at *
  generalize (ks.getD (n - 1) Go.Proofs.Ytfbdeeobmjndlaa.k0).1 = t1 at *
  go_wp2_with fail
  refine (PA.out _ HV1.out).mono ?_
  rintro e u2 ⟨v, rfl, p, hb2⟩
  have P := Lib.hid (Pts.base p (B' := w.heap.size) HB.out.size)
  have B2 := Lib.hid (bTrans HB.out hb2)
  clear p hb2 PA HV1
  go_wp2
  go_ret2
  exact ⟨v, rfl, P.out, B2.out⟩

/-- spec.PoseAt. -/
theorem specAt_ok (A : Option Addr) (n c : Nat) (ks : List Key) (t : Int) (w : World) (hv : RdK w A n ks) (h : keysB ks = true) (hr : inB t (tk ks 0) (tk ks (n - 1)) = true) :
    Calls Try.prog 64 #[.slice A n c, .int .i64 t] w (BetweenR w 0 (poseAtN ks t)) := by
  have HV := Lib.hid hv
  have hl := keysB_len h
  rw [hv.1] at hl
  obtain ⟨hn1, hn2⟩ := hl
  have hrr := inB_iff.1 hr
  have PA := Lib.hid (fun q (r : RdK q A n ks) => l04At_any A n c ks t q r h hrr.1 hrr.2)
  have HR := Lib.hid hr
  clear hv hr hrr
  go_enter Try.func64, Try.ntmps64
  go_wp2_with fail
  refine (l04Keys_any A n c ks _ HV.out).mono ?_
  rintro e u ⟨rfl, hd⟩
  have hb := belowDrewn hd
  rw [h]
  have HV1 := Lib.hid (HV.out.below hb)
  obtain ⟨_, _, h3⟩ := HV.out.below hb
  rcases h3 with h0 | ⟨g, rfl, hg, h3⟩
  · omega
  obtain ⟨c0, -, -, -, -⟩ := h3 0 (by omega)
  obtain ⟨c2, -, -, -, -⟩ := h3 (n - 1) (by omega)
  have HB := Lib.hid hb
  clear h3 h hb hd
  have hwi : IntKind.i64.wrap ((n : Int) - 1) = (n : Int) - 1 := IntWalk.i64_in _ (by omega)
  have x0 : (0:Int) ≤ (n:Int) - 1 := by omega
  have x1 : (n:Int) - 1 < n := by omega
  have x2 : (0:Int) < n := by omega
  have hcast : (n:Int) - 1 = ((n - 1 : Nat) : Int) := by omega
  simp only [Nat.zero_mul, Nat.zero_add] at c0
  simp only [tk] at HR
  generalize (ks.getD 0 Go.Proofs.Ytfbdeeobmjndlaa.k0).1 = t0 at *
  generalize (ks.getD (n - 1) Go.Proofs.Ytfbdeeobmjndlaa.k0).1 = t1 at *
  go_wp2
  go_quiet ((go_at_call 117; with_reducible exact quietEq (l00In_any _ _ _ _)))
  rw [HR.out]
  go_wp2_with fail
  refine (PA.out _ (by first | exact HV1.out | exact HV1.out.below (Below.drew (Below.refl _ _)))).mono ?_
  rintro e u2 ⟨v, rfl, p, hb2⟩
  have P := Lib.hid (Pts.base p (B' := w.heap.size) HB.out.size)
  have B2 := Lib.hid (bTrans (bTrans HB.out (belowDrewn ⟨_, rfl⟩)) hb2)
  clear p hb2 PA HV1
  go_wp2
  go_ret2
  exact ⟨v, rfl, P.out, B2.out⟩

set_option maxHeartbeats 2000000 in
set_option maxRecDepth 100000 in
/-- laws.FnExactPoseAt, out of contracts. -/
theorem lawPoseAt_of (A0 : Option Addr) (n0 c0 : Nat) (d0 : List Key) (a1 : Int) (z : Int) (qs : List Pt) (w : World) (hp0 : KRow w A0 n0 d0) (hq : qs.length ≤ 1000) (ht : (n0 + totK d0) ≤ 1048576)
    (hs : ∀ (E0 : Option Addr) (f0 : Nat) (u : World), RdK u E0 n0 d0 → Calls Try.prog 64 #[.slice E0 n0 f0, .int .i64 a1] u fun e u' => ∃ v, e = .returned (.tuple #[v, .int .i64 z]) ∧ Pts u' u.heap.size v qs ∧ Below u.heap.size u u')
    (hi : ∀ (E0 : Option Addr) (f0 : Nat) (u : World), RdK u E0 n0 d0 → Calls Try.prog 63 #[.slice E0 n0 f0, .int .i64 a1] u fun e u' => ∃ v, e = .returned (.tuple #[v, .int .i64 z]) ∧ Pts u' u.heap.size v qs ∧ Below u.heap.size u u')
    : Calls Try.prog 17 #[.slice A0 n0 c0, .int .i64 a1] w fun e w' => e = .returned (.bool true) ∧ Below w.heap.size w w' := by
  have HL0 := Lib.hid hp0.1
  have hm0 := hp0.2.1
  have hl0 := Nat.le_of_eq hp0.1
  have HP0 := Lib.hid hp0
  clear hp0
  have S := Lib.hid hs
  have I := Lib.hid hi
  clear hs hi
  have B := Lib.hid (Below.refl w.heap.size w)
  go_enter Try.func17, Try.ntmps17
  go_wp2_with fail
  refine (szK_in A0 n0 c0 d0 _ (HP0.out.below B.out) (by omega)).mono ?_
  rintro e u1 ⟨rfl, hb1⟩
  replace B := Lib.hid (bTrans B.out hb1)
  clear hb1
  go_wp2_with fail
  refine (toKeyPoseS_any A0 n0 c0 d0 _ (HP0.out.below B.out) (by omega) (by omega)).mono ?_
  rintro e u2 ⟨ET0, fT0, esT0, rfl, p2, hb2⟩
  have T0 := Lib.hid (Keys.base p2 (B' := w.heap.size) B.out.size)
  replace B := Lib.hid (bTrans B.out hb2)
  clear p2 hb2
  go_wp2_with fail
  refine (S.out _ _ _ (Keys.rdOf T0.out HL0.out (by omega) (by omega))).mono ?_
  rintro e u3 ⟨vW, rfl, p3, hb3⟩
  obtain ⟨EW, fW, rfl, -⟩ := Pts.rd p3 (by omega)
  have W := Lib.hid (Pts.base p3 (B' := w.heap.size) B.out.size)
  replace T0 := Lib.hid (Keys.below T0.out hb3)
  replace B := Lib.hid (bTrans B.out hb3)
  clear p3 hb3
  clear T0
  go_wp2_with fail
  refine (toKeyPoseS_any A0 n0 c0 d0 _ (HP0.out.below B.out) (by omega) (by omega)).mono ?_
  rintro e u4 ⟨EX0, fX0, esX0, rfl, p4, hb4⟩
  have SWX0 := Lib.hid (sepOf _ (fun q hq => (ownsLt W.out q hq).2) (fun q hq => (Keys.lt p4 q hq).1))
  have X0 := Lib.hid (Keys.base p4 (B' := w.heap.size) B.out.size)
  replace W := Lib.hid (Pts.below W.out hb4)
  replace B := Lib.hid (bTrans B.out hb4)
  clear p4 hb4
  go_wp2_with fail
  refine (I.out _ _ _ (Keys.rdOf X0.out HL0.out (by omega) (by omega))).mono ?_
  rintro e u5 ⟨vG, rfl, p5, hb5⟩
  obtain ⟨EG, fG, rfl, -⟩ := Pts.rd p5 (by omega)
  have SWG := Lib.hid (sepOf _ (fun q hq => (ownsLt W.out q hq).2) (fun q hq => (ownsLt p5 q hq).1))
  have SX0G := Lib.hid (sepOf _ (fun q hq => (Keys.lt X0.out q hq).2) (fun q hq => (ownsLt p5 q hq).1))
  have G := Lib.hid (Pts.base p5 (B' := w.heap.size) B.out.size)
  replace W := Lib.hid (Pts.below W.out hb5)
  replace X0 := Lib.hid (Keys.below X0.out hb5)
  replace B := Lib.hid (bTrans B.out hb5)
  clear p5 hb5
  go_wp2_with fail
  refine (eqPointS_same EG EW qs.length fG fW qs _ (Pts.rdOf G.out rfl (by omega)) (Pts.rdOf W.out rfl (by omega))).mono ?_
  rintro e u6 ⟨rfl, hb6⟩
  replace W := Lib.hid (Pts.below W.out hb6)
  replace X0 := Lib.hid (Keys.below X0.out hb6)
  replace G := Lib.hid (Pts.below G.out hb6)
  replace B := Lib.hid (bTrans B.out hb6)
  clear hb6
  go_wp2_with fail
  refine (toKeyPoseS_any A0 n0 c0 d0 _ (HP0.out.below B.out) (by omega) (by omega)).mono ?_
  rintro e u7 ⟨EY0, fY0, esY0, rfl, p7, hb7⟩
  have Y0 := Lib.hid (Keys.base p7 (B' := w.heap.size) B.out.size)
  replace W := Lib.hid (Pts.below W.out hb7)
  replace X0 := Lib.hid (Keys.below X0.out hb7)
  replace G := Lib.hid (Pts.below G.out hb7)
  replace B := Lib.hid (bTrans B.out hb7)
  clear p7 hb7
  go_wp2_with fail
  refine (eqKeyPoseS_same EX0 EY0 n0 fX0 fY0 d0 _ (Keys.rdOf X0.out HL0.out (by omega) (by omega)) (Keys.rdOf Y0.out HL0.out (by omega) (by omega))).mono ?_
  rintro e u8 ⟨rfl, hb8⟩
  replace W := Lib.hid (Pts.below W.out hb8)
  replace X0 := Lib.hid (Keys.below X0.out hb8)
  replace G := Lib.hid (Pts.below G.out hb8)
  replace Y0 := Lib.hid (Keys.below Y0.out hb8)
  replace B := Lib.hid (bTrans B.out hb8)
  clear hb8
  clear Y0
  go_wp2_with fail
  refine (markKeyPoseS_any _ _ _ _ _ _ X0.out (by omega) (by omega) (by omega) (by omega)).mono ?_
  rintro e u9 ⟨rfl, ⟨esX0', p9, -⟩, g9⟩
  replace W := Lib.hid (ownsChg W.out g9 SWX0.out)
  replace G := Lib.hid (ownsChg G.out g9 SX0G.out.symm)
  replace B := Lib.hid (belowChg B.out g9 (fun q hq => (Keys.lt X0.out q hq).1))
  clear p9 g9
  clear X0
  go_wp2_with fail
  refine (eqPointS_same EG EW qs.length fG fW qs _ (Pts.rdOf G.out rfl (by omega)) (Pts.rdOf W.out rfl (by omega))).mono ?_
  rintro e u10 ⟨rfl, hb10⟩
  replace W := Lib.hid (Pts.below W.out hb10)
  replace G := Lib.hid (Pts.below G.out hb10)
  replace B := Lib.hid (bTrans B.out hb10)
  clear hb10
  go_wp2_with fail
  refine (markPointS_any _ _ _ _ _ G.out (by omega) (by omega) (by omega)).mono ?_
  rintro e u11 ⟨rfl, p11, g11, -⟩
  replace W := Lib.hid (ownsChg W.out (Chg.ofGrown g11) SWG.out)
  replace B := Lib.hid (belowChg B.out (Chg.ofGrown g11) (fun q hq => (ownsLt G.out q hq).1))
  replace G := Lib.hid p11
  clear p11 g11
  go_wp2_with fail
  refine (heldPointS_any _ qs.length EG fG _ (Pts.rdOf G.out (marksP_length _ _) (by omega)) (by omega) (by omega)).mono ?_
  rintro e u ⟨rfl, rfl⟩
  go_wp2_with fail
  refine (toKeyPoseS_any A0 n0 c0 d0 _ (HP0.out.below B.out) (by omega) (by omega)).mono ?_
  rintro e u12 ⟨EZ0, fZ0, esZ0, rfl, p12, hb12⟩
  have Z0 := Lib.hid (Keys.base p12 (B' := w.heap.size) B.out.size)
  replace W := Lib.hid (Pts.below W.out hb12)
  replace G := Lib.hid (Pts.below G.out hb12)
  replace B := Lib.hid (bTrans B.out hb12)
  clear p12 hb12
  go_wp2_with fail
  refine (I.out _ _ _ (Keys.rdOf Z0.out HL0.out (by omega) (by omega))).mono ?_
  rintro e u13 ⟨vH, rfl, p13, hb13⟩
  obtain ⟨EH, fH, rfl, -⟩ := Pts.rd p13 (by omega)
  have H := Lib.hid (Pts.base p13 (B' := w.heap.size) B.out.size)
  replace W := Lib.hid (Pts.below W.out hb13)
  replace G := Lib.hid (Pts.below G.out hb13)
  replace Z0 := Lib.hid (Keys.below Z0.out hb13)
  replace B := Lib.hid (bTrans B.out hb13)
  clear p13 hb13
  clear Z0
  go_wp2_with fail
  refine (eqPointS_same EH EW qs.length fH fW qs _ (Pts.rdOf H.out rfl (by omega)) (Pts.rdOf W.out rfl (by omega))).mono ?_
  rintro e u14 ⟨rfl, hb14⟩
  replace W := Lib.hid (Pts.below W.out hb14)
  replace G := Lib.hid (Pts.below G.out hb14)
  replace H := Lib.hid (Pts.below H.out hb14)
  replace B := Lib.hid (bTrans B.out hb14)
  clear hb14
  go_wp2_with fail
  refine (heldPointS_any _ qs.length EG fG _ (Pts.rdOf G.out (marksP_length _ _) (by omega)) (by omega) (by omega)).mono ?_
  rintro e u ⟨rfl, rfl⟩
  go_wp2_with fail
  go_ret
  exact ⟨rfl, B.out⟩

set_option maxRecDepth 100000 in
/-- laws.FnExactPoseAt, of what is too large to be looked at. -/
theorem lawPoseAt_big (A0 : Option Addr) (n0 c0 : Nat) (d0 : List Key) (a1 : Int) (w : World) (hp0 : KRow w A0 n0 d0) (ht : ¬ (n0 + totK d0) ≤ 1048576) :
    Calls Try.prog 17 #[.slice A0 n0 c0, .int .i64 a1] w fun e w' => e = .returned (.bool true) ∧ Below w.heap.size w w' := by
  have hm0 := hp0.2.1
  have HP0 := Lib.hid hp0
  clear hp0
  go_enter Try.func17, Try.ntmps17
  go_wp2_with fail
  refine (szK_over A0 n0 c0 d0 _ HP0.out (by omega)).mono ?_
  rintro e u ⟨rfl, hb⟩
  go_wp2_with fail
  go_ret
  exact ⟨rfl, hb⟩


/-- laws.FnExactPoseAt. -/
theorem law_PoseAt (A : Option Addr) (n c : Nat) (d : List Key) (t : Int) (w : World) (hp : KRow w A n d) (_ht : I64 t) :
    Calls Try.prog 17 #[.slice A n c, .int .i64 t] w fun e w' => e = .returned (.bool true) ∧ Below w.heap.size w w' := by
  by_cases ht : n + totK d ≤ 1048576
  · cases h : keysB d
    · exact lawPoseAt_of A n c d t 1 [] w hp (by simp) ht (fun E f u r => specAt_bad E n f d t u r h) (fun E f u r => implAt_bad E n f d t u r h)
    · cases hr : inB t (tk d 0) (tk d (n - 1))
      · exact lawPoseAt_of A n c d t 2 [] w hp (by simp) ht (fun E f u r => specAt_range E n f d t u r h hr) (fun E f u r => implAt_range E n f d t u r h hr)
      · exact lawPoseAt_of A n c d t 0 (poseAtN d t) w hp (by rw [poseAt_len (keysB_ok h).2.2]; have k := (keysB_ok h).2.2 0 (keysB_len h).1; have h8 := (poseB_len k.2.2.1).2; exact Nat.le_trans h8 (by omega)) ht (fun E f u r => specAt_ok E n f d t u r h hr) (fun E f u r => implAt_ok E n f d t u r h hr)
  · exact lawPoseAt_big A n c d t w hp ht

end Go.Proofs.Ytfbdeeobmjndlaa
