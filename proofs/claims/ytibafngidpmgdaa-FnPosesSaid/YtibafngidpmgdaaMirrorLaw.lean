/- A pose seen from the other side: the statement's own walk. -/
import Derived.Test.YtibafngidpmgdaaProg
import Derived.Test.YtibafngidpmgdaaPose
import Derived.Test.YtibafngidpmgdaaKeys
import Derived.Test.YtibafngidpmgdaaMirror
import Derived.Test.YtibafngidpmgdaaPoseLaw
import Derived.OwnWalk
import Derived.Deep.RegionWith
import Derived.Deep.DrawnRows
import Derived.Deep.RegionHeld3
import Derived.Tactics
import Derived.Tactics2
import Derived.WalkKit
import Derived.LoopTactic
import Derived.BigQuiet
import Derived.RegionTactic
import Derived.Deep.QuietTactic
import Derived.Outline
import Derived.Lib.Hide
import Derived.Below
import Derived.KernelRfl
namespace Go.Proofs.Ytibafngidpmgdaa
set_option linter.unusedSimpArgs false
set_option linter.unusedVariables false
open Go.RowKit

set_option maxHeartbeats 2000000 in
set_option maxRecDepth 100000 in
/-- laws.FnExactMirrorPose, out of contracts. -/
theorem lawMirrorPose_of (A0 : Option Addr) (n0 c0 : Nat) (d0 : List Pt) (a1 : Int) (z : Int) (qs : List Pt) (w : World) (hp0 : PRow w A0 n0 d0) (hq : qs.length ≤ 1000) (ht : n0 ≤ 1048576)
    (hs : ∀ (E0 : Option Addr) (f0 : Nat) (u : World), Rd u E0 n0 d0 → Calls Try.prog 20 #[.slice E0 n0 f0, .int .i64 a1] u fun e u' => ∃ v, e = .returned (.tuple #[v, .int .i64 z]) ∧ Pts u' u.heap.size v qs ∧ Below u.heap.size u u')
    (hi : ∀ (E0 : Option Addr) (f0 : Nat) (u : World), Rd u E0 n0 d0 → Calls Try.prog 22 #[.slice E0 n0 f0, .int .i64 a1] u fun e u' => ∃ v, e = .returned (.tuple #[v, .int .i64 z]) ∧ Pts u' u.heap.size v qs ∧ Below u.heap.size u u')
    : Calls Try.prog 3 #[.slice A0 n0 c0, .int .i64 a1] w fun e w' => e = .returned (.bool true) ∧ Below w.heap.size w w' := by
  have HL0 := Lib.hid hp0.1
  have hm0 := hp0.2.1
  have hl0 := Nat.le_of_eq hp0.1
  have HP0 := Lib.hid hp0
  clear hp0
  have S := Lib.hid hs
  have I := Lib.hid hi
  clear hs hi
  have B := Lib.hid (Below.refl w.heap.size w)
  go_enter Try.func3, Try.ntmps3
  go_wp2_with fail
  refine (sz_in A0 n0 c0 (1048576) _ hm0 (by omega) (by omega)).mono ?_
  rintro e u ⟨rfl, rfl⟩
  go_wp2_with fail
  refine (toP A0 n0 c0 d0 _ (HP0.out.below B.out) (by omega)).mono ?_
  rintro e u1 ⟨ET0, fT0, rfl, p1, hb1⟩
  have T0 := Lib.hid (Pts.base p1 (B' := w.heap.size) B.out.size)
  replace B := Lib.hid (bTrans B.out hb1)
  clear p1 hb1
  go_wp2_with fail
  refine (S.out _ _ _ (Pts.rdOf T0.out HL0.out (by omega))).mono ?_
  rintro e u2 ⟨vW, rfl, p2, hb2⟩
  obtain ⟨EW, fW, rfl, -⟩ := Pts.rd p2 (by omega)
  have W := Lib.hid (Pts.base p2 (B' := w.heap.size) B.out.size)
  replace T0 := Lib.hid (Pts.below T0.out hb2)
  replace B := Lib.hid (bTrans B.out hb2)
  clear p2 hb2
  clear T0
  go_wp2_with fail
  refine (toP A0 n0 c0 d0 _ (HP0.out.below B.out) (by omega)).mono ?_
  rintro e u3 ⟨EX0, fX0, rfl, p3, hb3⟩
  have SWX0 := Lib.hid (sepOf _ (fun q hq => (ownsLt W.out q hq).2) (fun q hq => (ownsLt p3 q hq).1))
  have X0 := Lib.hid (Pts.base p3 (B' := w.heap.size) B.out.size)
  replace W := Lib.hid (Pts.below W.out hb3)
  replace B := Lib.hid (bTrans B.out hb3)
  clear p3 hb3
  go_wp2_with fail
  refine (I.out _ _ _ (Pts.rdOf X0.out HL0.out (by omega))).mono ?_
  rintro e u4 ⟨vG, rfl, p4, hb4⟩
  obtain ⟨EG, fG, rfl, -⟩ := Pts.rd p4 (by omega)
  have SWG := Lib.hid (sepOf _ (fun q hq => (ownsLt W.out q hq).2) (fun q hq => (ownsLt p4 q hq).1))
  have SX0G := Lib.hid (sepOf _ (fun q hq => (ownsLt X0.out q hq).2) (fun q hq => (ownsLt p4 q hq).1))
  have G := Lib.hid (Pts.base p4 (B' := w.heap.size) B.out.size)
  replace W := Lib.hid (Pts.below W.out hb4)
  replace X0 := Lib.hid (Pts.below X0.out hb4)
  replace B := Lib.hid (bTrans B.out hb4)
  clear p4 hb4
  go_wp2_with fail
  refine (eqPointS_same EG EW qs.length fG fW qs _ (Pts.rdOf G.out rfl (by omega)) (Pts.rdOf W.out rfl (by omega))).mono ?_
  rintro e u5 ⟨rfl, hb5⟩
  replace W := Lib.hid (Pts.below W.out hb5)
  replace X0 := Lib.hid (Pts.below X0.out hb5)
  replace G := Lib.hid (Pts.below G.out hb5)
  replace B := Lib.hid (bTrans B.out hb5)
  clear hb5
  go_wp2_with fail
  refine (toP A0 n0 c0 d0 _ (HP0.out.below B.out) (by omega)).mono ?_
  rintro e u6 ⟨EY0, fY0, rfl, p6, hb6⟩
  have Y0 := Lib.hid (Pts.base p6 (B' := w.heap.size) B.out.size)
  replace W := Lib.hid (Pts.below W.out hb6)
  replace X0 := Lib.hid (Pts.below X0.out hb6)
  replace G := Lib.hid (Pts.below G.out hb6)
  replace B := Lib.hid (bTrans B.out hb6)
  clear p6 hb6
  go_wp2_with fail
  refine (eqPointS_same EX0 EY0 n0 fX0 fY0 d0 _ (Pts.rdOf X0.out HL0.out (by omega)) (Pts.rdOf Y0.out HL0.out (by omega))).mono ?_
  rintro e u7 ⟨rfl, hb7⟩
  replace W := Lib.hid (Pts.below W.out hb7)
  replace X0 := Lib.hid (Pts.below X0.out hb7)
  replace G := Lib.hid (Pts.below G.out hb7)
  replace Y0 := Lib.hid (Pts.below Y0.out hb7)
  replace B := Lib.hid (bTrans B.out hb7)
  clear hb7
  clear Y0
  go_wp2_with fail
  refine (markPointS_any _ _ _ _ _ X0.out (by omega) (by omega) (by omega)).mono ?_
  rintro e u8 ⟨rfl, p8, g8, -⟩
  replace W := Lib.hid (ownsChg W.out (Chg.ofGrown g8) SWX0.out)
  replace G := Lib.hid (ownsChg G.out (Chg.ofGrown g8) SX0G.out.symm)
  replace B := Lib.hid (belowChg B.out (Chg.ofGrown g8) (fun q hq => (ownsLt X0.out q hq).1))
  clear p8 g8
  clear X0
  go_wp2_with fail
  refine (eqPointS_same EG EW qs.length fG fW qs _ (Pts.rdOf G.out rfl (by omega)) (Pts.rdOf W.out rfl (by omega))).mono ?_
  rintro e u9 ⟨rfl, hb9⟩
  replace W := Lib.hid (Pts.below W.out hb9)
  replace G := Lib.hid (Pts.below G.out hb9)
  replace B := Lib.hid (bTrans B.out hb9)
  clear hb9
  go_wp2_with fail
  refine (markPointS_any _ _ _ _ _ G.out (by omega) (by omega) (by omega)).mono ?_
  rintro e u10 ⟨rfl, p10, g10, -⟩
  replace W := Lib.hid (ownsChg W.out (Chg.ofGrown g10) SWG.out)
  replace B := Lib.hid (belowChg B.out (Chg.ofGrown g10) (fun q hq => (ownsLt G.out q hq).1))
  replace G := Lib.hid p10
  clear p10 g10
  go_wp2_with fail
  refine (heldPointS_any _ qs.length EG fG _ (Pts.rdOf G.out (marksP_length _ _) (by omega)) (by omega) (by omega)).mono ?_
  rintro e u ⟨rfl, rfl⟩
  go_wp2_with fail
  refine (toP A0 n0 c0 d0 _ (HP0.out.below B.out) (by omega)).mono ?_
  rintro e u11 ⟨EZ0, fZ0, rfl, p11, hb11⟩
  have Z0 := Lib.hid (Pts.base p11 (B' := w.heap.size) B.out.size)
  replace W := Lib.hid (Pts.below W.out hb11)
  replace G := Lib.hid (Pts.below G.out hb11)
  replace B := Lib.hid (bTrans B.out hb11)
  clear p11 hb11
  go_wp2_with fail
  refine (I.out _ _ _ (Pts.rdOf Z0.out HL0.out (by omega))).mono ?_
  rintro e u12 ⟨vH, rfl, p12, hb12⟩
  obtain ⟨EH, fH, rfl, -⟩ := Pts.rd p12 (by omega)
  have H := Lib.hid (Pts.base p12 (B' := w.heap.size) B.out.size)
  replace W := Lib.hid (Pts.below W.out hb12)
  replace G := Lib.hid (Pts.below G.out hb12)
  replace Z0 := Lib.hid (Pts.below Z0.out hb12)
  replace B := Lib.hid (bTrans B.out hb12)
  clear p12 hb12
  clear Z0
  go_wp2_with fail
  refine (eqPointS_same EH EW qs.length fH fW qs _ (Pts.rdOf H.out rfl (by omega)) (Pts.rdOf W.out rfl (by omega))).mono ?_
  rintro e u13 ⟨rfl, hb13⟩
  replace W := Lib.hid (Pts.below W.out hb13)
  replace G := Lib.hid (Pts.below G.out hb13)
  replace H := Lib.hid (Pts.below H.out hb13)
  replace B := Lib.hid (bTrans B.out hb13)
  clear hb13
  go_wp2_with fail
  refine (heldPointS_any _ qs.length EG fG _ (Pts.rdOf G.out (marksP_length _ _) (by omega)) (by omega) (by omega)).mono ?_
  rintro e u ⟨rfl, rfl⟩
  go_wp2_with fail
  go_ret
  exact ⟨rfl, B.out⟩

set_option maxRecDepth 100000 in
/-- laws.FnExactMirrorPose, of what is too large to be looked at. -/
theorem lawMirrorPose_big (A0 : Option Addr) (n0 c0 : Nat) (d0 : List Pt) (a1 : Int) (w : World) (hp0 : PRow w A0 n0 d0) (ht : ¬ n0 ≤ 1048576) :
    Calls Try.prog 3 #[.slice A0 n0 c0, .int .i64 a1] w fun e w' => e = .returned (.bool true) ∧ Below w.heap.size w w' := by
  have hm0 := hp0.2.1
  have HP0 := Lib.hid hp0
  clear hp0
  go_enter Try.func3, Try.ntmps3
  go_wp2_with fail
  refine (sz_over A0 n0 c0 1048576 _ hm0 (by omega) (by omega)).mono ?_
  rintro e u ⟨rfl, rfl⟩
  go_wp2_with fail
  go_ret
  exact ⟨rfl, Below.refl _ _⟩


/-- laws.FnExactMirrorPose. -/
theorem law_MirrorPose (A : Option Addr) (n c : Nat) (d : List Pt) (W : Int) (w : World) (hp : PRow w A n d) (_hW : I64 W) :
    Calls Try.prog 3 #[.slice A n c, .int .i64 W] w fun e w' => e = .returned (.bool true) ∧ Below w.heap.size w w' := by
  by_cases ht : n ≤ 1048576
  · cases h : poseB d
    · exact lawMirrorPose_of A n c d W 1 [] w hp (by simp) ht (fun E f u r => specMirror_bad E n f d W u r h) (fun E f u r => implMirror_bad E n f d W u r h)
    · cases hW : inB W 0 1000
      · exact lawMirrorPose_of A n c d W 2 [] w hp (by simp) ht (fun E f u r => specMirror_wide E n f d W u r h hW) (fun E f u r => implMirror_wide E n f d W u r h hW)
      · cases hf : fitB d W
        · exact lawMirrorPose_of A n c d W 6 [] w hp (by simp) ht (fun E f u r => specMirror_ok E n f d W u r h hW 6 [] (by rw [hf]; intro e; cases e) (fun _ => ⟨rfl, rfl⟩)) (fun E f u r => implMirror_no E n f d W u r h hW hf)
        · exact lawMirrorPose_of A n c d W 0 (mirL d W n) w hp (by rw [mirL_length]; have := (poseB_len h).2; have := hp.1; omega) ht (fun E f u r => specMirror_ok E n f d W u r h hW 0 (mirL d W n) (fun _ => ⟨rfl, rfl⟩) (by rw [hf]; intro e; cases e)) (fun E f u r => implMirror_yes E n f d W u r h hW hf)
  · exact lawMirrorPose_big A n c d W w hp ht

end Go.Proofs.Ytibafngidpmgdaa
