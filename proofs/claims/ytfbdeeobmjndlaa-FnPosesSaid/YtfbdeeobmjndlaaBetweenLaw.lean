/- The pose between two: the statement's own walk. -/
import Derived.Test.YtfbdeeobmjndlaaProg
import Derived.Test.YtfbdeeobmjndlaaPose
import Derived.Test.YtfbdeeobmjndlaaKeys
import Derived.Test.YtfbdeeobmjndlaaBetween
import Derived.Test.YtfbdeeobmjndlaaPoseLaw
import Derived.OwnWalk
import Derived.Deep.RegionWith
import Derived.Deep.DrawnRows
import Derived.Deep.RegionHeld3
import Derived.Tactics
import Derived.Tactics2
import Derived.WalkKit
import Derived.LoopTactic
import Derived.BigQuiet
import Derived.RegionTactic
import Derived.Deep.QuietTactic
import Derived.Outline
import Derived.Lib.Hide
import Derived.Below
import Derived.KernelRfl
namespace Go.Proofs.Ytfbdeeobmjndlaa
set_option linter.unusedSimpArgs false
set_option linter.unusedVariables false
open Go.RowKit

set_option maxHeartbeats 2000000 in
set_option maxRecDepth 100000 in
/-- laws.FnExactPoseBetween, out of contracts. -/
theorem lawPoseBetween_of (A0 : Option Addr) (n0 c0 : Nat) (d0 : List Pt) (A1 : Option Addr) (n1 c1 : Nat) (d1 : List Pt) (a2 : Int) (a3 : Int) (z : Int) (qs : List Pt) (w : World) (hp0 : PRow w A0 n0 d0) (hp1 : PRow w A1 n1 d1) (hq : qs.length ≤ 1000) (ht : n0 + n1 ≤ 1048576)
    (hs : ∀ (E0 : Option Addr) (f0 : Nat) (E1 : Option Addr) (f1 : Nat) (u : World), Rd u E0 n0 d0 → Rd u E1 n1 d1 → Calls Try.prog 61 #[.slice E0 n0 f0, .slice E1 n1 f1, .int .i64 a2, .int .i64 a3] u fun e u' => ∃ v, e = .returned (.tuple #[v, .int .i64 z]) ∧ Pts u' u.heap.size v qs ∧ Below u.heap.size u u')
    (hi : ∀ (E0 : Option Addr) (f0 : Nat) (E1 : Option Addr) (f1 : Nat) (u : World), Rd u E0 n0 d0 → Rd u E1 n1 d1 → Calls Try.prog 60 #[.slice E0 n0 f0, .slice E1 n1 f1, .int .i64 a2, .int .i64 a3] u fun e u' => ∃ v, e = .returned (.tuple #[v, .int .i64 z]) ∧ Pts u' u.heap.size v qs ∧ Below u.heap.size u u')
    : Calls Try.prog 16 #[.slice A0 n0 c0, .slice A1 n1 c1, .int .i64 a2, .int .i64 a3] w fun e w' => e = .returned (.bool true) ∧ Below w.heap.size w w' := by
  have HL0 := Lib.hid hp0.1
  have hm0 := hp0.2.1
  have hl0 := Nat.le_of_eq hp0.1
  have HP0 := Lib.hid hp0
  clear hp0
  have HL1 := Lib.hid hp1.1
  have hm1 := hp1.2.1
  have hl1 := Nat.le_of_eq hp1.1
  have HP1 := Lib.hid hp1
  clear hp1
  have S := Lib.hid hs
  have I := Lib.hid hi
  clear hs hi
  have B := Lib.hid (Below.refl w.heap.size w)
  go_enter Try.func16, Try.ntmps16
  go_wp2_with fail
  refine (sz_in A0 n0 c0 (1048576) _ hm0 (by omega) (by omega)).mono ?_
  rintro e u ⟨rfl, rfl⟩
  go_wp2_with fail
  refine (sz_in A1 n1 c1 (1048576 - n0) _ hm1 (by omega) (by omega)).mono ?_
  rintro e u ⟨rfl, rfl⟩
  go_wp2_with fail
  refine (toP A0 n0 c0 d0 _ (HP0.out.below B.out) (by omega)).mono ?_
  rintro e u1 ⟨ET0, fT0, rfl, p1, hb1⟩
  have T0 := Lib.hid (Pts.base p1 (B' := w.heap.size) B.out.size)
  replace B := Lib.hid (bTrans B.out hb1)
  clear p1 hb1
  go_wp2_with fail
  refine (toP A1 n1 c1 d1 _ (HP1.out.below B.out) (by omega)).mono ?_
  rintro e u2 ⟨ET1, fT1, rfl, p2, hb2⟩
  have T1 := Lib.hid (Pts.base p2 (B' := w.heap.size) B.out.size)
  replace T0 := Lib.hid (Pts.below T0.out hb2)
  replace B := Lib.hid (bTrans B.out hb2)
  clear p2 hb2
  go_wp2_with fail
  refine (S.out _ _ _ _ _ (Pts.rdOf T0.out HL0.out (by omega)) (Pts.rdOf T1.out HL1.out (by omega))).mono ?_
  rintro e u3 ⟨vW, rfl, p3, hb3⟩
  obtain ⟨EW, fW, rfl, -⟩ := Pts.rd p3 (by omega)
  have W := Lib.hid (Pts.base p3 (B' := w.heap.size) B.out.size)
  replace T0 := Lib.hid (Pts.below T0.out hb3)
  replace T1 := Lib.hid (Pts.below T1.out hb3)
  replace B := Lib.hid (bTrans B.out hb3)
  clear p3 hb3
  clear T0 T1
  go_wp2_with fail
  refine (toP A0 n0 c0 d0 _ (HP0.out.below B.out) (by omega)).mono ?_
  rintro e u4 ⟨EX0, fX0, rfl, p4, hb4⟩
  have SWX0 := Lib.hid (sepOf _ (fun q hq => (ownsLt W.out q hq).2) (fun q hq => (ownsLt p4 q hq).1))
  have X0 := Lib.hid (Pts.base p4 (B' := w.heap.size) B.out.size)
  replace W := Lib.hid (Pts.below W.out hb4)
  replace B := Lib.hid (bTrans B.out hb4)
  clear p4 hb4
  go_wp2_with fail
  refine (toP A1 n1 c1 d1 _ (HP1.out.below B.out) (by omega)).mono ?_
  rintro e u5 ⟨EX1, fX1, rfl, p5, hb5⟩
  have SWX1 := Lib.hid (sepOf _ (fun q hq => (ownsLt W.out q hq).2) (fun q hq => (ownsLt p5 q hq).1))
  have SX0X1 := Lib.hid (sepOf _ (fun q hq => (ownsLt X0.out q hq).2) (fun q hq => (ownsLt p5 q hq).1))
  have X1 := Lib.hid (Pts.base p5 (B' := w.heap.size) B.out.size)
  replace W := Lib.hid (Pts.below W.out hb5)
  replace X0 := Lib.hid (Pts.below X0.out hb5)
  replace B := Lib.hid (bTrans B.out hb5)
  clear p5 hb5
  go_wp2_with fail
  refine (I.out _ _ _ _ _ (Pts.rdOf X0.out HL0.out (by omega)) (Pts.rdOf X1.out HL1.out (by omega))).mono ?_
  rintro e u6 ⟨vG, rfl, p6, hb6⟩
  obtain ⟨EG, fG, rfl, -⟩ := Pts.rd p6 (by omega)
  have SWG := Lib.hid (sepOf _ (fun q hq => (ownsLt W.out q hq).2) (fun q hq => (ownsLt p6 q hq).1))
  have SX0G := Lib.hid (sepOf _ (fun q hq => (ownsLt X0.out q hq).2) (fun q hq => (ownsLt p6 q hq).1))
  have SX1G := Lib.hid (sepOf _ (fun q hq => (ownsLt X1.out q hq).2) (fun q hq => (ownsLt p6 q hq).1))
  have G := Lib.hid (Pts.base p6 (B' := w.heap.size) B.out.size)
  replace W := Lib.hid (Pts.below W.out hb6)
  replace X0 := Lib.hid (Pts.below X0.out hb6)
  replace X1 := Lib.hid (Pts.below X1.out hb6)
  replace B := Lib.hid (bTrans B.out hb6)
  clear p6 hb6
  go_wp2_with fail
  refine (eqPointS_same EG EW qs.length fG fW qs _ (Pts.rdOf G.out rfl (by omega)) (Pts.rdOf W.out rfl (by omega))).mono ?_
  rintro e u7 ⟨rfl, hb7⟩
  replace W := Lib.hid (Pts.below W.out hb7)
  replace X0 := Lib.hid (Pts.below X0.out hb7)
  replace X1 := Lib.hid (Pts.below X1.out hb7)
  replace G := Lib.hid (Pts.below G.out hb7)
  replace B := Lib.hid (bTrans B.out hb7)
  clear hb7
  go_wp2_with fail
  refine (toP A0 n0 c0 d0 _ (HP0.out.below B.out) (by omega)).mono ?_
  rintro e u8 ⟨EY0, fY0, rfl, p8, hb8⟩
  have Y0 := Lib.hid (Pts.base p8 (B' := w.heap.size) B.out.size)
  replace W := Lib.hid (Pts.below W.out hb8)
  replace X0 := Lib.hid (Pts.below X0.out hb8)
  replace X1 := Lib.hid (Pts.below X1.out hb8)
  replace G := Lib.hid (Pts.below G.out hb8)
  replace B := Lib.hid (bTrans B.out hb8)
  clear p8 hb8
  go_wp2_with fail
  refine (eqPointS_same EX0 EY0 n0 fX0 fY0 d0 _ (Pts.rdOf X0.out HL0.out (by omega)) (Pts.rdOf Y0.out HL0.out (by omega))).mono ?_
  rintro e u9 ⟨rfl, hb9⟩
  replace W := Lib.hid (Pts.below W.out hb9)
  replace X0 := Lib.hid (Pts.below X0.out hb9)
  replace X1 := Lib.hid (Pts.below X1.out hb9)
  replace G := Lib.hid (Pts.below G.out hb9)
  replace Y0 := Lib.hid (Pts.below Y0.out hb9)
  replace B := Lib.hid (bTrans B.out hb9)
  clear hb9
  clear Y0
  go_wp2_with fail
  refine (toP A1 n1 c1 d1 _ (HP1.out.below B.out) (by omega)).mono ?_
  rintro e u10 ⟨EY1, fY1, rfl, p10, hb10⟩
  have Y1 := Lib.hid (Pts.base p10 (B' := w.heap.size) B.out.size)
  replace W := Lib.hid (Pts.below W.out hb10)
  replace X0 := Lib.hid (Pts.below X0.out hb10)
  replace X1 := Lib.hid (Pts.below X1.out hb10)
  replace G := Lib.hid (Pts.below G.out hb10)
  replace B := Lib.hid (bTrans B.out hb10)
  clear p10 hb10
  go_wp2_with fail
  refine (eqPointS_same EX1 EY1 n1 fX1 fY1 d1 _ (Pts.rdOf X1.out HL1.out (by omega)) (Pts.rdOf Y1.out HL1.out (by omega))).mono ?_
  rintro e u11 ⟨rfl, hb11⟩
  replace W := Lib.hid (Pts.below W.out hb11)
  replace X0 := Lib.hid (Pts.below X0.out hb11)
  replace X1 := Lib.hid (Pts.below X1.out hb11)
  replace G := Lib.hid (Pts.below G.out hb11)
  replace Y1 := Lib.hid (Pts.below Y1.out hb11)
  replace B := Lib.hid (bTrans B.out hb11)
  clear hb11
  clear Y1
  go_wp2_with fail
  refine (markPointS_any _ _ _ _ _ X0.out (by omega) (by omega) (by omega)).mono ?_
  rintro e u12 ⟨rfl, p12, g12, -⟩
  replace W := Lib.hid (ownsChg W.out (Chg.ofGrown g12) SWX0.out)
  replace X1 := Lib.hid (ownsChg X1.out (Chg.ofGrown g12) SX0X1.out.symm)
  replace G := Lib.hid (ownsChg G.out (Chg.ofGrown g12) SX0G.out.symm)
  replace B := Lib.hid (belowChg B.out (Chg.ofGrown g12) (fun q hq => (ownsLt X0.out q hq).1))
  clear p12 g12
  clear X0
  go_wp2_with fail
  refine (markPointS_any _ _ _ _ _ X1.out (by omega) (by omega) (by omega)).mono ?_
  rintro e u13 ⟨rfl, p13, g13, -⟩
  replace W := Lib.hid (ownsChg W.out (Chg.ofGrown g13) SWX1.out)
  replace G := Lib.hid (ownsChg G.out (Chg.ofGrown g13) SX1G.out.symm)
  replace B := Lib.hid (belowChg B.out (Chg.ofGrown g13) (fun q hq => (ownsLt X1.out q hq).1))
  clear p13 g13
  clear X1
  go_wp2_with fail
  refine (eqPointS_same EG EW qs.length fG fW qs _ (Pts.rdOf G.out rfl (by omega)) (Pts.rdOf W.out rfl (by omega))).mono ?_
  rintro e u14 ⟨rfl, hb14⟩
  replace W := Lib.hid (Pts.below W.out hb14)
  replace G := Lib.hid (Pts.below G.out hb14)
  replace B := Lib.hid (bTrans B.out hb14)
  clear hb14
  go_wp2_with fail
  refine (markPointS_any _ _ _ _ _ G.out (by omega) (by omega) (by omega)).mono ?_
  rintro e u15 ⟨rfl, p15, g15, -⟩
  replace W := Lib.hid (ownsChg W.out (Chg.ofGrown g15) SWG.out)
  replace B := Lib.hid (belowChg B.out (Chg.ofGrown g15) (fun q hq => (ownsLt G.out q hq).1))
  replace G := Lib.hid p15
  clear p15 g15
  go_wp2_with fail
  refine (heldPointS_any _ qs.length EG fG _ (Pts.rdOf G.out (marksP_length _ _) (by omega)) (by omega) (by omega)).mono ?_
  rintro e u ⟨rfl, rfl⟩
  go_wp2_with fail
  refine (toP A0 n0 c0 d0 _ (HP0.out.below B.out) (by omega)).mono ?_
  rintro e u16 ⟨EZ0, fZ0, rfl, p16, hb16⟩
  have Z0 := Lib.hid (Pts.base p16 (B' := w.heap.size) B.out.size)
  replace W := Lib.hid (Pts.below W.out hb16)
  replace G := Lib.hid (Pts.below G.out hb16)
  replace B := Lib.hid (bTrans B.out hb16)
  clear p16 hb16
  go_wp2_with fail
  refine (toP A1 n1 c1 d1 _ (HP1.out.below B.out) (by omega)).mono ?_
  rintro e u17 ⟨EZ1, fZ1, rfl, p17, hb17⟩
  have Z1 := Lib.hid (Pts.base p17 (B' := w.heap.size) B.out.size)
  replace W := Lib.hid (Pts.below W.out hb17)
  replace G := Lib.hid (Pts.below G.out hb17)
  replace Z0 := Lib.hid (Pts.below Z0.out hb17)
  replace B := Lib.hid (bTrans B.out hb17)
  clear p17 hb17
  go_wp2_with fail
  refine (I.out _ _ _ _ _ (Pts.rdOf Z0.out HL0.out (by omega)) (Pts.rdOf Z1.out HL1.out (by omega))).mono ?_
  rintro e u18 ⟨vH, rfl, p18, hb18⟩
  obtain ⟨EH, fH, rfl, -⟩ := Pts.rd p18 (by omega)
  have H := Lib.hid (Pts.base p18 (B' := w.heap.size) B.out.size)
  replace W := Lib.hid (Pts.below W.out hb18)
  replace G := Lib.hid (Pts.below G.out hb18)
  replace Z0 := Lib.hid (Pts.below Z0.out hb18)
  replace Z1 := Lib.hid (Pts.below Z1.out hb18)
  replace B := Lib.hid (bTrans B.out hb18)
  clear p18 hb18
  clear Z0 Z1
  go_wp2_with fail
  refine (eqPointS_same EH EW qs.length fH fW qs _ (Pts.rdOf H.out rfl (by omega)) (Pts.rdOf W.out rfl (by omega))).mono ?_
  rintro e u19 ⟨rfl, hb19⟩
  replace W := Lib.hid (Pts.below W.out hb19)
  replace G := Lib.hid (Pts.below G.out hb19)
  replace H := Lib.hid (Pts.below H.out hb19)
  replace B := Lib.hid (bTrans B.out hb19)
  clear hb19
  go_wp2_with fail
  refine (heldPointS_any _ qs.length EG fG _ (Pts.rdOf G.out (marksP_length _ _) (by omega)) (by omega) (by omega)).mono ?_
  rintro e u ⟨rfl, rfl⟩
  go_wp2_with fail
  go_ret
  exact ⟨rfl, B.out⟩

set_option maxRecDepth 100000 in
/-- laws.FnExactPoseBetween, of what is too large to be looked at. -/
theorem lawPoseBetween_big (A0 : Option Addr) (n0 c0 : Nat) (d0 : List Pt) (A1 : Option Addr) (n1 c1 : Nat) (d1 : List Pt) (a2 : Int) (a3 : Int) (w : World) (hp0 : PRow w A0 n0 d0) (hp1 : PRow w A1 n1 d1) (ht : ¬ n0 + n1 ≤ 1048576) :
    Calls Try.prog 16 #[.slice A0 n0 c0, .slice A1 n1 c1, .int .i64 a2, .int .i64 a3] w fun e w' => e = .returned (.bool true) ∧ Below w.heap.size w w' := by
  have hm0 := hp0.2.1
  have HP0 := Lib.hid hp0
  clear hp0
  have hm1 := hp1.2.1
  have HP1 := Lib.hid hp1
  clear hp1
  by_cases h1 : n0 ≤ 1048576
  · go_enter Try.func16, Try.ntmps16
    go_wp2_with fail
    refine (sz_in A0 n0 c0 1048576 _ hm0 (by omega) (by omega)).mono ?_
    rintro e u ⟨rfl, rfl⟩
    go_wp2_with fail
    refine (sz_over A1 n1 c1 (1048576 - n0) _ hm1 (by omega) (by omega)).mono ?_
    rintro e u ⟨rfl, rfl⟩
    go_wp2_with fail
    go_ret
    exact ⟨rfl, Below.refl _ _⟩
  · go_enter Try.func16, Try.ntmps16
    go_wp2_with fail
    refine (sz_over A0 n0 c0 1048576 _ hm0 (by omega) (by omega)).mono ?_
    rintro e u ⟨rfl, rfl⟩
    go_wp2_with fail
    go_ret
    exact ⟨rfl, Below.refl _ _⟩


/-- laws.FnExactPoseBetween. -/
theorem law_PoseBetween (A : Option Addr) (n c : Nat) (d : List Pt) (A' : Option Addr) (n' c' : Nat) (d' : List Pt) (m N : Int) (w : World) (hp : PRow w A n d) (hp' : PRow w A' n' d') (_hm : I64 m) (_hN : I64 N) :
    Calls Try.prog 16 #[.slice A n c, .slice A' n' c', .int .i64 m, .int .i64 N] w fun e w' => e = .returned (.bool true) ∧ Below w.heap.size w w' := by
  by_cases ht : n + n' ≤ 1048576
  · cases h : poseB d && poseB d'
    · exact lawPoseBetween_of A n c d A' n' c' d' m N 1 [] w hp hp' (by simp) ht (fun E f E' f' u r r' => specBetween_bad E E' n n' f f' d d' m N u r r' h) (fun E f E' f' u r r' => implBetween_bad E E' n n' f f' d d' m N u r r' h)
    · simp only [Bool.and_eq_true] at h
      cases hb : partB m N
      · exact lawPoseBetween_of A n c d A' n' c' d' m N 2 [] w hp hp' (by simp) ht (fun E f E' f' u r r' => specBetween_part E E' n n' f f' d d' m N u r r' h.1 h.2 hb) (fun E f E' f' u r r' => implBetween_part E E' n n' f f' d d' m N u r r' h.1 h.2 hb)
      · by_cases hnm : n = n'
        · subst hnm
          exact lawPoseBetween_of A n c d A' n c' d' m N 0 (mixL d d' m N n) w hp hp' (by rw [mixL_length]; have := (poseB_len h.1).2; have := hp.1; omega) ht (fun E f E' f' u r r' => specBetween_ok E E' n f f' d d' m N u r r' h.1 h.2 hb) (fun E f E' f' u r r' => implBetween_ok E E' n f f' d d' m N u r r' h.1 h.2 hb)
        · exact lawPoseBetween_of A n c d A' n' c' d' m N 8 [] w hp hp' (by simp) ht (fun E f E' f' u r r' => specBetween_fmt E E' n n' f f' d d' m N u r r' h.1 h.2 hb hnm) (fun E f E' f' u r r' => implBetween_fmt E E' n n' f f' d d' m N u r r' h.1 h.2 hb hnm)
  · exact lawPoseBetween_big A n c d A' n' c' d' m N w hp hp' ht

end Go.Proofs.Ytfbdeeobmjndlaa
