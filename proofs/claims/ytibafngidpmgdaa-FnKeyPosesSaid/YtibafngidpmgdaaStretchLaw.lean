/- Stretched key poses: the statement's own walk. -/
import Derived.Test.YtibafngidpmgdaaProg
import Derived.Test.YtibafngidpmgdaaPose
import Derived.Test.YtibafngidpmgdaaKeys
import Derived.Test.YtibafngidpmgdaaKeyOk
import Derived.Test.YtibafngidpmgdaaPoseLaw
import Derived.Test.YtibafngidpmgdaaBetween
import Derived.Test.YtibafngidpmgdaaAt2
import Derived.Test.YtibafngidpmgdaaAtLaw
import Derived.Test.YtibafngidpmgdaaStretch
import Derived.Test.YtibafngidpmgdaaStretch2
import Derived.Test.YtibafngidpmgdaaStretch3
import Derived.Test.YtibafngidpmgdaaAll
import Derived.IntWalk
import Derived.WalkSpells
import Derived.OwnWalk
import Derived.Deep.RegionWith
import Derived.Deep.DrawnRows
import Derived.Deep.RegionHeld3
import Derived.Tactics
import Derived.Tactics2
import Derived.WalkKit
import Derived.LoopTactic
import Derived.BigQuiet
import Derived.RegionTactic
import Derived.Deep.QuietTactic
import Derived.Outline
import Derived.Lib.Hide
import Derived.Below
import Derived.KernelRfl
namespace Go.Proofs.Ytibafngidpmgdaa
set_option linter.unusedSimpArgs false
set_option linter.unusedVariables false
open Go.RowKit

set_option maxHeartbeats 2000000 in
set_option maxRecDepth 100000 in
/-- laws.FnExactStretchKeys, out of contracts. -/
theorem lawStretchKeys_of (A0 : Option Addr) (n0 c0 : Nat) (d0 : List Key) (a1 : Int) (z : Int) (qs : List Key) (w : World) (hp0 : KRow w A0 n0 d0) (hq : qs.length ≤ 1000) (hqt : totK qs ≤ 100000) (ht : (n0 + totK d0) ≤ 1048576)
    (hs : ∀ (E0 : Option Addr) (f0 : Nat) (u : World), RdK u E0 n0 d0 → Calls Try.prog 27 #[.slice E0 n0 f0, .int .i64 a1] u fun e u' => ∃ v es, e = .returned (.tuple #[v, .int .i64 z]) ∧ Keys u' u.heap.size v es qs ∧ Below u.heap.size u u')
    (hi : ∀ (E0 : Option Addr) (f0 : Nat) (u : World), RdK u E0 n0 d0 → Calls Try.prog 29 #[.slice E0 n0 f0, .int .i64 a1] u fun e u' => ∃ v es, e = .returned (.tuple #[v, .int .i64 z]) ∧ Keys u' u.heap.size v es qs ∧ Below u.heap.size u u')
    : Calls Try.prog 4 #[.slice A0 n0 c0, .int .i64 a1] w fun e w' => e = .returned (.bool true) ∧ Below w.heap.size w w' := by
  have HL0 := Lib.hid hp0.1
  have hm0 := hp0.2.1
  have hl0 := Nat.le_of_eq hp0.1
  have HP0 := Lib.hid hp0
  clear hp0
  have S := Lib.hid hs
  have I := Lib.hid hi
  clear hs hi
  have B := Lib.hid (Below.refl w.heap.size w)
  go_enter Try.func4, Try.ntmps4
  go_wp2_with fail
  refine (szK_in A0 n0 c0 d0 _ (HP0.out.below B.out) (by omega)).mono ?_
  rintro e u1 ⟨rfl, hb1⟩
  replace B := Lib.hid (bTrans B.out hb1)
  clear hb1
  go_wp2_with fail
  refine (toKeyPoseS_any A0 n0 c0 d0 _ (HP0.out.below B.out) (by omega) (by omega)).mono ?_
  rintro e u2 ⟨ET0, fT0, esT0, rfl, p2, hb2⟩
  have T0 := Lib.hid (Keys.base p2 (B' := w.heap.size) B.out.size)
  replace B := Lib.hid (bTrans B.out hb2)
  clear p2 hb2
  go_wp2_with fail
  refine (S.out _ _ _ (Keys.rdOf T0.out HL0.out (by omega) (by omega))).mono ?_
  rintro e u3 ⟨vW, esW, rfl, p3, hb3⟩
  obtain ⟨EW, fW, rfl, -⟩ := Keys.rd p3 (by omega) (by omega)
  have W := Lib.hid (Keys.base p3 (B' := w.heap.size) B.out.size)
  replace T0 := Lib.hid (Keys.below T0.out hb3)
  replace B := Lib.hid (bTrans B.out hb3)
  clear p3 hb3
  clear T0
  go_wp2_with fail
  refine (toKeyPoseS_any A0 n0 c0 d0 _ (HP0.out.below B.out) (by omega) (by omega)).mono ?_
  rintro e u4 ⟨EX0, fX0, esX0, rfl, p4, hb4⟩
  have SWX0 := Lib.hid (sepOf _ (fun q hq => (Keys.lt W.out q hq).2) (fun q hq => (Keys.lt p4 q hq).1))
  have X0 := Lib.hid (Keys.base p4 (B' := w.heap.size) B.out.size)
  replace W := Lib.hid (Keys.below W.out hb4)
  replace B := Lib.hid (bTrans B.out hb4)
  clear p4 hb4
  go_wp2_with fail
  refine (I.out _ _ _ (Keys.rdOf X0.out HL0.out (by omega) (by omega))).mono ?_
  rintro e u5 ⟨vG, esG, rfl, p5, hb5⟩
  obtain ⟨EG, fG, rfl, -⟩ := Keys.rd p5 (by omega) (by omega)
  have SWG := Lib.hid (sepOf _ (fun q hq => (Keys.lt W.out q hq).2) (fun q hq => (Keys.lt p5 q hq).1))
  have SX0G := Lib.hid (sepOf _ (fun q hq => (Keys.lt X0.out q hq).2) (fun q hq => (Keys.lt p5 q hq).1))
  have G := Lib.hid (Keys.base p5 (B' := w.heap.size) B.out.size)
  replace W := Lib.hid (Keys.below W.out hb5)
  replace X0 := Lib.hid (Keys.below X0.out hb5)
  replace B := Lib.hid (bTrans B.out hb5)
  clear p5 hb5
  go_wp2_with fail
  refine (eqKeyPoseS_same EG EW qs.length fG fW qs _ (Keys.rdOf G.out rfl (by omega) (by omega)) (Keys.rdOf W.out rfl (by omega) (by omega))).mono ?_
  rintro e u6 ⟨rfl, hb6⟩
  replace W := Lib.hid (Keys.below W.out hb6)
  replace X0 := Lib.hid (Keys.below X0.out hb6)
  replace G := Lib.hid (Keys.below G.out hb6)
  replace B := Lib.hid (bTrans B.out hb6)
  clear hb6
  go_wp2_with fail
  refine (toKeyPoseS_any A0 n0 c0 d0 _ (HP0.out.below B.out) (by omega) (by omega)).mono ?_
  rintro e u7 ⟨EY0, fY0, esY0, rfl, p7, hb7⟩
  have Y0 := Lib.hid (Keys.base p7 (B' := w.heap.size) B.out.size)
  replace W := Lib.hid (Keys.below W.out hb7)
  replace X0 := Lib.hid (Keys.below X0.out hb7)
  replace G := Lib.hid (Keys.below G.out hb7)
  replace B := Lib.hid (bTrans B.out hb7)
  clear p7 hb7
  go_wp2_with fail
  refine (eqKeyPoseS_same EX0 EY0 n0 fX0 fY0 d0 _ (Keys.rdOf X0.out HL0.out (by omega) (by omega)) (Keys.rdOf Y0.out HL0.out (by omega) (by omega))).mono ?_
  rintro e u8 ⟨rfl, hb8⟩
  replace W := Lib.hid (Keys.below W.out hb8)
  replace X0 := Lib.hid (Keys.below X0.out hb8)
  replace G := Lib.hid (Keys.below G.out hb8)
  replace Y0 := Lib.hid (Keys.below Y0.out hb8)
  replace B := Lib.hid (bTrans B.out hb8)
  clear hb8
  clear Y0
  go_wp2_with fail
  refine (markKeyPoseS_any _ _ _ _ _ _ X0.out (by omega) (by omega) (by omega) (by omega)).mono ?_
  rintro e u9 ⟨rfl, ⟨esX0', p9, -⟩, g9⟩
  replace W := Lib.hid (Keys.chg W.out g9 SWX0.out)
  replace G := Lib.hid (Keys.chg G.out g9 SX0G.out.symm)
  replace B := Lib.hid (belowChg B.out g9 (fun q hq => (Keys.lt X0.out q hq).1))
  clear p9 g9
  clear X0
  go_wp2_with fail
  refine (eqKeyPoseS_same EG EW qs.length fG fW qs _ (Keys.rdOf G.out rfl (by omega) (by omega)) (Keys.rdOf W.out rfl (by omega) (by omega))).mono ?_
  rintro e u10 ⟨rfl, hb10⟩
  replace W := Lib.hid (Keys.below W.out hb10)
  replace G := Lib.hid (Keys.below G.out hb10)
  replace B := Lib.hid (bTrans B.out hb10)
  clear hb10
  go_wp2_with fail
  refine (markKeyPoseS_any _ _ _ _ _ _ G.out (by omega) (by omega) (by omega) (by omega)).mono ?_
  rintro e u11 ⟨rfl, ⟨esG', p11, -⟩, g11⟩
  replace W := Lib.hid (Keys.chg W.out g11 SWG.out)
  replace B := Lib.hid (belowChg B.out g11 (fun q hq => (Keys.lt G.out q hq).1))
  replace G := Lib.hid p11
  clear p11 g11
  go_wp2_with fail
  refine (heldKeyPoseS_any _ EG qs.length fG qs _ (Keys.rdOf G.out (marksK_length _ _) (by omega) (by rw [marksK_tot]; omega)) (by omega) (by omega) (by omega)).mono ?_
  rintro e u ⟨rfl, rfl⟩
  go_wp2_with fail
  refine (toKeyPoseS_any A0 n0 c0 d0 _ (HP0.out.below B.out) (by omega) (by omega)).mono ?_
  rintro e u12 ⟨EZ0, fZ0, esZ0, rfl, p12, hb12⟩
  have Z0 := Lib.hid (Keys.base p12 (B' := w.heap.size) B.out.size)
  replace W := Lib.hid (Keys.below W.out hb12)
  replace G := Lib.hid (Keys.below G.out hb12)
  replace B := Lib.hid (bTrans B.out hb12)
  clear p12 hb12
  go_wp2_with fail
  refine (I.out _ _ _ (Keys.rdOf Z0.out HL0.out (by omega) (by omega))).mono ?_
  rintro e u13 ⟨vH, esH, rfl, p13, hb13⟩
  obtain ⟨EH, fH, rfl, -⟩ := Keys.rd p13 (by omega) (by omega)
  have H := Lib.hid (Keys.base p13 (B' := w.heap.size) B.out.size)
  replace W := Lib.hid (Keys.below W.out hb13)
  replace G := Lib.hid (Keys.below G.out hb13)
  replace Z0 := Lib.hid (Keys.below Z0.out hb13)
  replace B := Lib.hid (bTrans B.out hb13)
  clear p13 hb13
  clear Z0
  go_wp2_with fail
  refine (eqKeyPoseS_same EH EW qs.length fH fW qs _ (Keys.rdOf H.out rfl (by omega) (by omega)) (Keys.rdOf W.out rfl (by omega) (by omega))).mono ?_
  rintro e u14 ⟨rfl, hb14⟩
  replace W := Lib.hid (Keys.below W.out hb14)
  replace G := Lib.hid (Keys.below G.out hb14)
  replace H := Lib.hid (Keys.below H.out hb14)
  replace B := Lib.hid (bTrans B.out hb14)
  clear hb14
  go_wp2_with fail
  refine (heldKeyPoseS_any _ EG qs.length fG qs _ (Keys.rdOf G.out (marksK_length _ _) (by omega) (by rw [marksK_tot]; omega)) (by omega) (by omega) (by omega)).mono ?_
  rintro e u ⟨rfl, rfl⟩
  go_wp2_with fail
  go_ret
  exact ⟨rfl, B.out⟩

set_option maxRecDepth 100000 in
/-- laws.FnExactStretchKeys, of what is too large to be looked at. -/
theorem lawStretchKeys_big (A0 : Option Addr) (n0 c0 : Nat) (d0 : List Key) (a1 : Int) (w : World) (hp0 : KRow w A0 n0 d0) (ht : ¬ (n0 + totK d0) ≤ 1048576) :
    Calls Try.prog 4 #[.slice A0 n0 c0, .int .i64 a1] w fun e w' => e = .returned (.bool true) ∧ Below w.heap.size w w' := by
  have hm0 := hp0.2.1
  have HP0 := Lib.hid hp0
  clear hp0
  go_enter Try.func4, Try.ntmps4
  go_wp2_with fail
  refine (szK_over A0 n0 c0 d0 _ HP0.out (by omega)).mono ?_
  rintro e u ⟨rfl, hb⟩
  go_wp2_with fail
  go_ret
  exact ⟨rfl, hb⟩


/-- laws.FnExactStretchKeys. -/
theorem law_StretchKeys (A : Option Addr) (n c : Nat) (d : List Key) (s : Int) (w : World) (hp : KRow w A n d) (_hs : I64 s) :
    Calls Try.prog 4 #[.slice A n c, .int .i64 s] w fun e w' => e = .returned (.bool true) ∧ Below w.heap.size w w' := by
  by_cases ht : n + totK d ≤ 1048576
  · cases h : keysB d
    · exact lawStretchKeys_of A n c d s 1 [] w hp (by simp) (by simp [totK]) ht (fun E f u r => specStr_bad E n f d s u r h) (fun E f u r => implStr_bad E n f d s u r h)
    · cases hr : inB s 1 100
      · exact lawStretchKeys_of A n c d s 2 [] w hp (by simp) (by simp [totK]) ht (fun E f u r => specStr_range E n f d s u r h hr) (fun E f u r => implStr_range E n f d s u r h hr)
      · cases hk : keysB (strL d (tk d 0) s)
        · exact lawStretchKeys_of A n c d s 5 [] w hp (by simp) (by simp [totK]) ht (fun E f u r => specStr_ok E n f d s u r h hr 5 [] (.inl ⟨hk, rfl, rfl⟩)) (fun E f u r => implStr_ok E n f d s u r h hr 5 [] (.inl ⟨hk, rfl, rfl⟩))
        · have hl := (keysB_len h).2
          have htk := totK_keys h
          exact lawStretchKeys_of A n c d s 0 (strL d (tk d 0) s) w hp (by rw [strL_length]; omega) (by rw [strL_tot]; omega) ht (fun E f u r => specStr_ok E n f d s u r h hr 0 _ (.inr ⟨hk, rfl, rfl⟩)) (fun E f u r => implStr_ok E n f d s u r h hr 0 _ (.inr ⟨hk, rfl, rfl⟩))
  · exact lawStretchKeys_big A n c d s w hp ht

end Go.Proofs.Ytibafngidpmgdaa
