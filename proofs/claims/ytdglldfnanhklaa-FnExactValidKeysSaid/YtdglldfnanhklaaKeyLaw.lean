/- Key poses that are valid: the statement's own walk. -/
import Derived.Test.YtdglldfnanhklaaProg
import Derived.Test.YtdglldfnanhklaaPose
import Derived.Test.YtdglldfnanhklaaKeys
import Derived.Test.YtdglldfnanhklaaKeyOk
import Derived.Test.YtdglldfnanhklaaPoseLaw
import Derived.OwnWalk
import Derived.Deep.RegionWith
import Derived.Deep.DrawnRows
import Derived.Deep.RegionHeld3
import Derived.Tactics
import Derived.Tactics2
import Derived.WalkKit
import Derived.LoopTactic
import Derived.BigQuiet
import Derived.RegionTactic
import Derived.Deep.QuietTactic
import Derived.Outline
import Derived.Lib.Hide
import Derived.Below
import Derived.KernelRfl
namespace Go.Proofs.Ytdglldfnanhklaa
set_option linter.unusedSimpArgs false
set_option linter.unusedVariables false
open Go.RowKit

set_option maxHeartbeats 2000000 in
set_option maxRecDepth 100000 in
/-- laws.FnExactValidKeys, out of contracts. -/
theorem lawValidKeys_of (A0 : Option Addr) (n0 c0 : Nat) (d0 : List Key) (z : Bool) (w : World) (hp0 : KRow w A0 n0 d0)  (ht : (n0 + totK d0) ≤ 1048576)
    (hs : ∀ (E0 : Option Addr) (f0 : Nat) (u : World), RdK u E0 n0 d0 → Calls Try.prog 34 #[.slice E0 n0 f0] u fun e u' => e = .returned (.bool z) ∧ Below u.heap.size u u')
    (hi : ∀ (E0 : Option Addr) (f0 : Nat) (u : World), RdK u E0 n0 d0 → Calls Try.prog 33 #[.slice E0 n0 f0] u fun e u' => e = .returned (.bool z) ∧ Below u.heap.size u u')
    : Calls Try.prog 7 #[.slice A0 n0 c0] w fun e w' => e = .returned (.bool true) ∧ Below w.heap.size w w' := by
  have HL0 := Lib.hid hp0.1
  have hm0 := hp0.2.1
  have hl0 := Nat.le_of_eq hp0.1
  have HP0 := Lib.hid hp0
  clear hp0
  have S := Lib.hid hs
  have I := Lib.hid hi
  clear hs hi
  have B := Lib.hid (Below.refl w.heap.size w)
  go_enter Try.func7, Try.ntmps7
  go_wp2_with fail
  refine (szK_in A0 n0 c0 d0 _ (HP0.out.below B.out) (by omega)).mono ?_
  rintro e u1 ⟨rfl, hb1⟩
  replace B := Lib.hid (bTrans B.out hb1)
  clear hb1
  go_wp2_with fail
  refine (toKeyPoseS_any A0 n0 c0 d0 _ (HP0.out.below B.out) (by omega) (by omega)).mono ?_
  rintro e u2 ⟨ET0, fT0, esT0, rfl, p2, hb2⟩
  have T0 := Lib.hid (Keys.base p2 (B' := w.heap.size) B.out.size)
  replace B := Lib.hid (bTrans B.out hb2)
  clear p2 hb2
  go_wp2_with fail
  refine (S.out _ _ _ (Keys.rdOf T0.out HL0.out (by omega) (by omega))).mono ?_
  rintro e u3 ⟨rfl, hb3⟩
  replace T0 := Lib.hid (Keys.below T0.out hb3)
  replace B := Lib.hid (bTrans B.out hb3)
  clear hb3
  clear T0
  go_wp2_with fail
  refine (toKeyPoseS_any A0 n0 c0 d0 _ (HP0.out.below B.out) (by omega) (by omega)).mono ?_
  rintro e u4 ⟨EX0, fX0, esX0, rfl, p4, hb4⟩
  have X0 := Lib.hid (Keys.base p4 (B' := w.heap.size) B.out.size)
  replace B := Lib.hid (bTrans B.out hb4)
  clear p4 hb4
  go_wp2_with fail
  refine (I.out _ _ _ (Keys.rdOf X0.out HL0.out (by omega) (by omega))).mono ?_
  rintro e u5 ⟨rfl, hb5⟩
  replace X0 := Lib.hid (Keys.below X0.out hb5)
  replace B := Lib.hid (bTrans B.out hb5)
  clear hb5
  go_wp2_with fail
  refine (toKeyPoseS_any A0 n0 c0 d0 _ (HP0.out.below B.out) (by omega) (by omega)).mono ?_
  rintro e u6 ⟨EY0, fY0, esY0, rfl, p6, hb6⟩
  have Y0 := Lib.hid (Keys.base p6 (B' := w.heap.size) B.out.size)
  replace X0 := Lib.hid (Keys.below X0.out hb6)
  replace B := Lib.hid (bTrans B.out hb6)
  clear p6 hb6
  go_wp2_with fail
  refine (eqKeyPoseS_same EX0 EY0 n0 fX0 fY0 d0 _ (Keys.rdOf X0.out HL0.out (by omega) (by omega)) (Keys.rdOf Y0.out HL0.out (by omega) (by omega))).mono ?_
  rintro e u7 ⟨rfl, hb7⟩
  replace X0 := Lib.hid (Keys.below X0.out hb7)
  replace Y0 := Lib.hid (Keys.below Y0.out hb7)
  replace B := Lib.hid (bTrans B.out hb7)
  clear hb7
  clear Y0
  go_wp2_with fail
  go_ret
  exact ⟨rfl, B.out⟩

set_option maxRecDepth 100000 in
/-- laws.FnExactValidKeys, of what is too large to be looked at. -/
theorem lawValidKeys_big (A0 : Option Addr) (n0 c0 : Nat) (d0 : List Key) (w : World) (hp0 : KRow w A0 n0 d0) (ht : ¬ (n0 + totK d0) ≤ 1048576) :
    Calls Try.prog 7 #[.slice A0 n0 c0] w fun e w' => e = .returned (.bool true) ∧ Below w.heap.size w w' := by
  have hm0 := hp0.2.1
  have HP0 := Lib.hid hp0
  clear hp0
  go_enter Try.func7, Try.ntmps7
  go_wp2_with fail
  refine (szK_over A0 n0 c0 d0 _ HP0.out (by omega)).mono ?_
  rintro e u ⟨rfl, hb⟩
  go_wp2_with fail
  go_ret
  exact ⟨rfl, hb⟩


/-- laws.FnExactValidKeys. -/
theorem law_ValidKeys (A : Option Addr) (n c : Nat) (d : List Key) (w : World) (hp : KRow w A n d) :
    Calls Try.prog 7 #[.slice A n c] w fun e w' => e = .returned (.bool true) ∧ Below w.heap.size w w' := by
  by_cases ht : n + totK d ≤ 1048576
  · exact lawValidKeys_of A n c d (keysB d) w hp ht (fun E f u r => (specValidKeys_any E n f d u r).mono fun _ _ hh => ⟨hh.1, belowDrewn hh.2⟩) (fun E f u r => validKeys_any E n f d u r)
  · exact lawValidKeys_big A n c d w hp ht

end Go.Proofs.Ytdglldfnanhklaa
