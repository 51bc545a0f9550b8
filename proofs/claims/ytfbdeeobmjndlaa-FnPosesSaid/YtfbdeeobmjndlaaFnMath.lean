/- What the laws of chapter 4 say: plain mathematics, and their small helpers. -/
import Derived.Test.YtfbdeeobmjndlaaProg
import Derived.Test.YtfbdeeobmjndlaaPose
import Derived.Test.YtfbdeeobmjndlaaKeys
import Derived.Test.YtfbdeeobmjndlaaKeyOk
import Derived.Test.YtfbdeeobmjndlaaPoseLaw
import Derived.Test.YtfbdeeobmjndlaaBetween
import Derived.Test.YtfbdeeobmjndlaaAt2
import Derived.Test.YtfbdeeobmjndlaaAtLaw
import Derived.Test.YtfbdeeobmjndlaaGrids
import Derived.Test.YtfbdeeobmjndlaaAll
import Derived.Test.YtfbdeeobmjndlaaSrc
import Derived.Test.YtfbdeeobmjndlaaPick
import Derived.Test.YtfbdeeobmjndlaaPick2
import Derived.Test.YtfbdeeobmjndlaaBent
import Derived.Test.YtfbdeeobmjndlaaDraw4
import Derived.Test.YtfbdeeobmjndlaaDraws4
import Derived.Test.YtfbdeeobmjndlaaLists
import Derived.Test.YtfbdeeobmjndlaaStretch3
import Derived.IntWalk
import Derived.WalkSpells
import Derived.OwnWalk
import Derived.Deep.RegionWith
import Derived.Deep.DrawnRows
import Derived.Deep.RegionHeld3
import Derived.Tactics
import Derived.Tactics2
import Derived.WalkKit
import Derived.LoopTactic
import Derived.BigQuiet
import Derived.RegionTactic
import Derived.Deep.QuietTactic
import Derived.Outline
import Derived.Lib.Hide
import Derived.Below
import Derived.KernelRfl
namespace Go.Proofs.Ytfbdeeobmjndlaa
set_option linter.unusedSimpArgs false
set_option linter.unusedVariables false
open Go.RowKit


/-- A pose that is mirrored twice is the pose. -/
theorem mirL_twice (ps : List Pt) (W : Int) : mirL (mirL ps W ps.length) W ps.length = ps := by
  apply List.ext_getElem
  · rw [mirL_length]
  · intro i h1 h2
    have h3 := mirL_get (mirL ps W ps.length) W ps.length i h2
    rw [mirL_get ps W ps.length i h2, List.getD_eq_getElem?_getD, List.getElem?_eq_getElem h1] at h3
    simp only [Option.getD_some] at h3
    rw [h3, List.getD_eq_getElem?_getD, List.getElem?_eq_getElem h2]
    simp only [Option.getD_some]
    rw [show W - (W - ps[i].1) = ps[i].1 by omega]

/-- laws.f6big, of a code that is not too long. -/
theorem f6big_any (a : Option Addr) (len cap : Nat) (w : World) :
    Calls Try.prog 48 #[.slice a len cap] w fun e w' => e = .returned (.bool (decide (4096 < (len : Int)))) ∧ w = w' := by
  by_cases h : 4096 < (len : Int)
  · rw [decide_eq_true h]
    go_enter Try.func48, Try.ntmps48
    go_wp2
    go_ret
    exact ⟨rfl, rfl⟩
  · rw [decide_eq_false h]
    go_enter Try.func48, Try.ntmps48
    go_wp2
    go_ret
    exact ⟨rfl, rfl⟩

end Go.Proofs.Ytfbdeeobmjndlaa
