/-
  No cell of these rows narrows 'for every input' (looked for: loops, veiled, ifaces, maps, wideKeys, modest, calm, conditions, laid).
  DERIVED. THE GIVEN ROWS OF THIS SEAT. 16 by the template 'for every input the law returns true; each argument reads behind the call as it read before'; 0 by the template 'total and deterministic' (their statements: YtibafngidpmgdaaTotals.lean).
  GIVEN WITH THE SEED: the statements are not yours to turn. If you find one false, say at which input.
  Laid BY PROGRAM, IN A SANDBOX (cutbox-rows.mjs): the forced cells as the released guide's own fill.sh prints them over the translation 2e4f5787291d6956… (all of the seat's roots in one cut). By AI agents, Wed Nov 11 2026. No macro, syntax, notation, axiom, sorry.
-/
import Derived.Test.YtibafngidpmgdaaChecked
import GoSem.Claim
import GoSem.ClaimJoined
import GoSem.ClaimMapViews
import Derived.JoinedTies
import Derived.KernelRfl
namespace Go.Proofs.Ytibafngidpmgdaa
/- THE CELL 'sum', in the pinned program and in every row, IS THE sha256 OF THE DUMP (.gsa) THAT YtibafngidpmgdaaProg.lean LOADS. Nothing in Lean hashes anything: it is a label: what it is worth is what the hold of that sum in a sandbox is worth. -/
noncomputable def Try.pinned : Pinned := { name := "ytibafngidpmgdaa", sum := "2e4f5787291d6956e581edbad4be2b4bf46a605d9cb4215668aec7f4b186e3eb", checked := Try.checked }
namespace Rows
def none {H : Type} : Left H := { results := [], args := [] }

/-- 'laws.FnExactMirrorPose': WHATEVER THE INPUT: true; the input reads as it did. -/
def fnExactMirrorPoseSpec : ChangeSpec := { name := "fnExactMirrorPose", fn := fun _ => fun
  | [d1, d2] => { results := [.lit (.bool true)], args := [d1, d2] }
  | _ => none }
def fnExactMirrorPoseRow : OpenClaim := { program := "ytibafngidpmgdaa", sum := "2e4f5787291d6956e581edbad4be2b4bf46a605d9cb4215668aec7f4b186e3eb", func := "loop.example/g01063/laws.FnExactMirrorPose", spec := "fnExactMirrorPose", unfollowed := true, recurses := true, apart := false }
def FnExactMirrorPoseSaid : Prop := fnExactMirrorPoseRow.holds Try.pinned (OpenSpec.ofChange fnExactMirrorPoseSpec)

/-- ITS FALSE NEIGHBOUR: 'it returns false'. Refute it at one input. -/
def fnExactMirrorPoseWrong : ChangeSpec := { name := "fnExactMirrorPose", fn := fun _ => fun
  | [d1, d2] => { results := [.lit (.bool false)], args := [d1, d2] }
  | _ => none }
def FnExactMirrorPoseWrongFalsely : Prop := fnExactMirrorPoseRow.holds Try.pinned (OpenSpec.ofChange fnExactMirrorPoseWrong)

/-- 'laws.FnExactStretchKeys': WHATEVER THE INPUT: true; the input reads as it did. -/
def fnExactStretchKeysSpec : ChangeSpec := { name := "fnExactStretchKeys", fn := fun _ => fun
  | [d1, d2] => { results := [.lit (.bool true)], args := [d1, d2] }
  | _ => none }
def fnExactStretchKeysRow : OpenClaim := { program := "ytibafngidpmgdaa", sum := "2e4f5787291d6956e581edbad4be2b4bf46a605d9cb4215668aec7f4b186e3eb", func := "loop.example/g01063/laws.FnExactStretchKeys", spec := "fnExactStretchKeys", unfollowed := true, recurses := true, apart := false }
def FnExactStretchKeysSaid : Prop := fnExactStretchKeysRow.holds Try.pinned (OpenSpec.ofChange fnExactStretchKeysSpec)

/-- ITS FALSE NEIGHBOUR: 'it returns false'. Refute it at one input. -/
def fnExactStretchKeysWrong : ChangeSpec := { name := "fnExactStretchKeys", fn := fun _ => fun
  | [d1, d2] => { results := [.lit (.bool false)], args := [d1, d2] }
  | _ => none }
def FnExactStretchKeysWrongFalsely : Prop := fnExactStretchKeysRow.holds Try.pinned (OpenSpec.ofChange fnExactStretchKeysWrong)

/-- 'laws.FnPoses': WHATEVER THE INPUT: true; the input reads as it did. -/
def fnPosesSpec : ChangeSpec := { name := "fnPoses", fn := fun _ => fun
  | [d] => { results := [.lit (.bool true)], args := [d] }
  | _ => none }
def fnPosesRow : OpenClaim := { program := "ytibafngidpmgdaa", sum := "2e4f5787291d6956e581edbad4be2b4bf46a605d9cb4215668aec7f4b186e3eb", func := "loop.example/g01063/laws.FnPoses", spec := "fnPoses", unfollowed := true, recurses := true, apart := false }
def FnPosesSaid : Prop := fnPosesRow.holds Try.pinned (OpenSpec.ofChange fnPosesSpec)

/-- ITS FALSE NEIGHBOUR: 'it returns false'. Refute it at one input. -/
def fnPosesWrong : ChangeSpec := { name := "fnPoses", fn := fun _ => fun
  | [d] => { results := [.lit (.bool false)], args := [d] }
  | _ => none }
def FnPosesWrongFalsely : Prop := fnPosesRow.holds Try.pinned (OpenSpec.ofChange fnPosesWrong)

/-- 'laws.FnKeyPoses': WHATEVER THE INPUT: true; the input reads as it did. -/
def fnKeyPosesSpec : ChangeSpec := { name := "fnKeyPoses", fn := fun _ => fun
  | [d] => { results := [.lit (.bool true)], args := [d] }
  | _ => none }
def fnKeyPosesRow : OpenClaim := { program := "ytibafngidpmgdaa", sum := "2e4f5787291d6956e581edbad4be2b4bf46a605d9cb4215668aec7f4b186e3eb", func := "loop.example/g01063/laws.FnKeyPoses", spec := "fnKeyPoses", unfollowed := true, recurses := true, apart := false }
def FnKeyPosesSaid : Prop := fnKeyPosesRow.holds Try.pinned (OpenSpec.ofChange fnKeyPosesSpec)

/-- ITS FALSE NEIGHBOUR: 'it returns false'. Refute it at one input. -/
def fnKeyPosesWrong : ChangeSpec := { name := "fnKeyPoses", fn := fun _ => fun
  | [d] => { results := [.lit (.bool false)], args := [d] }
  | _ => none }
def FnKeyPosesWrongFalsely : Prop := fnKeyPosesRow.holds Try.pinned (OpenSpec.ofChange fnKeyPosesWrong)

/-- 'laws.FnDiscs': WHATEVER THE INPUT: true; the input reads as it did. -/
def fnDiscsSpec : ChangeSpec := { name := "fnDiscs", fn := fun _ => fun
  | [d1, d2] => { results := [.lit (.bool true)], args := [d1, d2] }
  | _ => none }
def fnDiscsRow : OpenClaim := { program := "ytibafngidpmgdaa", sum := "2e4f5787291d6956e581edbad4be2b4bf46a605d9cb4215668aec7f4b186e3eb", func := "loop.example/g01063/laws.FnDiscs", spec := "fnDiscs", unfollowed := true, recurses := true, apart := false }
def FnDiscsSaid : Prop := fnDiscsRow.holds Try.pinned (OpenSpec.ofChange fnDiscsSpec)

/-- ITS FALSE NEIGHBOUR: 'it returns false'. Refute it at one input. -/
def fnDiscsWrong : ChangeSpec := { name := "fnDiscs", fn := fun _ => fun
  | [d1, d2] => { results := [.lit (.bool false)], args := [d1, d2] }
  | _ => none }
def FnDiscsWrongFalsely : Prop := fnDiscsRow.holds Try.pinned (OpenSpec.ofChange fnDiscsWrong)

/-- 'laws.FnMotions': WHATEVER THE INPUT: true; the input reads as it did. -/
def fnMotionsSpec : ChangeSpec := { name := "fnMotions", fn := fun _ => fun
  | [d1, d2] => { results := [.lit (.bool true)], args := [d1, d2] }
  | _ => none }
def fnMotionsRow : OpenClaim := { program := "ytibafngidpmgdaa", sum := "2e4f5787291d6956e581edbad4be2b4bf46a605d9cb4215668aec7f4b186e3eb", func := "loop.example/g01063/laws.FnMotions", spec := "fnMotions", unfollowed := true, recurses := true, apart := false }
def FnMotionsSaid : Prop := fnMotionsRow.holds Try.pinned (OpenSpec.ofChange fnMotionsSpec)

/-- ITS FALSE NEIGHBOUR: 'it returns false'. Refute it at one input. -/
def fnMotionsWrong : ChangeSpec := { name := "fnMotions", fn := fun _ => fun
  | [d1, d2] => { results := [.lit (.bool false)], args := [d1, d2] }
  | _ => none }
def FnMotionsWrongFalsely : Prop := fnMotionsRow.holds Try.pinned (OpenSpec.ofChange fnMotionsWrong)

/-- 'laws.FnExactValidMotion': WHATEVER THE INPUT: true; the input reads as it did. -/
def fnExactValidMotionSpec : ChangeSpec := { name := "fnExactValidMotion", fn := fun _ => fun
  | [d] => { results := [.lit (.bool true)], args := [d] }
  | _ => none }
def fnExactValidMotionRow : OpenClaim := { program := "ytibafngidpmgdaa", sum := "2e4f5787291d6956e581edbad4be2b4bf46a605d9cb4215668aec7f4b186e3eb", func := "loop.example/g01063/laws.FnExactValidMotion", spec := "fnExactValidMotion", apart := false }
def FnExactValidMotionSaid : Prop := fnExactValidMotionRow.holds Try.pinned (OpenSpec.ofChange fnExactValidMotionSpec)

/-- ITS FALSE NEIGHBOUR: 'it returns false'. Refute it at one input. -/
def fnExactValidMotionWrong : ChangeSpec := { name := "fnExactValidMotion", fn := fun _ => fun
  | [d] => { results := [.lit (.bool false)], args := [d] }
  | _ => none }
def FnExactValidMotionWrongFalsely : Prop := fnExactValidMotionRow.holds Try.pinned (OpenSpec.ofChange fnExactValidMotionWrong)

/-- 'laws.FnExactMotionOf': WHATEVER THE INPUT: true; the input reads as it did. -/
def fnExactMotionOfSpec : ChangeSpec := { name := "fnExactMotionOf", fn := fun _ => fun
  | [d1, d2] => { results := [.lit (.bool true)], args := [d1, d2] }
  | _ => none }
def fnExactMotionOfRow : OpenClaim := { program := "ytibafngidpmgdaa", sum := "2e4f5787291d6956e581edbad4be2b4bf46a605d9cb4215668aec7f4b186e3eb", func := "loop.example/g01063/laws.FnExactMotionOf", spec := "fnExactMotionOf", unfollowed := true, recurses := true, apart := false }
def FnExactMotionOfSaid : Prop := fnExactMotionOfRow.holds Try.pinned (OpenSpec.ofChange fnExactMotionOfSpec)

/-- ITS FALSE NEIGHBOUR: 'it returns false'. Refute it at one input. -/
def fnExactMotionOfWrong : ChangeSpec := { name := "fnExactMotionOf", fn := fun _ => fun
  | [d1, d2] => { results := [.lit (.bool false)], args := [d1, d2] }
  | _ => none }
def FnExactMotionOfWrongFalsely : Prop := fnExactMotionOfRow.holds Try.pinned (OpenSpec.ofChange fnExactMotionOfWrong)

/-- 'laws.FnExactDiscFor': WHATEVER THE INPUT: true; the input reads as it did. -/
def fnExactDiscForSpec : ChangeSpec := { name := "fnExactDiscFor", fn := fun _ => fun
  | [d1, d2] => { results := [.lit (.bool true)], args := [d1, d2] }
  | _ => none }
def fnExactDiscForRow : OpenClaim := { program := "ytibafngidpmgdaa", sum := "2e4f5787291d6956e581edbad4be2b4bf46a605d9cb4215668aec7f4b186e3eb", func := "loop.example/g01063/laws.FnExactDiscFor", spec := "fnExactDiscFor", unfollowed := true, recurses := true, apart := false }
def FnExactDiscForSaid : Prop := fnExactDiscForRow.holds Try.pinned (OpenSpec.ofChange fnExactDiscForSpec)

/-- ITS FALSE NEIGHBOUR: 'it returns false'. Refute it at one input. -/
def fnExactDiscForWrong : ChangeSpec := { name := "fnExactDiscFor", fn := fun _ => fun
  | [d1, d2] => { results := [.lit (.bool false)], args := [d1, d2] }
  | _ => none }
def FnExactDiscForWrongFalsely : Prop := fnExactDiscForRow.holds Try.pinned (OpenSpec.ofChange fnExactDiscForWrong)

/-- 'laws.FnExactFewestPictures': WHATEVER THE INPUT: true; the input reads as it did. -/
def fnExactFewestPicturesSpec : ChangeSpec := { name := "fnExactFewestPictures", fn := fun _ => fun
  | [d] => { results := [.lit (.bool true)], args := [d] }
  | _ => none }
def fnExactFewestPicturesRow : OpenClaim := { program := "ytibafngidpmgdaa", sum := "2e4f5787291d6956e581edbad4be2b4bf46a605d9cb4215668aec7f4b186e3eb", func := "loop.example/g01063/laws.FnExactFewestPictures", spec := "fnExactFewestPictures", unfollowed := true, recurses := true, apart := false }
def FnExactFewestPicturesSaid : Prop := fnExactFewestPicturesRow.holds Try.pinned (OpenSpec.ofChange fnExactFewestPicturesSpec)

/-- ITS FALSE NEIGHBOUR: 'it returns false'. Refute it at one input. -/
def fnExactFewestPicturesWrong : ChangeSpec := { name := "fnExactFewestPictures", fn := fun _ => fun
  | [d] => { results := [.lit (.bool false)], args := [d] }
  | _ => none }
def FnExactFewestPicturesWrongFalsely : Prop := fnExactFewestPicturesRow.holds Try.pinned (OpenSpec.ofChange fnExactFewestPicturesWrong)

/-- 'laws.FnExactPeriodOf': WHATEVER THE INPUT: true; the input reads as it did. -/
def fnExactPeriodOfSpec : ChangeSpec := { name := "fnExactPeriodOf", fn := fun _ => fun
  | [d] => { results := [.lit (.bool true)], args := [d] }
  | _ => none }
def fnExactPeriodOfRow : OpenClaim := { program := "ytibafngidpmgdaa", sum := "2e4f5787291d6956e581edbad4be2b4bf46a605d9cb4215668aec7f4b186e3eb", func := "loop.example/g01063/laws.FnExactPeriodOf", spec := "fnExactPeriodOf", unfollowed := true, recurses := true, apart := false }
def FnExactPeriodOfSaid : Prop := fnExactPeriodOfRow.holds Try.pinned (OpenSpec.ofChange fnExactPeriodOfSpec)

/-- ITS FALSE NEIGHBOUR: 'it returns false'. Refute it at one input. -/
def fnExactPeriodOfWrong : ChangeSpec := { name := "fnExactPeriodOf", fn := fun _ => fun
  | [d] => { results := [.lit (.bool false)], args := [d] }
  | _ => none }
def FnExactPeriodOfWrongFalsely : Prop := fnExactPeriodOfRow.holds Try.pinned (OpenSpec.ofChange fnExactPeriodOfWrong)

/-- 'laws.FnExactSameMotion': WHATEVER THE INPUT: true; the input reads as it did. -/
def fnExactSameMotionSpec : ChangeSpec := { name := "fnExactSameMotion", fn := fun _ => fun
  | [d1, d2] => { results := [.lit (.bool true)], args := [d1, d2] }
  | _ => none }
def fnExactSameMotionRow : OpenClaim := { program := "ytibafngidpmgdaa", sum := "2e4f5787291d6956e581edbad4be2b4bf46a605d9cb4215668aec7f4b186e3eb", func := "loop.example/g01063/laws.FnExactSameMotion", spec := "fnExactSameMotion", unfollowed := true, recurses := true, apart := false }
def FnExactSameMotionSaid : Prop := fnExactSameMotionRow.holds Try.pinned (OpenSpec.ofChange fnExactSameMotionSpec)

/-- ITS FALSE NEIGHBOUR: 'it returns false'. Refute it at one input. -/
def fnExactSameMotionWrong : ChangeSpec := { name := "fnExactSameMotion", fn := fun _ => fun
  | [d1, d2] => { results := [.lit (.bool false)], args := [d1, d2] }
  | _ => none }
def FnExactSameMotionWrongFalsely : Prop := fnExactSameMotionRow.holds Try.pinned (OpenSpec.ofChange fnExactSameMotionWrong)

/-- 'laws.FnExactFirstTurn': WHATEVER THE INPUT: true; the input reads as it did. -/
def fnExactFirstTurnSpec : ChangeSpec := { name := "fnExactFirstTurn", fn := fun _ => fun
  | [d] => { results := [.lit (.bool true)], args := [d] }
  | _ => none }
def fnExactFirstTurnRow : OpenClaim := { program := "ytibafngidpmgdaa", sum := "2e4f5787291d6956e581edbad4be2b4bf46a605d9cb4215668aec7f4b186e3eb", func := "loop.example/g01063/laws.FnExactFirstTurn", spec := "fnExactFirstTurn", unfollowed := true, recurses := true, apart := false }
def FnExactFirstTurnSaid : Prop := fnExactFirstTurnRow.holds Try.pinned (OpenSpec.ofChange fnExactFirstTurnSpec)

/-- ITS FALSE NEIGHBOUR: 'it returns false'. Refute it at one input. -/
def fnExactFirstTurnWrong : ChangeSpec := { name := "fnExactFirstTurn", fn := fun _ => fun
  | [d] => { results := [.lit (.bool false)], args := [d] }
  | _ => none }
def FnExactFirstTurnWrongFalsely : Prop := fnExactFirstTurnRow.holds Try.pinned (OpenSpec.ofChange fnExactFirstTurnWrong)

/-- 'laws.FnExactBackMotion': WHATEVER THE INPUT: true; the input reads as it did. -/
def fnExactBackMotionSpec : ChangeSpec := { name := "fnExactBackMotion", fn := fun _ => fun
  | [d] => { results := [.lit (.bool true)], args := [d] }
  | _ => none }
def fnExactBackMotionRow : OpenClaim := { program := "ytibafngidpmgdaa", sum := "2e4f5787291d6956e581edbad4be2b4bf46a605d9cb4215668aec7f4b186e3eb", func := "loop.example/g01063/laws.FnExactBackMotion", spec := "fnExactBackMotion", apart := false }
def FnExactBackMotionSaid : Prop := fnExactBackMotionRow.holds Try.pinned (OpenSpec.ofChange fnExactBackMotionSpec)

/-- ITS FALSE NEIGHBOUR: 'it returns false'. Refute it at one input. -/
def fnExactBackMotionWrong : ChangeSpec := { name := "fnExactBackMotion", fn := fun _ => fun
  | [d] => { results := [.lit (.bool false)], args := [d] }
  | _ => none }
def FnExactBackMotionWrongFalsely : Prop := fnExactBackMotionRow.holds Try.pinned (OpenSpec.ofChange fnExactBackMotionWrong)

/-- 'laws.FnExactLooksBack': WHATEVER THE INPUT: true; the input reads as it did. -/
def fnExactLooksBackSpec : ChangeSpec := { name := "fnExactLooksBack", fn := fun _ => fun
  | [d] => { results := [.lit (.bool true)], args := [d] }
  | _ => none }
def fnExactLooksBackRow : OpenClaim := { program := "ytibafngidpmgdaa", sum := "2e4f5787291d6956e581edbad4be2b4bf46a605d9cb4215668aec7f4b186e3eb", func := "loop.example/g01063/laws.FnExactLooksBack", spec := "fnExactLooksBack", unfollowed := true, recurses := true, apart := false }
def FnExactLooksBackSaid : Prop := fnExactLooksBackRow.holds Try.pinned (OpenSpec.ofChange fnExactLooksBackSpec)

/-- ITS FALSE NEIGHBOUR: 'it returns false'. Refute it at one input. -/
def fnExactLooksBackWrong : ChangeSpec := { name := "fnExactLooksBack", fn := fun _ => fun
  | [d] => { results := [.lit (.bool false)], args := [d] }
  | _ => none }
def FnExactLooksBackWrongFalsely : Prop := fnExactLooksBackRow.holds Try.pinned (OpenSpec.ofChange fnExactLooksBackWrong)

/-- 'laws.FnExactChangesIn': WHATEVER THE INPUT: true; the input reads as it did. -/
def fnExactChangesInSpec : ChangeSpec := { name := "fnExactChangesIn", fn := fun _ => fun
  | [d] => { results := [.lit (.bool true)], args := [d] }
  | _ => none }
def fnExactChangesInRow : OpenClaim := { program := "ytibafngidpmgdaa", sum := "2e4f5787291d6956e581edbad4be2b4bf46a605d9cb4215668aec7f4b186e3eb", func := "loop.example/g01063/laws.FnExactChangesIn", spec := "fnExactChangesIn", apart := false }
def FnExactChangesInSaid : Prop := fnExactChangesInRow.holds Try.pinned (OpenSpec.ofChange fnExactChangesInSpec)

/-- ITS FALSE NEIGHBOUR: 'it returns false'. Refute it at one input. -/
def fnExactChangesInWrong : ChangeSpec := { name := "fnExactChangesIn", fn := fun _ => fun
  | [d] => { results := [.lit (.bool false)], args := [d] }
  | _ => none }
def FnExactChangesInWrongFalsely : Prop := fnExactChangesInRow.holds Try.pinned (OpenSpec.ofChange fnExactChangesInWrong)

/- THE SECOND FORM. 'bulk': how many values and letters a reading holds, each counted each time it is reached (what is shared counts as often as it is met; a slice's spare places count too). A statement '..UptoSaid' is the law's where the arguments, and the package variables that the reading takes, are together of bulk at most 1048576: NARROWER than '..Said'. Prove '..Said' where nothing that the law and all that it calls make is longer than what came in: it says more and counts as full. Else prove '..UptoSaid'. A law counts once. -/
mutual
def uptoBulk {H : Type} : DataW H → Nat
  | .lit (.string bytes) => bytes.length + 1
  | .lit _ => 1
  | .nil => 1
  | .ptr d => uptoBulk d + 1
  | .slice elems spare => uptoBulkAll elems + uptoBulkAll spare + 1
  | .agg parts => uptoBulkAll parts + 1
  | .iface _ d => uptoBulk d + 1
  | .map entries => uptoBulkEntries entries + 1
  | .held _ => 1
def uptoBulkAll {H : Type} : List (DataW H) → Nat
  | [] => 0
  | d :: r => uptoBulk d + uptoBulkAll r
def uptoBulkEntries {H : Type} : List (Lit × DataW H) → Nat
  | [] => 0
  | x :: r => uptoBulkEntry x + uptoBulkEntries r
def uptoBulkEntry {H : Type} : Lit × DataW H → Nat
  | (.string bytes, d) => bytes.length + uptoBulk d + 1
  | (_, d) => uptoBulk d + 1
 end
def uptoSmall : (H : Type) → List (DataW H) → Bool := fun _ ds => decide (uptoBulkAll ds ≤ 1048576)
def OpenSpec.upto (s : _root_.Go.ChangeSpec) : _root_.Go.OpenSpec := { _root_.Go.OpenSpec.ofChange s with cond := some uptoSmall }

/-- 'laws.FnExactMirrorPose', WHERE WHAT IT READS IS OF BULK AT MOST 1048576: true; the input reads as it did. -/
def fnExactMirrorPoseUptoRow : OpenClaim := { program := "ytibafngidpmgdaa", sum := "2e4f5787291d6956e581edbad4be2b4bf46a605d9cb4215668aec7f4b186e3eb", func := "loop.example/g01063/laws.FnExactMirrorPose", spec := "fnExactMirrorPose", unfollowed := true, recurses := true, apart := false, narrowed := true }
def FnExactMirrorPoseUptoSaid : Prop := fnExactMirrorPoseUptoRow.holds Try.pinned (OpenSpec.upto fnExactMirrorPoseSpec)

/-- 'laws.FnExactStretchKeys', WHERE WHAT IT READS IS OF BULK AT MOST 1048576: true; the input reads as it did. -/
def fnExactStretchKeysUptoRow : OpenClaim := { program := "ytibafngidpmgdaa", sum := "2e4f5787291d6956e581edbad4be2b4bf46a605d9cb4215668aec7f4b186e3eb", func := "loop.example/g01063/laws.FnExactStretchKeys", spec := "fnExactStretchKeys", unfollowed := true, recurses := true, apart := false, narrowed := true }
def FnExactStretchKeysUptoSaid : Prop := fnExactStretchKeysUptoRow.holds Try.pinned (OpenSpec.upto fnExactStretchKeysSpec)

/-- 'laws.FnPoses', WHERE WHAT IT READS IS OF BULK AT MOST 1048576: true; the input reads as it did. -/
def fnPosesUptoRow : OpenClaim := { program := "ytibafngidpmgdaa", sum := "2e4f5787291d6956e581edbad4be2b4bf46a605d9cb4215668aec7f4b186e3eb", func := "loop.example/g01063/laws.FnPoses", spec := "fnPoses", unfollowed := true, recurses := true, apart := false, narrowed := true }
def FnPosesUptoSaid : Prop := fnPosesUptoRow.holds Try.pinned (OpenSpec.upto fnPosesSpec)

/-- 'laws.FnKeyPoses', WHERE WHAT IT READS IS OF BULK AT MOST 1048576: true; the input reads as it did. -/
def fnKeyPosesUptoRow : OpenClaim := { program := "ytibafngidpmgdaa", sum := "2e4f5787291d6956e581edbad4be2b4bf46a605d9cb4215668aec7f4b186e3eb", func := "loop.example/g01063/laws.FnKeyPoses", spec := "fnKeyPoses", unfollowed := true, recurses := true, apart := false, narrowed := true }
def FnKeyPosesUptoSaid : Prop := fnKeyPosesUptoRow.holds Try.pinned (OpenSpec.upto fnKeyPosesSpec)

/-- 'laws.FnDiscs', WHERE WHAT IT READS IS OF BULK AT MOST 1048576: true; the input reads as it did. -/
def fnDiscsUptoRow : OpenClaim := { program := "ytibafngidpmgdaa", sum := "2e4f5787291d6956e581edbad4be2b4bf46a605d9cb4215668aec7f4b186e3eb", func := "loop.example/g01063/laws.FnDiscs", spec := "fnDiscs", unfollowed := true, recurses := true, apart := false, narrowed := true }
def FnDiscsUptoSaid : Prop := fnDiscsUptoRow.holds Try.pinned (OpenSpec.upto fnDiscsSpec)

/-- 'laws.FnMotions', WHERE WHAT IT READS IS OF BULK AT MOST 1048576: true; the input reads as it did. -/
def fnMotionsUptoRow : OpenClaim := { program := "ytibafngidpmgdaa", sum := "2e4f5787291d6956e581edbad4be2b4bf46a605d9cb4215668aec7f4b186e3eb", func := "loop.example/g01063/laws.FnMotions", spec := "fnMotions", unfollowed := true, recurses := true, apart := false, narrowed := true }
def FnMotionsUptoSaid : Prop := fnMotionsUptoRow.holds Try.pinned (OpenSpec.upto fnMotionsSpec)

/-- 'laws.FnExactValidMotion', WHERE WHAT IT READS IS OF BULK AT MOST 1048576: true; the input reads as it did. -/
def fnExactValidMotionUptoRow : OpenClaim := { program := "ytibafngidpmgdaa", sum := "2e4f5787291d6956e581edbad4be2b4bf46a605d9cb4215668aec7f4b186e3eb", func := "loop.example/g01063/laws.FnExactValidMotion", spec := "fnExactValidMotion", apart := false, narrowed := true }
def FnExactValidMotionUptoSaid : Prop := fnExactValidMotionUptoRow.holds Try.pinned (OpenSpec.upto fnExactValidMotionSpec)

/-- 'laws.FnExactMotionOf', WHERE WHAT IT READS IS OF BULK AT MOST 1048576: true; the input reads as it did. -/
def fnExactMotionOfUptoRow : OpenClaim := { program := "ytibafngidpmgdaa", sum := "2e4f5787291d6956e581edbad4be2b4bf46a605d9cb4215668aec7f4b186e3eb", func := "loop.example/g01063/laws.FnExactMotionOf", spec := "fnExactMotionOf", unfollowed := true, recurses := true, apart := false, narrowed := true }
def FnExactMotionOfUptoSaid : Prop := fnExactMotionOfUptoRow.holds Try.pinned (OpenSpec.upto fnExactMotionOfSpec)

/-- 'laws.FnExactDiscFor', WHERE WHAT IT READS IS OF BULK AT MOST 1048576: true; the input reads as it did. -/
def fnExactDiscForUptoRow : OpenClaim := { program := "ytibafngidpmgdaa", sum := "2e4f5787291d6956e581edbad4be2b4bf46a605d9cb4215668aec7f4b186e3eb", func := "loop.example/g01063/laws.FnExactDiscFor", spec := "fnExactDiscFor", unfollowed := true, recurses := true, apart := false, narrowed := true }
def FnExactDiscForUptoSaid : Prop := fnExactDiscForUptoRow.holds Try.pinned (OpenSpec.upto fnExactDiscForSpec)

/-- 'laws.FnExactFewestPictures', WHERE WHAT IT READS IS OF BULK AT MOST 1048576: true; the input reads as it did. -/
def fnExactFewestPicturesUptoRow : OpenClaim := { program := "ytibafngidpmgdaa", sum := "2e4f5787291d6956e581edbad4be2b4bf46a605d9cb4215668aec7f4b186e3eb", func := "loop.example/g01063/laws.FnExactFewestPictures", spec := "fnExactFewestPictures", unfollowed := true, recurses := true, apart := false, narrowed := true }
def FnExactFewestPicturesUptoSaid : Prop := fnExactFewestPicturesUptoRow.holds Try.pinned (OpenSpec.upto fnExactFewestPicturesSpec)

/-- 'laws.FnExactPeriodOf', WHERE WHAT IT READS IS OF BULK AT MOST 1048576: true; the input reads as it did. -/
def fnExactPeriodOfUptoRow : OpenClaim := { program := "ytibafngidpmgdaa", sum := "2e4f5787291d6956e581edbad4be2b4bf46a605d9cb4215668aec7f4b186e3eb", func := "loop.example/g01063/laws.FnExactPeriodOf", spec := "fnExactPeriodOf", unfollowed := true, recurses := true, apart := false, narrowed := true }
def FnExactPeriodOfUptoSaid : Prop := fnExactPeriodOfUptoRow.holds Try.pinned (OpenSpec.upto fnExactPeriodOfSpec)

/-- 'laws.FnExactSameMotion', WHERE WHAT IT READS IS OF BULK AT MOST 1048576: true; the input reads as it did. -/
def fnExactSameMotionUptoRow : OpenClaim := { program := "ytibafngidpmgdaa", sum := "2e4f5787291d6956e581edbad4be2b4bf46a605d9cb4215668aec7f4b186e3eb", func := "loop.example/g01063/laws.FnExactSameMotion", spec := "fnExactSameMotion", unfollowed := true, recurses := true, apart := false, narrowed := true }
def FnExactSameMotionUptoSaid : Prop := fnExactSameMotionUptoRow.holds Try.pinned (OpenSpec.upto fnExactSameMotionSpec)

/-- 'laws.FnExactFirstTurn', WHERE WHAT IT READS IS OF BULK AT MOST 1048576: true; the input reads as it did. -/
def fnExactFirstTurnUptoRow : OpenClaim := { program := "ytibafngidpmgdaa", sum := "2e4f5787291d6956e581edbad4be2b4bf46a605d9cb4215668aec7f4b186e3eb", func := "loop.example/g01063/laws.FnExactFirstTurn", spec := "fnExactFirstTurn", unfollowed := true, recurses := true, apart := false, narrowed := true }
def FnExactFirstTurnUptoSaid : Prop := fnExactFirstTurnUptoRow.holds Try.pinned (OpenSpec.upto fnExactFirstTurnSpec)

/-- 'laws.FnExactBackMotion', WHERE WHAT IT READS IS OF BULK AT MOST 1048576: true; the input reads as it did. -/
def fnExactBackMotionUptoRow : OpenClaim := { program := "ytibafngidpmgdaa", sum := "2e4f5787291d6956e581edbad4be2b4bf46a605d9cb4215668aec7f4b186e3eb", func := "loop.example/g01063/laws.FnExactBackMotion", spec := "fnExactBackMotion", apart := false, narrowed := true }
def FnExactBackMotionUptoSaid : Prop := fnExactBackMotionUptoRow.holds Try.pinned (OpenSpec.upto fnExactBackMotionSpec)

/-- 'laws.FnExactLooksBack', WHERE WHAT IT READS IS OF BULK AT MOST 1048576: true; the input reads as it did. -/
def fnExactLooksBackUptoRow : OpenClaim := { program := "ytibafngidpmgdaa", sum := "2e4f5787291d6956e581edbad4be2b4bf46a605d9cb4215668aec7f4b186e3eb", func := "loop.example/g01063/laws.FnExactLooksBack", spec := "fnExactLooksBack", unfollowed := true, recurses := true, apart := false, narrowed := true }
def FnExactLooksBackUptoSaid : Prop := fnExactLooksBackUptoRow.holds Try.pinned (OpenSpec.upto fnExactLooksBackSpec)

/-- 'laws.FnExactChangesIn', WHERE WHAT IT READS IS OF BULK AT MOST 1048576: true; the input reads as it did. -/
def fnExactChangesInUptoRow : OpenClaim := { program := "ytibafngidpmgdaa", sum := "2e4f5787291d6956e581edbad4be2b4bf46a605d9cb4215668aec7f4b186e3eb", func := "loop.example/g01063/laws.FnExactChangesIn", spec := "fnExactChangesIn", apart := false, narrowed := true }
def FnExactChangesInUptoSaid : Prop := fnExactChangesInUptoRow.holds Try.pinned (OpenSpec.upto fnExactChangesInSpec)

end Rows
end Go.Proofs.Ytibafngidpmgdaa
