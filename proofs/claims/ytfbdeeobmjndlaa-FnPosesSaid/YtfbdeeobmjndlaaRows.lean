/-
  No cell of these rows narrows 'for every input' (looked for: loops, veiled, ifaces, maps, wideKeys, modest, calm, conditions, laid).
  DERIVED. THE GIVEN ROWS OF THIS SEAT. 20 by the template 'for every input the law returns true; each argument reads behind the call as it read before'; 0 by the template 'total and deterministic' (their statements: YtfbdeeobmjndlaaTotals.lean).
  GIVEN WITH THE SEED: the statements are not yours to turn. If you find one false, say at which input.
  Laid BY PROGRAM, IN A SANDBOX (cutbox-rows.mjs): the forced cells as the released guide's own fill.sh prints them over the translation d250521e6cca2603… (all of the seat's roots in one cut). By AI agents, Wed Nov 11 2026. No macro, syntax, notation, axiom, sorry.
-/
import Derived.Test.YtfbdeeobmjndlaaChecked
import GoSem.Claim
import GoSem.ClaimJoined
import GoSem.ClaimMapViews
import Derived.JoinedTies
import Derived.KernelRfl
namespace Go.Proofs.Ytfbdeeobmjndlaa
/- THE CELL 'sum', in the pinned program and in every row, IS THE sha256 OF THE DUMP (.gsa) THAT YtfbdeeobmjndlaaProg.lean LOADS. Nothing in Lean hashes anything: it is a label: what it is worth is what the hold of that sum in a sandbox is worth. -/
noncomputable def Try.pinned : Pinned := { name := "ytfbdeeobmjndlaa", sum := "d250521e6cca2603357bf9826edd6cdc2397230237dd8721d23578102994f3db", checked := Try.checked }
namespace Rows
def none {H : Type} : Left H := { results := [], args := [] }

/-- 'laws.FnExactValidLoop': WHATEVER THE INPUT: true; the input reads as it did. -/
def fnExactValidLoopSpec : ChangeSpec := { name := "fnExactValidLoop", fn := fun _ => fun
  | [d] => { results := [.lit (.bool true)], args := [d] }
  | _ => none }
def fnExactValidLoopRow : OpenClaim := { program := "ytfbdeeobmjndlaa", sum := "d250521e6cca2603357bf9826edd6cdc2397230237dd8721d23578102994f3db", func := "loop.example/g01063/laws.FnExactValidLoop", spec := "fnExactValidLoop", apart := false }
def FnExactValidLoopSaid : Prop := fnExactValidLoopRow.holds Try.pinned (OpenSpec.ofChange fnExactValidLoopSpec)

/-- ITS FALSE NEIGHBOUR: 'it returns false'. Refute it at one input. -/
def fnExactValidLoopWrong : ChangeSpec := { name := "fnExactValidLoop", fn := fun _ => fun
  | [d] => { results := [.lit (.bool false)], args := [d] }
  | _ => none }
def FnExactValidLoopWrongFalsely : Prop := fnExactValidLoopRow.holds Try.pinned (OpenSpec.ofChange fnExactValidLoopWrong)

/-- 'laws.FnExactStepsOfLoop': WHATEVER THE INPUT: true; the input reads as it did. -/
def fnExactStepsOfLoopSpec : ChangeSpec := { name := "fnExactStepsOfLoop", fn := fun _ => fun
  | [d] => { results := [.lit (.bool true)], args := [d] }
  | _ => none }
def fnExactStepsOfLoopRow : OpenClaim := { program := "ytfbdeeobmjndlaa", sum := "d250521e6cca2603357bf9826edd6cdc2397230237dd8721d23578102994f3db", func := "loop.example/g01063/laws.FnExactStepsOfLoop", spec := "fnExactStepsOfLoop", unfollowed := true, recurses := true, apart := false }
def FnExactStepsOfLoopSaid : Prop := fnExactStepsOfLoopRow.holds Try.pinned (OpenSpec.ofChange fnExactStepsOfLoopSpec)

/-- ITS FALSE NEIGHBOUR: 'it returns false'. Refute it at one input. -/
def fnExactStepsOfLoopWrong : ChangeSpec := { name := "fnExactStepsOfLoop", fn := fun _ => fun
  | [d] => { results := [.lit (.bool false)], args := [d] }
  | _ => none }
def FnExactStepsOfLoopWrongFalsely : Prop := fnExactStepsOfLoopRow.holds Try.pinned (OpenSpec.ofChange fnExactStepsOfLoopWrong)

/-- 'laws.FnExactRoughestStep': WHATEVER THE INPUT: true; the input reads as it did. -/
def fnExactRoughestStepSpec : ChangeSpec := { name := "fnExactRoughestStep", fn := fun _ => fun
  | [d] => { results := [.lit (.bool true)], args := [d] }
  | _ => none }
def fnExactRoughestStepRow : OpenClaim := { program := "ytfbdeeobmjndlaa", sum := "d250521e6cca2603357bf9826edd6cdc2397230237dd8721d23578102994f3db", func := "loop.example/g01063/laws.FnExactRoughestStep", spec := "fnExactRoughestStep", unfollowed := true, recurses := true, apart := false }
def FnExactRoughestStepSaid : Prop := fnExactRoughestStepRow.holds Try.pinned (OpenSpec.ofChange fnExactRoughestStepSpec)

/-- ITS FALSE NEIGHBOUR: 'it returns false'. Refute it at one input. -/
def fnExactRoughestStepWrong : ChangeSpec := { name := "fnExactRoughestStep", fn := fun _ => fun
  | [d] => { results := [.lit (.bool false)], args := [d] }
  | _ => none }
def FnExactRoughestStepWrongFalsely : Prop := fnExactRoughestStepRow.holds Try.pinned (OpenSpec.ofChange fnExactRoughestStepWrong)

/-- 'laws.FnExactCloseLoop': WHATEVER THE INPUT: true; the input reads as it did. -/
def fnExactCloseLoopSpec : ChangeSpec := { name := "fnExactCloseLoop", fn := fun _ => fun
  | [d1, d2] => { results := [.lit (.bool true)], args := [d1, d2] }
  | _ => none }
def fnExactCloseLoopRow : OpenClaim := { program := "ytfbdeeobmjndlaa", sum := "d250521e6cca2603357bf9826edd6cdc2397230237dd8721d23578102994f3db", func := "loop.example/g01063/laws.FnExactCloseLoop", spec := "fnExactCloseLoop", apart := false }
def FnExactCloseLoopSaid : Prop := fnExactCloseLoopRow.holds Try.pinned (OpenSpec.ofChange fnExactCloseLoopSpec)

/-- ITS FALSE NEIGHBOUR: 'it returns false'. Refute it at one input. -/
def fnExactCloseLoopWrong : ChangeSpec := { name := "fnExactCloseLoop", fn := fun _ => fun
  | [d1, d2] => { results := [.lit (.bool false)], args := [d1, d2] }
  | _ => none }
def FnExactCloseLoopWrongFalsely : Prop := fnExactCloseLoopRow.holds Try.pinned (OpenSpec.ofChange fnExactCloseLoopWrong)

/-- 'laws.FnExactCommonLength': WHATEVER THE INPUT: true; the input reads as it did. -/
def fnExactCommonLengthSpec : ChangeSpec := { name := "fnExactCommonLength", fn := fun _ => fun
  | [d1, d2] => { results := [.lit (.bool true)], args := [d1, d2] }
  | _ => none }
def fnExactCommonLengthRow : OpenClaim := { program := "ytfbdeeobmjndlaa", sum := "d250521e6cca2603357bf9826edd6cdc2397230237dd8721d23578102994f3db", func := "loop.example/g01063/laws.FnExactCommonLength", spec := "fnExactCommonLength", apart := false }
def FnExactCommonLengthSaid : Prop := fnExactCommonLengthRow.holds Try.pinned (OpenSpec.ofChange fnExactCommonLengthSpec)

/-- ITS FALSE NEIGHBOUR: 'it returns false'. Refute it at one input. -/
def fnExactCommonLengthWrong : ChangeSpec := { name := "fnExactCommonLength", fn := fun _ => fun
  | [d1, d2] => { results := [.lit (.bool false)], args := [d1, d2] }
  | _ => none }
def FnExactCommonLengthWrongFalsely : Prop := fnExactCommonLengthRow.holds Try.pinned (OpenSpec.ofChange fnExactCommonLengthWrong)

/-- 'laws.FnExactJoinLoops': WHATEVER THE INPUT: true; the input reads as it did. -/
def fnExactJoinLoopsSpec : ChangeSpec := { name := "fnExactJoinLoops", fn := fun _ => fun
  | [d1, d2] => { results := [.lit (.bool true)], args := [d1, d2] }
  | _ => none }
def fnExactJoinLoopsRow : OpenClaim := { program := "ytfbdeeobmjndlaa", sum := "d250521e6cca2603357bf9826edd6cdc2397230237dd8721d23578102994f3db", func := "loop.example/g01063/laws.FnExactJoinLoops", spec := "fnExactJoinLoops", apart := false }
def FnExactJoinLoopsSaid : Prop := fnExactJoinLoopsRow.holds Try.pinned (OpenSpec.ofChange fnExactJoinLoopsSpec)

/-- ITS FALSE NEIGHBOUR: 'it returns false'. Refute it at one input. -/
def fnExactJoinLoopsWrong : ChangeSpec := { name := "fnExactJoinLoops", fn := fun _ => fun
  | [d1, d2] => { results := [.lit (.bool false)], args := [d1, d2] }
  | _ => none }
def FnExactJoinLoopsWrongFalsely : Prop := fnExactJoinLoopsRow.holds Try.pinned (OpenSpec.ofChange fnExactJoinLoopsWrong)

/-- 'laws.FnExactTurnLoop': WHATEVER THE INPUT: true; the input reads as it did. -/
def fnExactTurnLoopSpec : ChangeSpec := { name := "fnExactTurnLoop", fn := fun _ => fun
  | [d1, d2] => { results := [.lit (.bool true)], args := [d1, d2] }
  | _ => none }
def fnExactTurnLoopRow : OpenClaim := { program := "ytfbdeeobmjndlaa", sum := "d250521e6cca2603357bf9826edd6cdc2397230237dd8721d23578102994f3db", func := "loop.example/g01063/laws.FnExactTurnLoop", spec := "fnExactTurnLoop", unfollowed := true, recurses := true, apart := false }
def FnExactTurnLoopSaid : Prop := fnExactTurnLoopRow.holds Try.pinned (OpenSpec.ofChange fnExactTurnLoopSpec)

/-- ITS FALSE NEIGHBOUR: 'it returns false'. Refute it at one input. -/
def fnExactTurnLoopWrong : ChangeSpec := { name := "fnExactTurnLoop", fn := fun _ => fun
  | [d1, d2] => { results := [.lit (.bool false)], args := [d1, d2] }
  | _ => none }
def FnExactTurnLoopWrongFalsely : Prop := fnExactTurnLoopRow.holds Try.pinned (OpenSpec.ofChange fnExactTurnLoopWrong)

/-- 'laws.FnExactBestTurn': WHATEVER THE INPUT: true; the input reads as it did. -/
def fnExactBestTurnSpec : ChangeSpec := { name := "fnExactBestTurn", fn := fun _ => fun
  | [d1, d2] => { results := [.lit (.bool true)], args := [d1, d2] }
  | _ => none }
def fnExactBestTurnRow : OpenClaim := { program := "ytfbdeeobmjndlaa", sum := "d250521e6cca2603357bf9826edd6cdc2397230237dd8721d23578102994f3db", func := "loop.example/g01063/laws.FnExactBestTurn", spec := "fnExactBestTurn", apart := false }
def FnExactBestTurnSaid : Prop := fnExactBestTurnRow.holds Try.pinned (OpenSpec.ofChange fnExactBestTurnSpec)

/-- ITS FALSE NEIGHBOUR: 'it returns false'. Refute it at one input. -/
def fnExactBestTurnWrong : ChangeSpec := { name := "fnExactBestTurn", fn := fun _ => fun
  | [d1, d2] => { results := [.lit (.bool false)], args := [d1, d2] }
  | _ => none }
def FnExactBestTurnWrongFalsely : Prop := fnExactBestTurnRow.holds Try.pinned (OpenSpec.ofChange fnExactBestTurnWrong)

/-- 'laws.FnExactThinLoop': WHATEVER THE INPUT: true; the input reads as it did. -/
def fnExactThinLoopSpec : ChangeSpec := { name := "fnExactThinLoop", fn := fun _ => fun
  | [d1, d2] => { results := [.lit (.bool true)], args := [d1, d2] }
  | _ => none }
def fnExactThinLoopRow : OpenClaim := { program := "ytfbdeeobmjndlaa", sum := "d250521e6cca2603357bf9826edd6cdc2397230237dd8721d23578102994f3db", func := "loop.example/g01063/laws.FnExactThinLoop", spec := "fnExactThinLoop", unfollowed := true, recurses := true, apart := false }
def FnExactThinLoopSaid : Prop := fnExactThinLoopRow.holds Try.pinned (OpenSpec.ofChange fnExactThinLoopSpec)

/-- ITS FALSE NEIGHBOUR: 'it returns false'. Refute it at one input. -/
def fnExactThinLoopWrong : ChangeSpec := { name := "fnExactThinLoop", fn := fun _ => fun
  | [d1, d2] => { results := [.lit (.bool false)], args := [d1, d2] }
  | _ => none }
def FnExactThinLoopWrongFalsely : Prop := fnExactThinLoopRow.holds Try.pinned (OpenSpec.ofChange fnExactThinLoopWrong)

/-- 'laws.FnLoops': WHATEVER THE INPUT: true; the input reads as it did. -/
def fnLoopsSpec : ChangeSpec := { name := "fnLoops", fn := fun _ => fun
  | [d] => { results := [.lit (.bool true)], args := [d] }
  | _ => none }
def fnLoopsRow : OpenClaim := { program := "ytfbdeeobmjndlaa", sum := "d250521e6cca2603357bf9826edd6cdc2397230237dd8721d23578102994f3db", func := "loop.example/g01063/laws.FnLoops", spec := "fnLoops", unfollowed := true, recurses := true, apart := false }
def FnLoopsSaid : Prop := fnLoopsRow.holds Try.pinned (OpenSpec.ofChange fnLoopsSpec)

/-- ITS FALSE NEIGHBOUR: 'it returns false'. Refute it at one input. -/
def fnLoopsWrong : ChangeSpec := { name := "fnLoops", fn := fun _ => fun
  | [d] => { results := [.lit (.bool false)], args := [d] }
  | _ => none }
def FnLoopsWrongFalsely : Prop := fnLoopsRow.holds Try.pinned (OpenSpec.ofChange fnLoopsWrong)

/-- 'laws.FnJoinedLoops': WHATEVER THE INPUT: true; the input reads as it did. -/
def fnJoinedLoopsSpec : ChangeSpec := { name := "fnJoinedLoops", fn := fun _ => fun
  | [d] => { results := [.lit (.bool true)], args := [d] }
  | _ => none }
def fnJoinedLoopsRow : OpenClaim := { program := "ytfbdeeobmjndlaa", sum := "d250521e6cca2603357bf9826edd6cdc2397230237dd8721d23578102994f3db", func := "loop.example/g01063/laws.FnJoinedLoops", spec := "fnJoinedLoops", unfollowed := true, recurses := true, apart := false }
def FnJoinedLoopsSaid : Prop := fnJoinedLoopsRow.holds Try.pinned (OpenSpec.ofChange fnJoinedLoopsSpec)

/-- ITS FALSE NEIGHBOUR: 'it returns false'. Refute it at one input. -/
def fnJoinedLoopsWrong : ChangeSpec := { name := "fnJoinedLoops", fn := fun _ => fun
  | [d] => { results := [.lit (.bool false)], args := [d] }
  | _ => none }
def FnJoinedLoopsWrongFalsely : Prop := fnJoinedLoopsRow.holds Try.pinned (OpenSpec.ofChange fnJoinedLoopsWrong)

/-- 'laws.FnPoses': WHATEVER THE INPUT: true; the input reads as it did. -/
def fnPosesSpec : ChangeSpec := { name := "fnPoses", fn := fun _ => fun
  | [d] => { results := [.lit (.bool true)], args := [d] }
  | _ => none }
def fnPosesRow : OpenClaim := { program := "ytfbdeeobmjndlaa", sum := "d250521e6cca2603357bf9826edd6cdc2397230237dd8721d23578102994f3db", func := "loop.example/g01063/laws.FnPoses", spec := "fnPoses", unfollowed := true, recurses := true, apart := false }
def FnPosesSaid : Prop := fnPosesRow.holds Try.pinned (OpenSpec.ofChange fnPosesSpec)

/-- ITS FALSE NEIGHBOUR: 'it returns false'. Refute it at one input. -/
def fnPosesWrong : ChangeSpec := { name := "fnPoses", fn := fun _ => fun
  | [d] => { results := [.lit (.bool false)], args := [d] }
  | _ => none }
def FnPosesWrongFalsely : Prop := fnPosesRow.holds Try.pinned (OpenSpec.ofChange fnPosesWrong)

/-- 'laws.FnKeyPoses': WHATEVER THE INPUT: true; the input reads as it did. -/
def fnKeyPosesSpec : ChangeSpec := { name := "fnKeyPoses", fn := fun _ => fun
  | [d] => { results := [.lit (.bool true)], args := [d] }
  | _ => none }
def fnKeyPosesRow : OpenClaim := { program := "ytfbdeeobmjndlaa", sum := "d250521e6cca2603357bf9826edd6cdc2397230237dd8721d23578102994f3db", func := "loop.example/g01063/laws.FnKeyPoses", spec := "fnKeyPoses", unfollowed := true, recurses := true, apart := false }
def FnKeyPosesSaid : Prop := fnKeyPosesRow.holds Try.pinned (OpenSpec.ofChange fnKeyPosesSpec)

/-- ITS FALSE NEIGHBOUR: 'it returns false'. Refute it at one input. -/
def fnKeyPosesWrong : ChangeSpec := { name := "fnKeyPoses", fn := fun _ => fun
  | [d] => { results := [.lit (.bool false)], args := [d] }
  | _ => none }
def FnKeyPosesWrongFalsely : Prop := fnKeyPosesRow.holds Try.pinned (OpenSpec.ofChange fnKeyPosesWrong)

/-- 'laws.FnExactPoseBetween': WHATEVER THE INPUT: true; the input reads as it did. -/
def fnExactPoseBetweenSpec : ChangeSpec := { name := "fnExactPoseBetween", fn := fun _ => fun
  | [d1, d2, d3, d4] => { results := [.lit (.bool true)], args := [d1, d2, d3, d4] }
  | _ => none }
def fnExactPoseBetweenRow : OpenClaim := { program := "ytfbdeeobmjndlaa", sum := "d250521e6cca2603357bf9826edd6cdc2397230237dd8721d23578102994f3db", func := "loop.example/g01063/laws.FnExactPoseBetween", spec := "fnExactPoseBetween", unfollowed := true, recurses := true, apart := false }
def FnExactPoseBetweenSaid : Prop := fnExactPoseBetweenRow.holds Try.pinned (OpenSpec.ofChange fnExactPoseBetweenSpec)

/-- ITS FALSE NEIGHBOUR: 'it returns false'. Refute it at one input. -/
def fnExactPoseBetweenWrong : ChangeSpec := { name := "fnExactPoseBetween", fn := fun _ => fun
  | [d1, d2, d3, d4] => { results := [.lit (.bool false)], args := [d1, d2, d3, d4] }
  | _ => none }
def FnExactPoseBetweenWrongFalsely : Prop := fnExactPoseBetweenRow.holds Try.pinned (OpenSpec.ofChange fnExactPoseBetweenWrong)

/-- 'laws.FnExactPoseAt': WHATEVER THE INPUT: true; the input reads as it did. -/
def fnExactPoseAtSpec : ChangeSpec := { name := "fnExactPoseAt", fn := fun _ => fun
  | [d1, d2] => { results := [.lit (.bool true)], args := [d1, d2] }
  | _ => none }
def fnExactPoseAtRow : OpenClaim := { program := "ytfbdeeobmjndlaa", sum := "d250521e6cca2603357bf9826edd6cdc2397230237dd8721d23578102994f3db", func := "loop.example/g01063/laws.FnExactPoseAt", spec := "fnExactPoseAt", unfollowed := true, recurses := true, apart := false }
def FnExactPoseAtSaid : Prop := fnExactPoseAtRow.holds Try.pinned (OpenSpec.ofChange fnExactPoseAtSpec)

/-- ITS FALSE NEIGHBOUR: 'it returns false'. Refute it at one input. -/
def fnExactPoseAtWrong : ChangeSpec := { name := "fnExactPoseAt", fn := fun _ => fun
  | [d1, d2] => { results := [.lit (.bool false)], args := [d1, d2] }
  | _ => none }
def FnExactPoseAtWrongFalsely : Prop := fnExactPoseAtRow.holds Try.pinned (OpenSpec.ofChange fnExactPoseAtWrong)

/-- 'laws.FnExactAllPoses': WHATEVER THE INPUT: true; the input reads as it did. -/
def fnExactAllPosesSpec : ChangeSpec := { name := "fnExactAllPoses", fn := fun _ => fun
  | [d1, d2] => { results := [.lit (.bool true)], args := [d1, d2] }
  | _ => none }
def fnExactAllPosesRow : OpenClaim := { program := "ytfbdeeobmjndlaa", sum := "d250521e6cca2603357bf9826edd6cdc2397230237dd8721d23578102994f3db", func := "loop.example/g01063/laws.FnExactAllPoses", spec := "fnExactAllPoses", unfollowed := true, recurses := true, apart := false }
def FnExactAllPosesSaid : Prop := fnExactAllPosesRow.holds Try.pinned (OpenSpec.ofChange fnExactAllPosesSpec)

/-- ITS FALSE NEIGHBOUR: 'it returns false'. Refute it at one input. -/
def fnExactAllPosesWrong : ChangeSpec := { name := "fnExactAllPoses", fn := fun _ => fun
  | [d1, d2] => { results := [.lit (.bool false)], args := [d1, d2] }
  | _ => none }
def FnExactAllPosesWrongFalsely : Prop := fnExactAllPosesRow.holds Try.pinned (OpenSpec.ofChange fnExactAllPosesWrong)

/-- 'laws.FnExactNeedlessKeys': WHATEVER THE INPUT: true; the input reads as it did. -/
def fnExactNeedlessKeysSpec : ChangeSpec := { name := "fnExactNeedlessKeys", fn := fun _ => fun
  | [d] => { results := [.lit (.bool true)], args := [d] }
  | _ => none }
def fnExactNeedlessKeysRow : OpenClaim := { program := "ytfbdeeobmjndlaa", sum := "d250521e6cca2603357bf9826edd6cdc2397230237dd8721d23578102994f3db", func := "loop.example/g01063/laws.FnExactNeedlessKeys", spec := "fnExactNeedlessKeys", unfollowed := true, recurses := true, apart := false }
def FnExactNeedlessKeysSaid : Prop := fnExactNeedlessKeysRow.holds Try.pinned (OpenSpec.ofChange fnExactNeedlessKeysSpec)

/-- ITS FALSE NEIGHBOUR: 'it returns false'. Refute it at one input. -/
def fnExactNeedlessKeysWrong : ChangeSpec := { name := "fnExactNeedlessKeys", fn := fun _ => fun
  | [d] => { results := [.lit (.bool false)], args := [d] }
  | _ => none }
def FnExactNeedlessKeysWrongFalsely : Prop := fnExactNeedlessKeysRow.holds Try.pinned (OpenSpec.ofChange fnExactNeedlessKeysWrong)

/-- 'laws.FnExactStretchKeys': WHATEVER THE INPUT: true; the input reads as it did. -/
def fnExactStretchKeysSpec : ChangeSpec := { name := "fnExactStretchKeys", fn := fun _ => fun
  | [d1, d2] => { results := [.lit (.bool true)], args := [d1, d2] }
  | _ => none }
def fnExactStretchKeysRow : OpenClaim := { program := "ytfbdeeobmjndlaa", sum := "d250521e6cca2603357bf9826edd6cdc2397230237dd8721d23578102994f3db", func := "loop.example/g01063/laws.FnExactStretchKeys", spec := "fnExactStretchKeys", unfollowed := true, recurses := true, apart := false }
def FnExactStretchKeysSaid : Prop := fnExactStretchKeysRow.holds Try.pinned (OpenSpec.ofChange fnExactStretchKeysSpec)

/-- ITS FALSE NEIGHBOUR: 'it returns false'. Refute it at one input. -/
def fnExactStretchKeysWrong : ChangeSpec := { name := "fnExactStretchKeys", fn := fun _ => fun
  | [d1, d2] => { results := [.lit (.bool false)], args := [d1, d2] }
  | _ => none }
def FnExactStretchKeysWrongFalsely : Prop := fnExactStretchKeysRow.holds Try.pinned (OpenSpec.ofChange fnExactStretchKeysWrong)

/-- 'laws.FnExactCommonTime': WHATEVER THE INPUT: true; the input reads as it did. -/
def fnExactCommonTimeSpec : ChangeSpec := { name := "fnExactCommonTime", fn := fun _ => fun
  | [d1, d2] => { results := [.lit (.bool true)], args := [d1, d2] }
  | _ => none }
def fnExactCommonTimeRow : OpenClaim := { program := "ytfbdeeobmjndlaa", sum := "d250521e6cca2603357bf9826edd6cdc2397230237dd8721d23578102994f3db", func := "loop.example/g01063/laws.FnExactCommonTime", spec := "fnExactCommonTime", unfollowed := true, recurses := true, apart := false }
def FnExactCommonTimeSaid : Prop := fnExactCommonTimeRow.holds Try.pinned (OpenSpec.ofChange fnExactCommonTimeSpec)

/-- ITS FALSE NEIGHBOUR: 'it returns false'. Refute it at one input. -/
def fnExactCommonTimeWrong : ChangeSpec := { name := "fnExactCommonTime", fn := fun _ => fun
  | [d1, d2] => { results := [.lit (.bool false)], args := [d1, d2] }
  | _ => none }
def FnExactCommonTimeWrongFalsely : Prop := fnExactCommonTimeRow.holds Try.pinned (OpenSpec.ofChange fnExactCommonTimeWrong)

/-- 'laws.FnRates': WHATEVER THE INPUT: true; the input reads as it did. -/
def fnRatesSpec : ChangeSpec := { name := "fnRates", fn := fun _ => fun
  | [d1, d2] => { results := [.lit (.bool true)], args := [d1, d2] }
  | _ => none }
def fnRatesRow : OpenClaim := { program := "ytfbdeeobmjndlaa", sum := "d250521e6cca2603357bf9826edd6cdc2397230237dd8721d23578102994f3db", func := "loop.example/g01063/laws.FnRates", spec := "fnRates", unfollowed := true, recurses := true, apart := false }
def FnRatesSaid : Prop := fnRatesRow.holds Try.pinned (OpenSpec.ofChange fnRatesSpec)

/-- ITS FALSE NEIGHBOUR: 'it returns false'. Refute it at one input. -/
def fnRatesWrong : ChangeSpec := { name := "fnRates", fn := fun _ => fun
  | [d1, d2] => { results := [.lit (.bool false)], args := [d1, d2] }
  | _ => none }
def FnRatesWrongFalsely : Prop := fnRatesRow.holds Try.pinned (OpenSpec.ofChange fnRatesWrong)

/- THE SECOND FORM. 'bulk': how many values and letters a reading holds, each counted each time it is reached (what is shared counts as often as it is met; a slice's spare places count too). A statement '..UptoSaid' is the law's where the arguments, and the package variables that the reading takes, are together of bulk at most 1048576: NARROWER than '..Said'. Prove '..Said' where nothing that the law and all that it calls make is longer than what came in: it says more and counts as full. Else prove '..UptoSaid'. A law counts once. -/
mutual
def uptoBulk {H : Type} : DataW H → Nat
  | .lit (.string bytes) => bytes.length + 1
  | .lit _ => 1
  | .nil => 1
  | .ptr d => uptoBulk d + 1
  | .slice elems spare => uptoBulkAll elems + uptoBulkAll spare + 1
  | .agg parts => uptoBulkAll parts + 1
  | .iface _ d => uptoBulk d + 1
  | .map entries => uptoBulkEntries entries + 1
  | .held _ => 1
def uptoBulkAll {H : Type} : List (DataW H) → Nat
  | [] => 0
  | d :: r => uptoBulk d + uptoBulkAll r
def uptoBulkEntries {H : Type} : List (Lit × DataW H) → Nat
  | [] => 0
  | x :: r => uptoBulkEntry x + uptoBulkEntries r
def uptoBulkEntry {H : Type} : Lit × DataW H → Nat
  | (.string bytes, d) => bytes.length + uptoBulk d + 1
  | (_, d) => uptoBulk d + 1
 end
def uptoSmall : (H : Type) → List (DataW H) → Bool := fun _ ds => decide (uptoBulkAll ds ≤ 1048576)
def OpenSpec.upto (s : _root_.Go.ChangeSpec) : _root_.Go.OpenSpec := { _root_.Go.OpenSpec.ofChange s with cond := some uptoSmall }

/-- 'laws.FnExactValidLoop', WHERE WHAT IT READS IS OF BULK AT MOST 1048576: true; the input reads as it did. -/
def fnExactValidLoopUptoRow : OpenClaim := { program := "ytfbdeeobmjndlaa", sum := "d250521e6cca2603357bf9826edd6cdc2397230237dd8721d23578102994f3db", func := "loop.example/g01063/laws.FnExactValidLoop", spec := "fnExactValidLoop", apart := false, narrowed := true }
def FnExactValidLoopUptoSaid : Prop := fnExactValidLoopUptoRow.holds Try.pinned (OpenSpec.upto fnExactValidLoopSpec)

/-- 'laws.FnExactStepsOfLoop', WHERE WHAT IT READS IS OF BULK AT MOST 1048576: true; the input reads as it did. -/
def fnExactStepsOfLoopUptoRow : OpenClaim := { program := "ytfbdeeobmjndlaa", sum := "d250521e6cca2603357bf9826edd6cdc2397230237dd8721d23578102994f3db", func := "loop.example/g01063/laws.FnExactStepsOfLoop", spec := "fnExactStepsOfLoop", unfollowed := true, recurses := true, apart := false, narrowed := true }
def FnExactStepsOfLoopUptoSaid : Prop := fnExactStepsOfLoopUptoRow.holds Try.pinned (OpenSpec.upto fnExactStepsOfLoopSpec)

/-- 'laws.FnExactRoughestStep', WHERE WHAT IT READS IS OF BULK AT MOST 1048576: true; the input reads as it did. -/
def fnExactRoughestStepUptoRow : OpenClaim := { program := "ytfbdeeobmjndlaa", sum := "d250521e6cca2603357bf9826edd6cdc2397230237dd8721d23578102994f3db", func := "loop.example/g01063/laws.FnExactRoughestStep", spec := "fnExactRoughestStep", unfollowed := true, recurses := true, apart := false, narrowed := true }
def FnExactRoughestStepUptoSaid : Prop := fnExactRoughestStepUptoRow.holds Try.pinned (OpenSpec.upto fnExactRoughestStepSpec)

/-- 'laws.FnExactCloseLoop', WHERE WHAT IT READS IS OF BULK AT MOST 1048576: true; the input reads as it did. -/
def fnExactCloseLoopUptoRow : OpenClaim := { program := "ytfbdeeobmjndlaa", sum := "d250521e6cca2603357bf9826edd6cdc2397230237dd8721d23578102994f3db", func := "loop.example/g01063/laws.FnExactCloseLoop", spec := "fnExactCloseLoop", apart := false, narrowed := true }
def FnExactCloseLoopUptoSaid : Prop := fnExactCloseLoopUptoRow.holds Try.pinned (OpenSpec.upto fnExactCloseLoopSpec)

/-- 'laws.FnExactCommonLength', WHERE WHAT IT READS IS OF BULK AT MOST 1048576: true; the input reads as it did. -/
def fnExactCommonLengthUptoRow : OpenClaim := { program := "ytfbdeeobmjndlaa", sum := "d250521e6cca2603357bf9826edd6cdc2397230237dd8721d23578102994f3db", func := "loop.example/g01063/laws.FnExactCommonLength", spec := "fnExactCommonLength", apart := false, narrowed := true }
def FnExactCommonLengthUptoSaid : Prop := fnExactCommonLengthUptoRow.holds Try.pinned (OpenSpec.upto fnExactCommonLengthSpec)

/-- 'laws.FnExactJoinLoops', WHERE WHAT IT READS IS OF BULK AT MOST 1048576: true; the input reads as it did. -/
def fnExactJoinLoopsUptoRow : OpenClaim := { program := "ytfbdeeobmjndlaa", sum := "d250521e6cca2603357bf9826edd6cdc2397230237dd8721d23578102994f3db", func := "loop.example/g01063/laws.FnExactJoinLoops", spec := "fnExactJoinLoops", apart := false, narrowed := true }
def FnExactJoinLoopsUptoSaid : Prop := fnExactJoinLoopsUptoRow.holds Try.pinned (OpenSpec.upto fnExactJoinLoopsSpec)

/-- 'laws.FnExactTurnLoop', WHERE WHAT IT READS IS OF BULK AT MOST 1048576: true; the input reads as it did. -/
def fnExactTurnLoopUptoRow : OpenClaim := { program := "ytfbdeeobmjndlaa", sum := "d250521e6cca2603357bf9826edd6cdc2397230237dd8721d23578102994f3db", func := "loop.example/g01063/laws.FnExactTurnLoop", spec := "fnExactTurnLoop", unfollowed := true, recurses := true, apart := false, narrowed := true }
def FnExactTurnLoopUptoSaid : Prop := fnExactTurnLoopUptoRow.holds Try.pinned (OpenSpec.upto fnExactTurnLoopSpec)

/-- 'laws.FnExactBestTurn', WHERE WHAT IT READS IS OF BULK AT MOST 1048576: true; the input reads as it did. -/
def fnExactBestTurnUptoRow : OpenClaim := { program := "ytfbdeeobmjndlaa", sum := "d250521e6cca2603357bf9826edd6cdc2397230237dd8721d23578102994f3db", func := "loop.example/g01063/laws.FnExactBestTurn", spec := "fnExactBestTurn", apart := false, narrowed := true }
def FnExactBestTurnUptoSaid : Prop := fnExactBestTurnUptoRow.holds Try.pinned (OpenSpec.upto fnExactBestTurnSpec)

/-- 'laws.FnExactThinLoop', WHERE WHAT IT READS IS OF BULK AT MOST 1048576: true; the input reads as it did. -/
def fnExactThinLoopUptoRow : OpenClaim := { program := "ytfbdeeobmjndlaa", sum := "d250521e6cca2603357bf9826edd6cdc2397230237dd8721d23578102994f3db", func := "loop.example/g01063/laws.FnExactThinLoop", spec := "fnExactThinLoop", unfollowed := true, recurses := true, apart := false, narrowed := true }
def FnExactThinLoopUptoSaid : Prop := fnExactThinLoopUptoRow.holds Try.pinned (OpenSpec.upto fnExactThinLoopSpec)

/-- 'laws.FnLoops', WHERE WHAT IT READS IS OF BULK AT MOST 1048576: true; the input reads as it did. -/
def fnLoopsUptoRow : OpenClaim := { program := "ytfbdeeobmjndlaa", sum := "d250521e6cca2603357bf9826edd6cdc2397230237dd8721d23578102994f3db", func := "loop.example/g01063/laws.FnLoops", spec := "fnLoops", unfollowed := true, recurses := true, apart := false, narrowed := true }
def FnLoopsUptoSaid : Prop := fnLoopsUptoRow.holds Try.pinned (OpenSpec.upto fnLoopsSpec)

/-- 'laws.FnJoinedLoops', WHERE WHAT IT READS IS OF BULK AT MOST 1048576: true; the input reads as it did. -/
def fnJoinedLoopsUptoRow : OpenClaim := { program := "ytfbdeeobmjndlaa", sum := "d250521e6cca2603357bf9826edd6cdc2397230237dd8721d23578102994f3db", func := "loop.example/g01063/laws.FnJoinedLoops", spec := "fnJoinedLoops", unfollowed := true, recurses := true, apart := false, narrowed := true }
def FnJoinedLoopsUptoSaid : Prop := fnJoinedLoopsUptoRow.holds Try.pinned (OpenSpec.upto fnJoinedLoopsSpec)

/-- 'laws.FnPoses', WHERE WHAT IT READS IS OF BULK AT MOST 1048576: true; the input reads as it did. -/
def fnPosesUptoRow : OpenClaim := { program := "ytfbdeeobmjndlaa", sum := "d250521e6cca2603357bf9826edd6cdc2397230237dd8721d23578102994f3db", func := "loop.example/g01063/laws.FnPoses", spec := "fnPoses", unfollowed := true, recurses := true, apart := false, narrowed := true }
def FnPosesUptoSaid : Prop := fnPosesUptoRow.holds Try.pinned (OpenSpec.upto fnPosesSpec)

/-- 'laws.FnKeyPoses', WHERE WHAT IT READS IS OF BULK AT MOST 1048576: true; the input reads as it did. -/
def fnKeyPosesUptoRow : OpenClaim := { program := "ytfbdeeobmjndlaa", sum := "d250521e6cca2603357bf9826edd6cdc2397230237dd8721d23578102994f3db", func := "loop.example/g01063/laws.FnKeyPoses", spec := "fnKeyPoses", unfollowed := true, recurses := true, apart := false, narrowed := true }
def FnKeyPosesUptoSaid : Prop := fnKeyPosesUptoRow.holds Try.pinned (OpenSpec.upto fnKeyPosesSpec)

/-- 'laws.FnExactPoseBetween', WHERE WHAT IT READS IS OF BULK AT MOST 1048576: true; the input reads as it did. -/
def fnExactPoseBetweenUptoRow : OpenClaim := { program := "ytfbdeeobmjndlaa", sum := "d250521e6cca2603357bf9826edd6cdc2397230237dd8721d23578102994f3db", func := "loop.example/g01063/laws.FnExactPoseBetween", spec := "fnExactPoseBetween", unfollowed := true, recurses := true, apart := false, narrowed := true }
def FnExactPoseBetweenUptoSaid : Prop := fnExactPoseBetweenUptoRow.holds Try.pinned (OpenSpec.upto fnExactPoseBetweenSpec)

/-- 'laws.FnExactPoseAt', WHERE WHAT IT READS IS OF BULK AT MOST 1048576: true; the input reads as it did. -/
def fnExactPoseAtUptoRow : OpenClaim := { program := "ytfbdeeobmjndlaa", sum := "d250521e6cca2603357bf9826edd6cdc2397230237dd8721d23578102994f3db", func := "loop.example/g01063/laws.FnExactPoseAt", spec := "fnExactPoseAt", unfollowed := true, recurses := true, apart := false, narrowed := true }
def FnExactPoseAtUptoSaid : Prop := fnExactPoseAtUptoRow.holds Try.pinned (OpenSpec.upto fnExactPoseAtSpec)

/-- 'laws.FnExactAllPoses', WHERE WHAT IT READS IS OF BULK AT MOST 1048576: true; the input reads as it did. -/
def fnExactAllPosesUptoRow : OpenClaim := { program := "ytfbdeeobmjndlaa", sum := "d250521e6cca2603357bf9826edd6cdc2397230237dd8721d23578102994f3db", func := "loop.example/g01063/laws.FnExactAllPoses", spec := "fnExactAllPoses", unfollowed := true, recurses := true, apart := false, narrowed := true }
def FnExactAllPosesUptoSaid : Prop := fnExactAllPosesUptoRow.holds Try.pinned (OpenSpec.upto fnExactAllPosesSpec)

/-- 'laws.FnExactNeedlessKeys', WHERE WHAT IT READS IS OF BULK AT MOST 1048576: true; the input reads as it did. -/
def fnExactNeedlessKeysUptoRow : OpenClaim := { program := "ytfbdeeobmjndlaa", sum := "d250521e6cca2603357bf9826edd6cdc2397230237dd8721d23578102994f3db", func := "loop.example/g01063/laws.FnExactNeedlessKeys", spec := "fnExactNeedlessKeys", unfollowed := true, recurses := true, apart := false, narrowed := true }
def FnExactNeedlessKeysUptoSaid : Prop := fnExactNeedlessKeysUptoRow.holds Try.pinned (OpenSpec.upto fnExactNeedlessKeysSpec)

/-- 'laws.FnExactStretchKeys', WHERE WHAT IT READS IS OF BULK AT MOST 1048576: true; the input reads as it did. -/
def fnExactStretchKeysUptoRow : OpenClaim := { program := "ytfbdeeobmjndlaa", sum := "d250521e6cca2603357bf9826edd6cdc2397230237dd8721d23578102994f3db", func := "loop.example/g01063/laws.FnExactStretchKeys", spec := "fnExactStretchKeys", unfollowed := true, recurses := true, apart := false, narrowed := true }
def FnExactStretchKeysUptoSaid : Prop := fnExactStretchKeysUptoRow.holds Try.pinned (OpenSpec.upto fnExactStretchKeysSpec)

/-- 'laws.FnExactCommonTime', WHERE WHAT IT READS IS OF BULK AT MOST 1048576: true; the input reads as it did. -/
def fnExactCommonTimeUptoRow : OpenClaim := { program := "ytfbdeeobmjndlaa", sum := "d250521e6cca2603357bf9826edd6cdc2397230237dd8721d23578102994f3db", func := "loop.example/g01063/laws.FnExactCommonTime", spec := "fnExactCommonTime", unfollowed := true, recurses := true, apart := false, narrowed := true }
def FnExactCommonTimeUptoSaid : Prop := fnExactCommonTimeUptoRow.holds Try.pinned (OpenSpec.upto fnExactCommonTimeSpec)

/-- 'laws.FnRates', WHERE WHAT IT READS IS OF BULK AT MOST 1048576: true; the input reads as it did. -/
def fnRatesUptoRow : OpenClaim := { program := "ytfbdeeobmjndlaa", sum := "d250521e6cca2603357bf9826edd6cdc2397230237dd8721d23578102994f3db", func := "loop.example/g01063/laws.FnRates", spec := "fnRates", unfollowed := true, recurses := true, apart := false, narrowed := true }
def FnRatesUptoSaid : Prop := fnRatesUptoRow.holds Try.pinned (OpenSpec.upto fnRatesSpec)

end Rows
end Go.Proofs.Ytfbdeeobmjndlaa
