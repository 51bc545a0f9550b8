/-
  No cell of these rows narrows 'for every input' (looked for: loops, veiled, ifaces, maps, wideKeys, modest, calm, conditions, laid).
  DERIVED. THE GIVEN ROWS OF THIS SEAT. 12 by the template 'for every input the law returns true; each argument reads behind the call as it read before'; 0 by the template 'total and deterministic' (their statements: YtibafngidpmgdabTotals.lean).
  GIVEN WITH THE SEED: the statements are not yours to turn. If you find one false, say at which input.
  Laid BY PROGRAM, IN A SANDBOX (cutbox-rows.mjs): the forced cells as the released guide's own fill.sh prints them over the translation 1adb21f1e056ab7e… (all of the seat's roots in one cut). By AI agents, Wed Nov 11 2026. No macro, syntax, notation, axiom, sorry.
-/
import Derived.Test.YtibafngidpmgdabChecked
import GoSem.Claim
import GoSem.ClaimJoined
import GoSem.ClaimMapViews
import Derived.JoinedTies
import Derived.KernelRfl
namespace Go.Proofs.Ytibafngidpmgdab
/- THE CELL 'sum', in the pinned program and in every row, IS THE sha256 OF THE DUMP (.gsa) THAT YtibafngidpmgdabProg.lean LOADS. Nothing in Lean hashes anything: it is a label: what it is worth is what the hold of that sum in a sandbox is worth. -/
noncomputable def Try.pinned : Pinned := { name := "ytibafngidpmgdab", sum := "1adb21f1e056ab7e448651dda0a5221945a10a86e5b262fa22ce308a73f0a66d", checked := Try.checked }
namespace Rows
def none {H : Type} : Left H := { results := [], args := [] }

/-- 'laws.FnBooks': WHATEVER THE INPUT: true; the input reads as it did. -/
def fnBooksSpec : ChangeSpec := { name := "fnBooks", fn := fun _ => fun
  | [d1, d2] => { results := [.lit (.bool true)], args := [d1, d2] }
  | _ => none }
def fnBooksRow : OpenClaim := { program := "ytibafngidpmgdab", sum := "1adb21f1e056ab7e448651dda0a5221945a10a86e5b262fa22ce308a73f0a66d", func := "loop.example/g01063/laws.FnBooks", spec := "fnBooks", inPlace := ["internal/abi.NoEscape", "internal/bytealg.MakeNoZero"], unfollowed := true, recurses := true, leaving := true, apart := false }
def FnBooksSaid : Prop := fnBooksRow.holds Try.pinned (OpenSpec.ofChange fnBooksSpec)

/-- ITS FALSE NEIGHBOUR: 'it returns false'. Refute it at one input. -/
def fnBooksWrong : ChangeSpec := { name := "fnBooks", fn := fun _ => fun
  | [d1, d2] => { results := [.lit (.bool false)], args := [d1, d2] }
  | _ => none }
def FnBooksWrongFalsely : Prop := fnBooksRow.holds Try.pinned (OpenSpec.ofChange fnBooksWrong)

/-- 'laws.FnTicks': WHATEVER THE INPUT: true; the input reads as it did. -/
def fnTicksSpec : ChangeSpec := { name := "fnTicks", fn := fun _ => fun
  | [d1, d2] => { results := [.lit (.bool true)], args := [d1, d2] }
  | _ => none }
def fnTicksRow : OpenClaim := { program := "ytibafngidpmgdab", sum := "1adb21f1e056ab7e448651dda0a5221945a10a86e5b262fa22ce308a73f0a66d", func := "loop.example/g01063/laws.FnTicks", spec := "fnTicks", inPlace := ["internal/abi.NoEscape", "internal/bytealg.MakeNoZero"], unfollowed := true, recurses := true, leaving := true, apart := false }
def FnTicksSaid : Prop := fnTicksRow.holds Try.pinned (OpenSpec.ofChange fnTicksSpec)

/-- ITS FALSE NEIGHBOUR: 'it returns false'. Refute it at one input. -/
def fnTicksWrong : ChangeSpec := { name := "fnTicks", fn := fun _ => fun
  | [d1, d2] => { results := [.lit (.bool false)], args := [d1, d2] }
  | _ => none }
def FnTicksWrongFalsely : Prop := fnTicksRow.holds Try.pinned (OpenSpec.ofChange fnTicksWrong)

/-- 'laws.FnExactValidScenes': WHATEVER THE INPUT: true; the input reads as it did. -/
def fnExactValidScenesSpec : ChangeSpec := { name := "fnExactValidScenes", fn := fun _ => fun
  | [d] => { results := [.lit (.bool true)], args := [d] }
  | _ => none }
def fnExactValidScenesRow : OpenClaim := { program := "ytibafngidpmgdab", sum := "1adb21f1e056ab7e448651dda0a5221945a10a86e5b262fa22ce308a73f0a66d", func := "loop.example/g01063/laws.FnExactValidScenes", spec := "fnExactValidScenes", apart := false }
def FnExactValidScenesSaid : Prop := fnExactValidScenesRow.holds Try.pinned (OpenSpec.ofChange fnExactValidScenesSpec)

/-- ITS FALSE NEIGHBOUR: 'it returns false'. Refute it at one input. -/
def fnExactValidScenesWrong : ChangeSpec := { name := "fnExactValidScenes", fn := fun _ => fun
  | [d] => { results := [.lit (.bool false)], args := [d] }
  | _ => none }
def FnExactValidScenesWrongFalsely : Prop := fnExactValidScenesRow.holds Try.pinned (OpenSpec.ofChange fnExactValidScenesWrong)

/-- 'laws.FnExactSameScenes': WHATEVER THE INPUT: true; the input reads as it did. -/
def fnExactSameScenesSpec : ChangeSpec := { name := "fnExactSameScenes", fn := fun _ => fun
  | [d1, d2] => { results := [.lit (.bool true)], args := [d1, d2] }
  | _ => none }
def fnExactSameScenesRow : OpenClaim := { program := "ytibafngidpmgdab", sum := "1adb21f1e056ab7e448651dda0a5221945a10a86e5b262fa22ce308a73f0a66d", func := "loop.example/g01063/laws.FnExactSameScenes", spec := "fnExactSameScenes", apart := false }
def FnExactSameScenesSaid : Prop := fnExactSameScenesRow.holds Try.pinned (OpenSpec.ofChange fnExactSameScenesSpec)

/-- ITS FALSE NEIGHBOUR: 'it returns false'. Refute it at one input. -/
def fnExactSameScenesWrong : ChangeSpec := { name := "fnExactSameScenes", fn := fun _ => fun
  | [d1, d2] => { results := [.lit (.bool false)], args := [d1, d2] }
  | _ => none }
def FnExactSameScenesWrongFalsely : Prop := fnExactSameScenesRow.holds Try.pinned (OpenSpec.ofChange fnExactSameScenesWrong)

/-- 'laws.FnExactScenesOf': WHATEVER THE INPUT: true; the input reads as it did. -/
def fnExactScenesOfSpec : ChangeSpec := { name := "fnExactScenesOf", fn := fun _ => fun
  | [d1, d2] => { results := [.lit (.bool true)], args := [d1, d2] }
  | _ => none }
def fnExactScenesOfRow : OpenClaim := { program := "ytibafngidpmgdab", sum := "1adb21f1e056ab7e448651dda0a5221945a10a86e5b262fa22ce308a73f0a66d", func := "loop.example/g01063/laws.FnExactScenesOf", spec := "fnExactScenesOf", apart := false }
def FnExactScenesOfSaid : Prop := fnExactScenesOfRow.holds Try.pinned (OpenSpec.ofChange fnExactScenesOfSpec)

/-- ITS FALSE NEIGHBOUR: 'it returns false'. Refute it at one input. -/
def fnExactScenesOfWrong : ChangeSpec := { name := "fnExactScenesOf", fn := fun _ => fun
  | [d1, d2] => { results := [.lit (.bool false)], args := [d1, d2] }
  | _ => none }
def FnExactScenesOfWrongFalsely : Prop := fnExactScenesOfRow.holds Try.pinned (OpenSpec.ofChange fnExactScenesOfWrong)

/-- 'laws.FnExactPageAt': WHATEVER THE INPUT: true; the input reads as it did. -/
def fnExactPageAtSpec : ChangeSpec := { name := "fnExactPageAt", fn := fun _ => fun
  | [d1, d2, d3] => { results := [.lit (.bool true)], args := [d1, d2, d3] }
  | _ => none }
def fnExactPageAtRow : OpenClaim := { program := "ytibafngidpmgdab", sum := "1adb21f1e056ab7e448651dda0a5221945a10a86e5b262fa22ce308a73f0a66d", func := "loop.example/g01063/laws.FnExactPageAt", spec := "fnExactPageAt", apart := false }
def FnExactPageAtSaid : Prop := fnExactPageAtRow.holds Try.pinned (OpenSpec.ofChange fnExactPageAtSpec)

/-- ITS FALSE NEIGHBOUR: 'it returns false'. Refute it at one input. -/
def fnExactPageAtWrong : ChangeSpec := { name := "fnExactPageAt", fn := fun _ => fun
  | [d1, d2, d3] => { results := [.lit (.bool false)], args := [d1, d2, d3] }
  | _ => none }
def FnExactPageAtWrongFalsely : Prop := fnExactPageAtRow.holds Try.pinned (OpenSpec.ofChange fnExactPageAtWrong)

/-- 'laws.FnExactExactTick': WHATEVER THE INPUT: true; the input reads as it did. -/
def fnExactExactTickSpec : ChangeSpec := { name := "fnExactExactTick", fn := fun _ => fun
  | [d] => { results := [.lit (.bool true)], args := [d] }
  | _ => none }
def fnExactExactTickRow : OpenClaim := { program := "ytibafngidpmgdab", sum := "1adb21f1e056ab7e448651dda0a5221945a10a86e5b262fa22ce308a73f0a66d", func := "loop.example/g01063/laws.FnExactExactTick", spec := "fnExactExactTick", apart := false }
def FnExactExactTickSaid : Prop := fnExactExactTickRow.holds Try.pinned (OpenSpec.ofChange fnExactExactTickSpec)

/-- ITS FALSE NEIGHBOUR: 'it returns false'. Refute it at one input. -/
def fnExactExactTickWrong : ChangeSpec := { name := "fnExactExactTick", fn := fun _ => fun
  | [d] => { results := [.lit (.bool false)], args := [d] }
  | _ => none }
def FnExactExactTickWrongFalsely : Prop := fnExactExactTickRow.holds Try.pinned (OpenSpec.ofChange fnExactExactTickWrong)

/-- 'laws.FnExactBookFor': WHATEVER THE INPUT: true; the input reads as it did. -/
def fnExactBookForSpec : ChangeSpec := { name := "fnExactBookFor", fn := fun _ => fun
  | [d1, d2] => { results := [.lit (.bool true)], args := [d1, d2] }
  | _ => none }
def fnExactBookForRow : OpenClaim := { program := "ytibafngidpmgdab", sum := "1adb21f1e056ab7e448651dda0a5221945a10a86e5b262fa22ce308a73f0a66d", func := "loop.example/g01063/laws.FnExactBookFor", spec := "fnExactBookFor", inPlace := ["internal/abi.NoEscape", "internal/bytealg.MakeNoZero"], unfollowed := true, recurses := true, leaving := true, apart := false }
def FnExactBookForSaid : Prop := fnExactBookForRow.holds Try.pinned (OpenSpec.ofChange fnExactBookForSpec)

/-- ITS FALSE NEIGHBOUR: 'it returns false'. Refute it at one input. -/
def fnExactBookForWrong : ChangeSpec := { name := "fnExactBookFor", fn := fun _ => fun
  | [d1, d2] => { results := [.lit (.bool false)], args := [d1, d2] }
  | _ => none }
def FnExactBookForWrongFalsely : Prop := fnExactBookForRow.holds Try.pinned (OpenSpec.ofChange fnExactBookForWrong)

/-- 'laws.FnExactErrorOfBook': WHATEVER THE INPUT: true; the input reads as it did. -/
def fnExactErrorOfBookSpec : ChangeSpec := { name := "fnExactErrorOfBook", fn := fun _ => fun
  | [d1, d2] => { results := [.lit (.bool true)], args := [d1, d2] }
  | _ => none }
def fnExactErrorOfBookRow : OpenClaim := { program := "ytibafngidpmgdab", sum := "1adb21f1e056ab7e448651dda0a5221945a10a86e5b262fa22ce308a73f0a66d", func := "loop.example/g01063/laws.FnExactErrorOfBook", spec := "fnExactErrorOfBook", unfollowed := true, recurses := true, leaving := true, apart := false }
def FnExactErrorOfBookSaid : Prop := fnExactErrorOfBookRow.holds Try.pinned (OpenSpec.ofChange fnExactErrorOfBookSpec)

/-- ITS FALSE NEIGHBOUR: 'it returns false'. Refute it at one input. -/
def fnExactErrorOfBookWrong : ChangeSpec := { name := "fnExactErrorOfBook", fn := fun _ => fun
  | [d1, d2] => { results := [.lit (.bool false)], args := [d1, d2] }
  | _ => none }
def FnExactErrorOfBookWrongFalsely : Prop := fnExactErrorOfBookRow.holds Try.pinned (OpenSpec.ofChange fnExactErrorOfBookWrong)

/-- 'laws.FnExactBestTick': WHATEVER THE INPUT: true; the input reads as it did. -/
def fnExactBestTickSpec : ChangeSpec := { name := "fnExactBestTick", fn := fun _ => fun
  | [d1, d2] => { results := [.lit (.bool true)], args := [d1, d2] }
  | _ => none }
def fnExactBestTickRow : OpenClaim := { program := "ytibafngidpmgdab", sum := "1adb21f1e056ab7e448651dda0a5221945a10a86e5b262fa22ce308a73f0a66d", func := "loop.example/g01063/laws.FnExactBestTick", spec := "fnExactBestTick", unfollowed := true, recurses := true, leaving := true, apart := false }
def FnExactBestTickSaid : Prop := fnExactBestTickRow.holds Try.pinned (OpenSpec.ofChange fnExactBestTickSpec)

/-- ITS FALSE NEIGHBOUR: 'it returns false'. Refute it at one input. -/
def fnExactBestTickWrong : ChangeSpec := { name := "fnExactBestTick", fn := fun _ => fun
  | [d1, d2] => { results := [.lit (.bool false)], args := [d1, d2] }
  | _ => none }
def FnExactBestTickWrongFalsely : Prop := fnExactBestTickRow.holds Try.pinned (OpenSpec.ofChange fnExactBestTickWrong)

/-- 'laws.FnExactLengthOfScenes': WHATEVER THE INPUT: true; the input reads as it did. -/
def fnExactLengthOfScenesSpec : ChangeSpec := { name := "fnExactLengthOfScenes", fn := fun _ => fun
  | [d] => { results := [.lit (.bool true)], args := [d] }
  | _ => none }
def fnExactLengthOfScenesRow : OpenClaim := { program := "ytibafngidpmgdab", sum := "1adb21f1e056ab7e448651dda0a5221945a10a86e5b262fa22ce308a73f0a66d", func := "loop.example/g01063/laws.FnExactLengthOfScenes", spec := "fnExactLengthOfScenes", unfollowed := true, recurses := true, leaving := true, apart := false }
def FnExactLengthOfScenesSaid : Prop := fnExactLengthOfScenesRow.holds Try.pinned (OpenSpec.ofChange fnExactLengthOfScenesSpec)

/-- ITS FALSE NEIGHBOUR: 'it returns false'. Refute it at one input. -/
def fnExactLengthOfScenesWrong : ChangeSpec := { name := "fnExactLengthOfScenes", fn := fun _ => fun
  | [d] => { results := [.lit (.bool false)], args := [d] }
  | _ => none }
def FnExactLengthOfScenesWrongFalsely : Prop := fnExactLengthOfScenesRow.holds Try.pinned (OpenSpec.ofChange fnExactLengthOfScenesWrong)

/-- 'laws.FnExactWorstSlit': WHATEVER THE INPUT: true; the input reads as it did. -/
def fnExactWorstSlitSpec : ChangeSpec := { name := "fnExactWorstSlit", fn := fun _ => fun
  | [d1, d2] => { results := [.lit (.bool true)], args := [d1, d2] }
  | _ => none }
def fnExactWorstSlitRow : OpenClaim := { program := "ytibafngidpmgdab", sum := "1adb21f1e056ab7e448651dda0a5221945a10a86e5b262fa22ce308a73f0a66d", func := "loop.example/g01063/laws.FnExactWorstSlit", spec := "fnExactWorstSlit", unfollowed := true, recurses := true, leaving := true, apart := false }
def FnExactWorstSlitSaid : Prop := fnExactWorstSlitRow.holds Try.pinned (OpenSpec.ofChange fnExactWorstSlitSpec)

/-- ITS FALSE NEIGHBOUR: 'it returns false'. Refute it at one input. -/
def fnExactWorstSlitWrong : ChangeSpec := { name := "fnExactWorstSlit", fn := fun _ => fun
  | [d1, d2] => { results := [.lit (.bool false)], args := [d1, d2] }
  | _ => none }
def FnExactWorstSlitWrongFalsely : Prop := fnExactWorstSlitRow.holds Try.pinned (OpenSpec.ofChange fnExactWorstSlitWrong)

/- THE SECOND FORM. 'bulk': how many values and letters a reading holds, each counted each time it is reached (what is shared counts as often as it is met; a slice's spare places count too). A statement '..UptoSaid' is the law's where the arguments, and the package variables that the reading takes, are together of bulk at most 1048576: NARROWER than '..Said'. Prove '..Said' where nothing that the law and all that it calls make is longer than what came in: it says more and counts as full. Else prove '..UptoSaid'. A law counts once. -/
mutual
def uptoBulk {H : Type} : DataW H → Nat
  | .lit (.string bytes) => bytes.length + 1
  | .lit _ => 1
  | .nil => 1
  | .ptr d => uptoBulk d + 1
  | .slice elems spare => uptoBulkAll elems + uptoBulkAll spare + 1
  | .agg parts => uptoBulkAll parts + 1
  | .iface _ d => uptoBulk d + 1
  | .map entries => uptoBulkEntries entries + 1
  | .held _ => 1
def uptoBulkAll {H : Type} : List (DataW H) → Nat
  | [] => 0
  | d :: r => uptoBulk d + uptoBulkAll r
def uptoBulkEntries {H : Type} : List (Lit × DataW H) → Nat
  | [] => 0
  | x :: r => uptoBulkEntry x + uptoBulkEntries r
def uptoBulkEntry {H : Type} : Lit × DataW H → Nat
  | (.string bytes, d) => bytes.length + uptoBulk d + 1
  | (_, d) => uptoBulk d + 1
 end
def uptoSmall : (H : Type) → List (DataW H) → Bool := fun _ ds => decide (uptoBulkAll ds ≤ 1048576)
def OpenSpec.upto (s : _root_.Go.ChangeSpec) : _root_.Go.OpenSpec := { _root_.Go.OpenSpec.ofChange s with cond := some uptoSmall }

/-- 'laws.FnBooks', WHERE WHAT IT READS IS OF BULK AT MOST 1048576: true; the input reads as it did. -/
def fnBooksUptoRow : OpenClaim := { program := "ytibafngidpmgdab", sum := "1adb21f1e056ab7e448651dda0a5221945a10a86e5b262fa22ce308a73f0a66d", func := "loop.example/g01063/laws.FnBooks", spec := "fnBooks", inPlace := ["internal/abi.NoEscape", "internal/bytealg.MakeNoZero"], unfollowed := true, recurses := true, leaving := true, apart := false, narrowed := true }
def FnBooksUptoSaid : Prop := fnBooksUptoRow.holds Try.pinned (OpenSpec.upto fnBooksSpec)

/-- 'laws.FnTicks', WHERE WHAT IT READS IS OF BULK AT MOST 1048576: true; the input reads as it did. -/
def fnTicksUptoRow : OpenClaim := { program := "ytibafngidpmgdab", sum := "1adb21f1e056ab7e448651dda0a5221945a10a86e5b262fa22ce308a73f0a66d", func := "loop.example/g01063/laws.FnTicks", spec := "fnTicks", inPlace := ["internal/abi.NoEscape", "internal/bytealg.MakeNoZero"], unfollowed := true, recurses := true, leaving := true, apart := false, narrowed := true }
def FnTicksUptoSaid : Prop := fnTicksUptoRow.holds Try.pinned (OpenSpec.upto fnTicksSpec)

/-- 'laws.FnExactValidScenes', WHERE WHAT IT READS IS OF BULK AT MOST 1048576: true; the input reads as it did. -/
def fnExactValidScenesUptoRow : OpenClaim := { program := "ytibafngidpmgdab", sum := "1adb21f1e056ab7e448651dda0a5221945a10a86e5b262fa22ce308a73f0a66d", func := "loop.example/g01063/laws.FnExactValidScenes", spec := "fnExactValidScenes", apart := false, narrowed := true }
def FnExactValidScenesUptoSaid : Prop := fnExactValidScenesUptoRow.holds Try.pinned (OpenSpec.upto fnExactValidScenesSpec)

/-- 'laws.FnExactSameScenes', WHERE WHAT IT READS IS OF BULK AT MOST 1048576: true; the input reads as it did. -/
def fnExactSameScenesUptoRow : OpenClaim := { program := "ytibafngidpmgdab", sum := "1adb21f1e056ab7e448651dda0a5221945a10a86e5b262fa22ce308a73f0a66d", func := "loop.example/g01063/laws.FnExactSameScenes", spec := "fnExactSameScenes", apart := false, narrowed := true }
def FnExactSameScenesUptoSaid : Prop := fnExactSameScenesUptoRow.holds Try.pinned (OpenSpec.upto fnExactSameScenesSpec)

/-- 'laws.FnExactScenesOf', WHERE WHAT IT READS IS OF BULK AT MOST 1048576: true; the input reads as it did. -/
def fnExactScenesOfUptoRow : OpenClaim := { program := "ytibafngidpmgdab", sum := "1adb21f1e056ab7e448651dda0a5221945a10a86e5b262fa22ce308a73f0a66d", func := "loop.example/g01063/laws.FnExactScenesOf", spec := "fnExactScenesOf", apart := false, narrowed := true }
def FnExactScenesOfUptoSaid : Prop := fnExactScenesOfUptoRow.holds Try.pinned (OpenSpec.upto fnExactScenesOfSpec)

/-- 'laws.FnExactPageAt', WHERE WHAT IT READS IS OF BULK AT MOST 1048576: true; the input reads as it did. -/
def fnExactPageAtUptoRow : OpenClaim := { program := "ytibafngidpmgdab", sum := "1adb21f1e056ab7e448651dda0a5221945a10a86e5b262fa22ce308a73f0a66d", func := "loop.example/g01063/laws.FnExactPageAt", spec := "fnExactPageAt", apart := false, narrowed := true }
def FnExactPageAtUptoSaid : Prop := fnExactPageAtUptoRow.holds Try.pinned (OpenSpec.upto fnExactPageAtSpec)

/-- 'laws.FnExactExactTick', WHERE WHAT IT READS IS OF BULK AT MOST 1048576: true; the input reads as it did. -/
def fnExactExactTickUptoRow : OpenClaim := { program := "ytibafngidpmgdab", sum := "1adb21f1e056ab7e448651dda0a5221945a10a86e5b262fa22ce308a73f0a66d", func := "loop.example/g01063/laws.FnExactExactTick", spec := "fnExactExactTick", apart := false, narrowed := true }
def FnExactExactTickUptoSaid : Prop := fnExactExactTickUptoRow.holds Try.pinned (OpenSpec.upto fnExactExactTickSpec)

/-- 'laws.FnExactBookFor', WHERE WHAT IT READS IS OF BULK AT MOST 1048576: true; the input reads as it did. -/
def fnExactBookForUptoRow : OpenClaim := { program := "ytibafngidpmgdab", sum := "1adb21f1e056ab7e448651dda0a5221945a10a86e5b262fa22ce308a73f0a66d", func := "loop.example/g01063/laws.FnExactBookFor", spec := "fnExactBookFor", inPlace := ["internal/abi.NoEscape", "internal/bytealg.MakeNoZero"], unfollowed := true, recurses := true, leaving := true, apart := false, narrowed := true }
def FnExactBookForUptoSaid : Prop := fnExactBookForUptoRow.holds Try.pinned (OpenSpec.upto fnExactBookForSpec)

/-- 'laws.FnExactErrorOfBook', WHERE WHAT IT READS IS OF BULK AT MOST 1048576: true; the input reads as it did. -/
def fnExactErrorOfBookUptoRow : OpenClaim := { program := "ytibafngidpmgdab", sum := "1adb21f1e056ab7e448651dda0a5221945a10a86e5b262fa22ce308a73f0a66d", func := "loop.example/g01063/laws.FnExactErrorOfBook", spec := "fnExactErrorOfBook", unfollowed := true, recurses := true, leaving := true, apart := false, narrowed := true }
def FnExactErrorOfBookUptoSaid : Prop := fnExactErrorOfBookUptoRow.holds Try.pinned (OpenSpec.upto fnExactErrorOfBookSpec)

/-- 'laws.FnExactBestTick', WHERE WHAT IT READS IS OF BULK AT MOST 1048576: true; the input reads as it did. -/
def fnExactBestTickUptoRow : OpenClaim := { program := "ytibafngidpmgdab", sum := "1adb21f1e056ab7e448651dda0a5221945a10a86e5b262fa22ce308a73f0a66d", func := "loop.example/g01063/laws.FnExactBestTick", spec := "fnExactBestTick", unfollowed := true, recurses := true, leaving := true, apart := false, narrowed := true }
def FnExactBestTickUptoSaid : Prop := fnExactBestTickUptoRow.holds Try.pinned (OpenSpec.upto fnExactBestTickSpec)

/-- 'laws.FnExactLengthOfScenes', WHERE WHAT IT READS IS OF BULK AT MOST 1048576: true; the input reads as it did. -/
def fnExactLengthOfScenesUptoRow : OpenClaim := { program := "ytibafngidpmgdab", sum := "1adb21f1e056ab7e448651dda0a5221945a10a86e5b262fa22ce308a73f0a66d", func := "loop.example/g01063/laws.FnExactLengthOfScenes", spec := "fnExactLengthOfScenes", unfollowed := true, recurses := true, leaving := true, apart := false, narrowed := true }
def FnExactLengthOfScenesUptoSaid : Prop := fnExactLengthOfScenesUptoRow.holds Try.pinned (OpenSpec.upto fnExactLengthOfScenesSpec)

/-- 'laws.FnExactWorstSlit', WHERE WHAT IT READS IS OF BULK AT MOST 1048576: true; the input reads as it did. -/
def fnExactWorstSlitUptoRow : OpenClaim := { program := "ytibafngidpmgdab", sum := "1adb21f1e056ab7e448651dda0a5221945a10a86e5b262fa22ce308a73f0a66d", func := "loop.example/g01063/laws.FnExactWorstSlit", spec := "fnExactWorstSlit", unfollowed := true, recurses := true, leaving := true, apart := false, narrowed := true }
def FnExactWorstSlitUptoSaid : Prop := fnExactWorstSlitUptoRow.holds Try.pinned (OpenSpec.upto fnExactWorstSlitSpec)

end Rows
end Go.Proofs.Ytibafngidpmgdab
