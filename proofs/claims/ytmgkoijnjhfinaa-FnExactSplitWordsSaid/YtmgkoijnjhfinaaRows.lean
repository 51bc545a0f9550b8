/-
  No cell of these rows narrows 'for every input' (looked for: loops, veiled, ifaces, maps, wideKeys, modest, calm, conditions, laid).
  DERIVED. THE GIVEN ROWS OF THIS SEAT. 12 by the template 'for every input the law returns true; each argument reads behind the call as it read before'; 0 by the template 'total and deterministic' (their statements: YtmgkoijnjhfinaaTotals.lean).
  GIVEN WITH THE SEED: the statements are not yours to turn. If you find one false, say at which input.
  Laid BY PROGRAM, IN A SANDBOX (cutbox-rows.mjs): the forced cells as the released guide's own fill.sh prints them over the translation 09187e5e7c288bfb… (all of the seat's roots in one cut). By AI agents, Wed Nov 11 2026. No macro, syntax, notation, axiom, sorry.
-/
import Derived.Test.YtmgkoijnjhfinaaChecked
import GoSem.Claim
import GoSem.ClaimJoined
import GoSem.ClaimMapViews
import Derived.JoinedTies
import Derived.KernelRfl
namespace Go.Proofs.Ytmgkoijnjhfinaa
/- THE CELL 'sum', in the pinned program and in every row, IS THE sha256 OF THE DUMP (.gsa) THAT YtmgkoijnjhfinaaProg.lean LOADS. Nothing in Lean hashes anything: it is a label: what it is worth is what the hold of that sum in a sandbox is worth. -/
noncomputable def Try.pinned : Pinned := { name := "ytmgkoijnjhfinaa", sum := "09187e5e7c288bfb479c5985909ce0ba65c5945489aea1a608d0dbafa3d2d03b", checked := Try.checked }
namespace Rows
def none {H : Type} : Left H := { results := [], args := [] }

/-- 'laws.FnSeen': WHATEVER THE INPUT: true; the input reads as it did. -/
def fnSeenSpec : ChangeSpec := { name := "fnSeen", fn := fun _ => fun
  | [d1, d2] => { results := [.lit (.bool true)], args := [d1, d2] }
  | _ => none }
def fnSeenRow : OpenClaim := { program := "ytmgkoijnjhfinaa", sum := "09187e5e7c288bfb479c5985909ce0ba65c5945489aea1a608d0dbafa3d2d03b", func := "loop.example/g01063/laws.FnSeen", spec := "fnSeen", unfollowed := true, recurses := true, apart := false }
def FnSeenSaid : Prop := fnSeenRow.holds Try.pinned (OpenSpec.ofChange fnSeenSpec)

/-- ITS FALSE NEIGHBOUR: 'it returns false'. Refute it at one input. -/
def fnSeenWrong : ChangeSpec := { name := "fnSeen", fn := fun _ => fun
  | [d1, d2] => { results := [.lit (.bool false)], args := [d1, d2] }
  | _ => none }
def FnSeenWrongFalsely : Prop := fnSeenRow.holds Try.pinned (OpenSpec.ofChange fnSeenWrong)

/-- 'laws.FnDrifts': WHATEVER THE INPUT: true; the input reads as it did. -/
def fnDriftsSpec : ChangeSpec := { name := "fnDrifts", fn := fun _ => fun
  | [d1, d2] => { results := [.lit (.bool true)], args := [d1, d2] }
  | _ => none }
def fnDriftsRow : OpenClaim := { program := "ytmgkoijnjhfinaa", sum := "09187e5e7c288bfb479c5985909ce0ba65c5945489aea1a608d0dbafa3d2d03b", func := "loop.example/g01063/laws.FnDrifts", spec := "fnDrifts", unfollowed := true, recurses := true, apart := false }
def FnDriftsSaid : Prop := fnDriftsRow.holds Try.pinned (OpenSpec.ofChange fnDriftsSpec)

/-- ITS FALSE NEIGHBOUR: 'it returns false'. Refute it at one input. -/
def fnDriftsWrong : ChangeSpec := { name := "fnDrifts", fn := fun _ => fun
  | [d1, d2] => { results := [.lit (.bool false)], args := [d1, d2] }
  | _ => none }
def FnDriftsWrongFalsely : Prop := fnDriftsRow.holds Try.pinned (OpenSpec.ofChange fnDriftsWrong)

/-- 'laws.FnExactSplitWords': WHATEVER THE INPUT: true; the input reads as it did. -/
def fnExactSplitWordsSpec : ChangeSpec := { name := "fnExactSplitWords", fn := fun _ => fun
  | [d] => { results := [.lit (.bool true)], args := [d] }
  | _ => none }
def fnExactSplitWordsRow : OpenClaim := { program := "ytmgkoijnjhfinaa", sum := "09187e5e7c288bfb479c5985909ce0ba65c5945489aea1a608d0dbafa3d2d03b", func := "loop.example/g01063/laws.FnExactSplitWords", spec := "fnExactSplitWords", unfollowed := true, recurses := true, apart := false }
def FnExactSplitWordsSaid : Prop := fnExactSplitWordsRow.holds Try.pinned (OpenSpec.ofChange fnExactSplitWordsSpec)

/-- ITS FALSE NEIGHBOUR: 'it returns false'. Refute it at one input. -/
def fnExactSplitWordsWrong : ChangeSpec := { name := "fnExactSplitWords", fn := fun _ => fun
  | [d] => { results := [.lit (.bool false)], args := [d] }
  | _ => none }
def FnExactSplitWordsWrongFalsely : Prop := fnExactSplitWordsRow.holds Try.pinned (OpenSpec.ofChange fnExactSplitWordsWrong)

/-- 'laws.FnExactSeenAt': WHATEVER THE INPUT: true; the input reads as it did. -/
def fnExactSeenAtSpec : ChangeSpec := { name := "fnExactSeenAt", fn := fun _ => fun
  | [d1, d2, d3] => { results := [.lit (.bool true)], args := [d1, d2, d3] }
  | _ => none }
def fnExactSeenAtRow : OpenClaim := { program := "ytmgkoijnjhfinaa", sum := "09187e5e7c288bfb479c5985909ce0ba65c5945489aea1a608d0dbafa3d2d03b", func := "loop.example/g01063/laws.FnExactSeenAt", spec := "fnExactSeenAt", unfollowed := true, recurses := true, apart := false }
def FnExactSeenAtSaid : Prop := fnExactSeenAtRow.holds Try.pinned (OpenSpec.ofChange fnExactSeenAtSpec)

/-- ITS FALSE NEIGHBOUR: 'it returns false'. Refute it at one input. -/
def fnExactSeenAtWrong : ChangeSpec := { name := "fnExactSeenAt", fn := fun _ => fun
  | [d1, d2, d3] => { results := [.lit (.bool false)], args := [d1, d2, d3] }
  | _ => none }
def FnExactSeenAtWrongFalsely : Prop := fnExactSeenAtRow.holds Try.pinned (OpenSpec.ofChange fnExactSeenAtWrong)

/-- 'laws.FnExactDriftOf': WHATEVER THE INPUT: true; the input reads as it did. -/
def fnExactDriftOfSpec : ChangeSpec := { name := "fnExactDriftOf", fn := fun _ => fun
  | [d1, d2] => { results := [.lit (.bool true)], args := [d1, d2] }
  | _ => none }
def fnExactDriftOfRow : OpenClaim := { program := "ytmgkoijnjhfinaa", sum := "09187e5e7c288bfb479c5985909ce0ba65c5945489aea1a608d0dbafa3d2d03b", func := "loop.example/g01063/laws.FnExactDriftOf", spec := "fnExactDriftOf", unfollowed := true, recurses := true, apart := false }
def FnExactDriftOfSaid : Prop := fnExactDriftOfRow.holds Try.pinned (OpenSpec.ofChange fnExactDriftOfSpec)

/-- ITS FALSE NEIGHBOUR: 'it returns false'. Refute it at one input. -/
def fnExactDriftOfWrong : ChangeSpec := { name := "fnExactDriftOf", fn := fun _ => fun
  | [d1, d2] => { results := [.lit (.bool false)], args := [d1, d2] }
  | _ => none }
def FnExactDriftOfWrongFalsely : Prop := fnExactDriftOfRow.holds Try.pinned (OpenSpec.ofChange fnExactDriftOfWrong)

/-- 'laws.FnExactStandsStill': WHATEVER THE INPUT: true; the input reads as it did. -/
def fnExactStandsStillSpec : ChangeSpec := { name := "fnExactStandsStill", fn := fun _ => fun
  | [d1, d2] => { results := [.lit (.bool true)], args := [d1, d2] }
  | _ => none }
def fnExactStandsStillRow : OpenClaim := { program := "ytmgkoijnjhfinaa", sum := "09187e5e7c288bfb479c5985909ce0ba65c5945489aea1a608d0dbafa3d2d03b", func := "loop.example/g01063/laws.FnExactStandsStill", spec := "fnExactStandsStill", unfollowed := true, recurses := true, apart := false }
def FnExactStandsStillSaid : Prop := fnExactStandsStillRow.holds Try.pinned (OpenSpec.ofChange fnExactStandsStillSpec)

/-- ITS FALSE NEIGHBOUR: 'it returns false'. Refute it at one input. -/
def fnExactStandsStillWrong : ChangeSpec := { name := "fnExactStandsStill", fn := fun _ => fun
  | [d1, d2] => { results := [.lit (.bool false)], args := [d1, d2] }
  | _ => none }
def FnExactStandsStillWrongFalsely : Prop := fnExactStandsStillRow.holds Try.pinned (OpenSpec.ofChange fnExactStandsStillWrong)

/-- 'laws.FnExactGhostsOf': WHATEVER THE INPUT: true; the input reads as it did. -/
def fnExactGhostsOfSpec : ChangeSpec := { name := "fnExactGhostsOf", fn := fun _ => fun
  | [d1, d2] => { results := [.lit (.bool true)], args := [d1, d2] }
  | _ => none }
def fnExactGhostsOfRow : OpenClaim := { program := "ytmgkoijnjhfinaa", sum := "09187e5e7c288bfb479c5985909ce0ba65c5945489aea1a608d0dbafa3d2d03b", func := "loop.example/g01063/laws.FnExactGhostsOf", spec := "fnExactGhostsOf", unfollowed := true, recurses := true, apart := false }
def FnExactGhostsOfSaid : Prop := fnExactGhostsOfRow.holds Try.pinned (OpenSpec.ofChange fnExactGhostsOfSpec)

/-- ITS FALSE NEIGHBOUR: 'it returns false'. Refute it at one input. -/
def fnExactGhostsOfWrong : ChangeSpec := { name := "fnExactGhostsOf", fn := fun _ => fun
  | [d1, d2] => { results := [.lit (.bool false)], args := [d1, d2] }
  | _ => none }
def FnExactGhostsOfWrongFalsely : Prop := fnExactGhostsOfRow.holds Try.pinned (OpenSpec.ofChange fnExactGhostsOfWrong)

/-- 'laws.FnExactSeenOrder': WHATEVER THE INPUT: true; the input reads as it did. -/
def fnExactSeenOrderSpec : ChangeSpec := { name := "fnExactSeenOrder", fn := fun _ => fun
  | [d1, d2] => { results := [.lit (.bool true)], args := [d1, d2] }
  | _ => none }
def fnExactSeenOrderRow : OpenClaim := { program := "ytmgkoijnjhfinaa", sum := "09187e5e7c288bfb479c5985909ce0ba65c5945489aea1a608d0dbafa3d2d03b", func := "loop.example/g01063/laws.FnExactSeenOrder", spec := "fnExactSeenOrder", unfollowed := true, recurses := true, apart := false }
def FnExactSeenOrderSaid : Prop := fnExactSeenOrderRow.holds Try.pinned (OpenSpec.ofChange fnExactSeenOrderSpec)

/-- ITS FALSE NEIGHBOUR: 'it returns false'. Refute it at one input. -/
def fnExactSeenOrderWrong : ChangeSpec := { name := "fnExactSeenOrder", fn := fun _ => fun
  | [d1, d2] => { results := [.lit (.bool false)], args := [d1, d2] }
  | _ => none }
def FnExactSeenOrderWrongFalsely : Prop := fnExactSeenOrderRow.holds Try.pinned (OpenSpec.ofChange fnExactSeenOrderWrong)

/-- 'laws.FnExactMissedPictures': WHATEVER THE INPUT: true; the input reads as it did. -/
def fnExactMissedPicturesSpec : ChangeSpec := { name := "fnExactMissedPictures", fn := fun _ => fun
  | [d1, d2] => { results := [.lit (.bool true)], args := [d1, d2] }
  | _ => none }
def fnExactMissedPicturesRow : OpenClaim := { program := "ytmgkoijnjhfinaa", sum := "09187e5e7c288bfb479c5985909ce0ba65c5945489aea1a608d0dbafa3d2d03b", func := "loop.example/g01063/laws.FnExactMissedPictures", spec := "fnExactMissedPictures", unfollowed := true, recurses := true, apart := false }
def FnExactMissedPicturesSaid : Prop := fnExactMissedPicturesRow.holds Try.pinned (OpenSpec.ofChange fnExactMissedPicturesSpec)

/-- ITS FALSE NEIGHBOUR: 'it returns false'. Refute it at one input. -/
def fnExactMissedPicturesWrong : ChangeSpec := { name := "fnExactMissedPictures", fn := fun _ => fun
  | [d1, d2] => { results := [.lit (.bool false)], args := [d1, d2] }
  | _ => none }
def FnExactMissedPicturesWrongFalsely : Prop := fnExactMissedPicturesRow.holds Try.pinned (OpenSpec.ofChange fnExactMissedPicturesWrong)

/-- 'laws.FnExactPictureRate': WHATEVER THE INPUT: true; the input reads as it did. -/
def fnExactPictureRateSpec : ChangeSpec := { name := "fnExactPictureRate", fn := fun _ => fun
  | [d1, d2] => { results := [.lit (.bool true)], args := [d1, d2] }
  | _ => none }
def fnExactPictureRateRow : OpenClaim := { program := "ytmgkoijnjhfinaa", sum := "09187e5e7c288bfb479c5985909ce0ba65c5945489aea1a608d0dbafa3d2d03b", func := "loop.example/g01063/laws.FnExactPictureRate", spec := "fnExactPictureRate", apart := false }
def FnExactPictureRateSaid : Prop := fnExactPictureRateRow.holds Try.pinned (OpenSpec.ofChange fnExactPictureRateSpec)

/-- ITS FALSE NEIGHBOUR: 'it returns false'. Refute it at one input. -/
def fnExactPictureRateWrong : ChangeSpec := { name := "fnExactPictureRate", fn := fun _ => fun
  | [d1, d2] => { results := [.lit (.bool false)], args := [d1, d2] }
  | _ => none }
def FnExactPictureRateWrongFalsely : Prop := fnExactPictureRateRow.holds Try.pinned (OpenSpec.ofChange fnExactPictureRateWrong)

/-- 'laws.FnExactDriftRate': WHATEVER THE INPUT: true; the input reads as it did. -/
def fnExactDriftRateSpec : ChangeSpec := { name := "fnExactDriftRate", fn := fun _ => fun
  | [d1, d2, d3] => { results := [.lit (.bool true)], args := [d1, d2, d3] }
  | _ => none }
def fnExactDriftRateRow : OpenClaim := { program := "ytmgkoijnjhfinaa", sum := "09187e5e7c288bfb479c5985909ce0ba65c5945489aea1a608d0dbafa3d2d03b", func := "loop.example/g01063/laws.FnExactDriftRate", spec := "fnExactDriftRate", unfollowed := true, recurses := true, apart := false }
def FnExactDriftRateSaid : Prop := fnExactDriftRateRow.holds Try.pinned (OpenSpec.ofChange fnExactDriftRateSpec)

/-- ITS FALSE NEIGHBOUR: 'it returns false'. Refute it at one input. -/
def fnExactDriftRateWrong : ChangeSpec := { name := "fnExactDriftRate", fn := fun _ => fun
  | [d1, d2, d3] => { results := [.lit (.bool false)], args := [d1, d2, d3] }
  | _ => none }
def FnExactDriftRateWrongFalsely : Prop := fnExactDriftRateRow.holds Try.pinned (OpenSpec.ofChange fnExactDriftRateWrong)

/-- 'laws.FnExactSlitsForDrift': WHATEVER THE INPUT: true; the input reads as it did. -/
def fnExactSlitsForDriftSpec : ChangeSpec := { name := "fnExactSlitsForDrift", fn := fun _ => fun
  | [d1, d2] => { results := [.lit (.bool true)], args := [d1, d2] }
  | _ => none }
def fnExactSlitsForDriftRow : OpenClaim := { program := "ytmgkoijnjhfinaa", sum := "09187e5e7c288bfb479c5985909ce0ba65c5945489aea1a608d0dbafa3d2d03b", func := "loop.example/g01063/laws.FnExactSlitsForDrift", spec := "fnExactSlitsForDrift", unfollowed := true, recurses := true, apart := false }
def FnExactSlitsForDriftSaid : Prop := fnExactSlitsForDriftRow.holds Try.pinned (OpenSpec.ofChange fnExactSlitsForDriftSpec)

/-- ITS FALSE NEIGHBOUR: 'it returns false'. Refute it at one input. -/
def fnExactSlitsForDriftWrong : ChangeSpec := { name := "fnExactSlitsForDrift", fn := fun _ => fun
  | [d1, d2] => { results := [.lit (.bool false)], args := [d1, d2] }
  | _ => none }
def FnExactSlitsForDriftWrongFalsely : Prop := fnExactSlitsForDriftRow.holds Try.pinned (OpenSpec.ofChange fnExactSlitsForDriftWrong)

/- THE SECOND FORM. 'bulk': how many values and letters a reading holds, each counted each time it is reached (what is shared counts as often as it is met; a slice's spare places count too). A statement '..UptoSaid' is the law's where the arguments, and the package variables that the reading takes, are together of bulk at most 1048576: NARROWER than '..Said'. Prove '..Said' where nothing that the law and all that it calls make is longer than what came in: it says more and counts as full. Else prove '..UptoSaid'. A law counts once. -/
mutual
def uptoBulk {H : Type} : DataW H → Nat
  | .lit (.string bytes) => bytes.length + 1
  | .lit _ => 1
  | .nil => 1
  | .ptr d => uptoBulk d + 1
  | .slice elems spare => uptoBulkAll elems + uptoBulkAll spare + 1
  | .agg parts => uptoBulkAll parts + 1
  | .iface _ d => uptoBulk d + 1
  | .map entries => uptoBulkEntries entries + 1
  | .held _ => 1
def uptoBulkAll {H : Type} : List (DataW H) → Nat
  | [] => 0
  | d :: r => uptoBulk d + uptoBulkAll r
def uptoBulkEntries {H : Type} : List (Lit × DataW H) → Nat
  | [] => 0
  | x :: r => uptoBulkEntry x + uptoBulkEntries r
def uptoBulkEntry {H : Type} : Lit × DataW H → Nat
  | (.string bytes, d) => bytes.length + uptoBulk d + 1
  | (_, d) => uptoBulk d + 1
 end
def uptoSmall : (H : Type) → List (DataW H) → Bool := fun _ ds => decide (uptoBulkAll ds ≤ 1048576)
def OpenSpec.upto (s : _root_.Go.ChangeSpec) : _root_.Go.OpenSpec := { _root_.Go.OpenSpec.ofChange s with cond := some uptoSmall }

/-- 'laws.FnSeen', WHERE WHAT IT READS IS OF BULK AT MOST 1048576: true; the input reads as it did. -/
def fnSeenUptoRow : OpenClaim := { program := "ytmgkoijnjhfinaa", sum := "09187e5e7c288bfb479c5985909ce0ba65c5945489aea1a608d0dbafa3d2d03b", func := "loop.example/g01063/laws.FnSeen", spec := "fnSeen", unfollowed := true, recurses := true, apart := false, narrowed := true }
def FnSeenUptoSaid : Prop := fnSeenUptoRow.holds Try.pinned (OpenSpec.upto fnSeenSpec)

/-- 'laws.FnDrifts', WHERE WHAT IT READS IS OF BULK AT MOST 1048576: true; the input reads as it did. -/
def fnDriftsUptoRow : OpenClaim := { program := "ytmgkoijnjhfinaa", sum := "09187e5e7c288bfb479c5985909ce0ba65c5945489aea1a608d0dbafa3d2d03b", func := "loop.example/g01063/laws.FnDrifts", spec := "fnDrifts", unfollowed := true, recurses := true, apart := false, narrowed := true }
def FnDriftsUptoSaid : Prop := fnDriftsUptoRow.holds Try.pinned (OpenSpec.upto fnDriftsSpec)

/-- 'laws.FnExactSplitWords', WHERE WHAT IT READS IS OF BULK AT MOST 1048576: true; the input reads as it did. -/
def fnExactSplitWordsUptoRow : OpenClaim := { program := "ytmgkoijnjhfinaa", sum := "09187e5e7c288bfb479c5985909ce0ba65c5945489aea1a608d0dbafa3d2d03b", func := "loop.example/g01063/laws.FnExactSplitWords", spec := "fnExactSplitWords", unfollowed := true, recurses := true, apart := false, narrowed := true }
def FnExactSplitWordsUptoSaid : Prop := fnExactSplitWordsUptoRow.holds Try.pinned (OpenSpec.upto fnExactSplitWordsSpec)

/-- 'laws.FnExactSeenAt', WHERE WHAT IT READS IS OF BULK AT MOST 1048576: true; the input reads as it did. -/
def fnExactSeenAtUptoRow : OpenClaim := { program := "ytmgkoijnjhfinaa", sum := "09187e5e7c288bfb479c5985909ce0ba65c5945489aea1a608d0dbafa3d2d03b", func := "loop.example/g01063/laws.FnExactSeenAt", spec := "fnExactSeenAt", unfollowed := true, recurses := true, apart := false, narrowed := true }
def FnExactSeenAtUptoSaid : Prop := fnExactSeenAtUptoRow.holds Try.pinned (OpenSpec.upto fnExactSeenAtSpec)

/-- 'laws.FnExactDriftOf', WHERE WHAT IT READS IS OF BULK AT MOST 1048576: true; the input reads as it did. -/
def fnExactDriftOfUptoRow : OpenClaim := { program := "ytmgkoijnjhfinaa", sum := "09187e5e7c288bfb479c5985909ce0ba65c5945489aea1a608d0dbafa3d2d03b", func := "loop.example/g01063/laws.FnExactDriftOf", spec := "fnExactDriftOf", unfollowed := true, recurses := true, apart := false, narrowed := true }
def FnExactDriftOfUptoSaid : Prop := fnExactDriftOfUptoRow.holds Try.pinned (OpenSpec.upto fnExactDriftOfSpec)

/-- 'laws.FnExactStandsStill', WHERE WHAT IT READS IS OF BULK AT MOST 1048576: true; the input reads as it did. -/
def fnExactStandsStillUptoRow : OpenClaim := { program := "ytmgkoijnjhfinaa", sum := "09187e5e7c288bfb479c5985909ce0ba65c5945489aea1a608d0dbafa3d2d03b", func := "loop.example/g01063/laws.FnExactStandsStill", spec := "fnExactStandsStill", unfollowed := true, recurses := true, apart := false, narrowed := true }
def FnExactStandsStillUptoSaid : Prop := fnExactStandsStillUptoRow.holds Try.pinned (OpenSpec.upto fnExactStandsStillSpec)

/-- 'laws.FnExactGhostsOf', WHERE WHAT IT READS IS OF BULK AT MOST 1048576: true; the input reads as it did. -/
def fnExactGhostsOfUptoRow : OpenClaim := { program := "ytmgkoijnjhfinaa", sum := "09187e5e7c288bfb479c5985909ce0ba65c5945489aea1a608d0dbafa3d2d03b", func := "loop.example/g01063/laws.FnExactGhostsOf", spec := "fnExactGhostsOf", unfollowed := true, recurses := true, apart := false, narrowed := true }
def FnExactGhostsOfUptoSaid : Prop := fnExactGhostsOfUptoRow.holds Try.pinned (OpenSpec.upto fnExactGhostsOfSpec)

/-- 'laws.FnExactSeenOrder', WHERE WHAT IT READS IS OF BULK AT MOST 1048576: true; the input reads as it did. -/
def fnExactSeenOrderUptoRow : OpenClaim := { program := "ytmgkoijnjhfinaa", sum := "09187e5e7c288bfb479c5985909ce0ba65c5945489aea1a608d0dbafa3d2d03b", func := "loop.example/g01063/laws.FnExactSeenOrder", spec := "fnExactSeenOrder", unfollowed := true, recurses := true, apart := false, narrowed := true }
def FnExactSeenOrderUptoSaid : Prop := fnExactSeenOrderUptoRow.holds Try.pinned (OpenSpec.upto fnExactSeenOrderSpec)

/-- 'laws.FnExactMissedPictures', WHERE WHAT IT READS IS OF BULK AT MOST 1048576: true; the input reads as it did. -/
def fnExactMissedPicturesUptoRow : OpenClaim := { program := "ytmgkoijnjhfinaa", sum := "09187e5e7c288bfb479c5985909ce0ba65c5945489aea1a608d0dbafa3d2d03b", func := "loop.example/g01063/laws.FnExactMissedPictures", spec := "fnExactMissedPictures", unfollowed := true, recurses := true, apart := false, narrowed := true }
def FnExactMissedPicturesUptoSaid : Prop := fnExactMissedPicturesUptoRow.holds Try.pinned (OpenSpec.upto fnExactMissedPicturesSpec)

/-- 'laws.FnExactPictureRate', WHERE WHAT IT READS IS OF BULK AT MOST 1048576: true; the input reads as it did. -/
def fnExactPictureRateUptoRow : OpenClaim := { program := "ytmgkoijnjhfinaa", sum := "09187e5e7c288bfb479c5985909ce0ba65c5945489aea1a608d0dbafa3d2d03b", func := "loop.example/g01063/laws.FnExactPictureRate", spec := "fnExactPictureRate", apart := false, narrowed := true }
def FnExactPictureRateUptoSaid : Prop := fnExactPictureRateUptoRow.holds Try.pinned (OpenSpec.upto fnExactPictureRateSpec)

/-- 'laws.FnExactDriftRate', WHERE WHAT IT READS IS OF BULK AT MOST 1048576: true; the input reads as it did. -/
def fnExactDriftRateUptoRow : OpenClaim := { program := "ytmgkoijnjhfinaa", sum := "09187e5e7c288bfb479c5985909ce0ba65c5945489aea1a608d0dbafa3d2d03b", func := "loop.example/g01063/laws.FnExactDriftRate", spec := "fnExactDriftRate", unfollowed := true, recurses := true, apart := false, narrowed := true }
def FnExactDriftRateUptoSaid : Prop := fnExactDriftRateUptoRow.holds Try.pinned (OpenSpec.upto fnExactDriftRateSpec)

/-- 'laws.FnExactSlitsForDrift', WHERE WHAT IT READS IS OF BULK AT MOST 1048576: true; the input reads as it did. -/
def fnExactSlitsForDriftUptoRow : OpenClaim := { program := "ytmgkoijnjhfinaa", sum := "09187e5e7c288bfb479c5985909ce0ba65c5945489aea1a608d0dbafa3d2d03b", func := "loop.example/g01063/laws.FnExactSlitsForDrift", spec := "fnExactSlitsForDrift", unfollowed := true, recurses := true, apart := false, narrowed := true }
def FnExactSlitsForDriftUptoSaid : Prop := fnExactSlitsForDriftUptoRow.holds Try.pinned (OpenSpec.upto fnExactSlitsForDriftSpec)

end Rows
end Go.Proofs.Ytmgkoijnjhfinaa
