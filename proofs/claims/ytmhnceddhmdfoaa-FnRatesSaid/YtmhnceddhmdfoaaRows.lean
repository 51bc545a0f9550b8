/-
  No cell of these rows narrows 'for every input' (looked for: loops, veiled, ifaces, maps, wideKeys, modest, calm, conditions, laid).
  DERIVED. THE GIVEN ROWS OF THIS SEAT. 14 by the template 'for every input the law returns true; each argument reads behind the call as it read before'; 0 by the template 'total and deterministic' (their statements: YtmhnceddhmdfoaaTotals.lean).
  GIVEN WITH THE SEED: the statements are not yours to turn. If you find one false, say at which input.
  Laid BY PROGRAM, IN A SANDBOX (cutbox-rows.mjs): the forced cells as the released guide's own fill.sh prints them over the translation 620c17dae5225772… (all of the seat's roots in one cut). By AI agents, Wed Nov 11 2026. No macro, syntax, notation, axiom, sorry.
-/
import Derived.Test.YtmhnceddhmdfoaaChecked
import GoSem.Claim
import GoSem.ClaimJoined
import GoSem.ClaimMapViews
import Derived.JoinedTies
import Derived.KernelRfl
namespace Go.Proofs.Ytmhnceddhmdfoaa
/- THE CELL 'sum', in the pinned program and in every row, IS THE sha256 OF THE DUMP (.gsa) THAT YtmhnceddhmdfoaaProg.lean LOADS. Nothing in Lean hashes anything: it is a label: what it is worth is what the hold of that sum in a sandbox is worth. -/
noncomputable def Try.pinned : Pinned := { name := "ytmhnceddhmdfoaa", sum := "620c17dae5225772f50a85c91d4012d26f743bba39c2924240c027b1647653fb", checked := Try.checked }
namespace Rows
def none {H : Type} : Left H := { results := [], args := [] }

/-- 'laws.FnRates': WHATEVER THE INPUT: true; the input reads as it did. -/
def fnRatesSpec : ChangeSpec := { name := "fnRates", fn := fun _ => fun
  | [d1, d2] => { results := [.lit (.bool true)], args := [d1, d2] }
  | _ => none }
def fnRatesRow : OpenClaim := { program := "ytmhnceddhmdfoaa", sum := "620c17dae5225772f50a85c91d4012d26f743bba39c2924240c027b1647653fb", func := "loop.example/g01063/laws.FnRates", spec := "fnRates", unfollowed := true, recurses := true, apart := false }
def FnRatesSaid : Prop := fnRatesRow.holds Try.pinned (OpenSpec.ofChange fnRatesSpec)

/-- ITS FALSE NEIGHBOUR: 'it returns false'. Refute it at one input. -/
def fnRatesWrong : ChangeSpec := { name := "fnRates", fn := fun _ => fun
  | [d1, d2] => { results := [.lit (.bool false)], args := [d1, d2] }
  | _ => none }
def FnRatesWrongFalsely : Prop := fnRatesRow.holds Try.pinned (OpenSpec.ofChange fnRatesWrong)

/-- 'laws.FnExactIsName': WHATEVER THE INPUT: true; the input reads as it did. -/
def fnExactIsNameSpec : ChangeSpec := { name := "fnExactIsName", fn := fun _ => fun
  | [d] => { results := [.lit (.bool true)], args := [d] }
  | _ => none }
def fnExactIsNameRow : OpenClaim := { program := "ytmhnceddhmdfoaa", sum := "620c17dae5225772f50a85c91d4012d26f743bba39c2924240c027b1647653fb", func := "loop.example/g01063/laws.FnExactIsName", spec := "fnExactIsName", apart := false }
def FnExactIsNameSaid : Prop := fnExactIsNameRow.holds Try.pinned (OpenSpec.ofChange fnExactIsNameSpec)

/-- ITS FALSE NEIGHBOUR: 'it returns false'. Refute it at one input. -/
def fnExactIsNameWrong : ChangeSpec := { name := "fnExactIsName", fn := fun _ => fun
  | [d] => { results := [.lit (.bool false)], args := [d] }
  | _ => none }
def FnExactIsNameWrongFalsely : Prop := fnExactIsNameRow.holds Try.pinned (OpenSpec.ofChange fnExactIsNameWrong)

/-- 'laws.FnExactDecimal': WHATEVER THE INPUT: true; the input reads as it did. -/
def fnExactDecimalSpec : ChangeSpec := { name := "fnExactDecimal", fn := fun _ => fun
  | [d] => { results := [.lit (.bool true)], args := [d] }
  | _ => none }
def fnExactDecimalRow : OpenClaim := { program := "ytmhnceddhmdfoaa", sum := "620c17dae5225772f50a85c91d4012d26f743bba39c2924240c027b1647653fb", func := "loop.example/g01063/laws.FnExactDecimal", spec := "fnExactDecimal", inPlace := ["internal/abi.NoEscape"], recurses := true, apart := false }
def FnExactDecimalSaid : Prop := fnExactDecimalRow.holds Try.pinned (OpenSpec.ofChange fnExactDecimalSpec)

/-- ITS FALSE NEIGHBOUR: 'it returns false'. Refute it at one input. -/
def fnExactDecimalWrong : ChangeSpec := { name := "fnExactDecimal", fn := fun _ => fun
  | [d] => { results := [.lit (.bool false)], args := [d] }
  | _ => none }
def FnExactDecimalWrongFalsely : Prop := fnExactDecimalRow.holds Try.pinned (OpenSpec.ofChange fnExactDecimalWrong)

/-- 'laws.FnExactSplitWords': WHATEVER THE INPUT: true; the input reads as it did. -/
def fnExactSplitWordsSpec : ChangeSpec := { name := "fnExactSplitWords", fn := fun _ => fun
  | [d] => { results := [.lit (.bool true)], args := [d] }
  | _ => none }
def fnExactSplitWordsRow : OpenClaim := { program := "ytmhnceddhmdfoaa", sum := "620c17dae5225772f50a85c91d4012d26f743bba39c2924240c027b1647653fb", func := "loop.example/g01063/laws.FnExactSplitWords", spec := "fnExactSplitWords", unfollowed := true, recurses := true, apart := false }
def FnExactSplitWordsSaid : Prop := fnExactSplitWordsRow.holds Try.pinned (OpenSpec.ofChange fnExactSplitWordsSpec)

/-- ITS FALSE NEIGHBOUR: 'it returns false'. Refute it at one input. -/
def fnExactSplitWordsWrong : ChangeSpec := { name := "fnExactSplitWords", fn := fun _ => fun
  | [d] => { results := [.lit (.bool false)], args := [d] }
  | _ => none }
def FnExactSplitWordsWrongFalsely : Prop := fnExactSplitWordsRow.holds Try.pinned (OpenSpec.ofChange fnExactSplitWordsWrong)

/-- 'laws.FnExactValidFraction': WHATEVER THE INPUT: true; the input reads as it did. -/
def fnExactValidFractionSpec : ChangeSpec := { name := "fnExactValidFraction", fn := fun _ => fun
  | [d] => { results := [.lit (.bool true)], args := [d] }
  | _ => none }
def fnExactValidFractionRow : OpenClaim := { program := "ytmhnceddhmdfoaa", sum := "620c17dae5225772f50a85c91d4012d26f743bba39c2924240c027b1647653fb", func := "loop.example/g01063/laws.FnExactValidFraction", spec := "fnExactValidFraction", apart := false }
def FnExactValidFractionSaid : Prop := fnExactValidFractionRow.holds Try.pinned (OpenSpec.ofChange fnExactValidFractionSpec)

/-- ITS FALSE NEIGHBOUR: 'it returns false'. Refute it at one input. -/
def fnExactValidFractionWrong : ChangeSpec := { name := "fnExactValidFraction", fn := fun _ => fun
  | [d] => { results := [.lit (.bool false)], args := [d] }
  | _ => none }
def FnExactValidFractionWrongFalsely : Prop := fnExactValidFractionRow.holds Try.pinned (OpenSpec.ofChange fnExactValidFractionWrong)

/-- 'laws.FnExactMakeFraction': WHATEVER THE INPUT: true; the input reads as it did. -/
def fnExactMakeFractionSpec : ChangeSpec := { name := "fnExactMakeFraction", fn := fun _ => fun
  | [d1, d2] => { results := [.lit (.bool true)], args := [d1, d2] }
  | _ => none }
def fnExactMakeFractionRow : OpenClaim := { program := "ytmhnceddhmdfoaa", sum := "620c17dae5225772f50a85c91d4012d26f743bba39c2924240c027b1647653fb", func := "loop.example/g01063/laws.FnExactMakeFraction", spec := "fnExactMakeFraction", apart := false }
def FnExactMakeFractionSaid : Prop := fnExactMakeFractionRow.holds Try.pinned (OpenSpec.ofChange fnExactMakeFractionSpec)

/-- ITS FALSE NEIGHBOUR: 'it returns false'. Refute it at one input. -/
def fnExactMakeFractionWrong : ChangeSpec := { name := "fnExactMakeFraction", fn := fun _ => fun
  | [d1, d2] => { results := [.lit (.bool false)], args := [d1, d2] }
  | _ => none }
def FnExactMakeFractionWrongFalsely : Prop := fnExactMakeFractionRow.holds Try.pinned (OpenSpec.ofChange fnExactMakeFractionWrong)

/-- 'laws.FnExactAddFractions': WHATEVER THE INPUT: true; the input reads as it did. -/
def fnExactAddFractionsSpec : ChangeSpec := { name := "fnExactAddFractions", fn := fun _ => fun
  | [d1, d2] => { results := [.lit (.bool true)], args := [d1, d2] }
  | _ => none }
def fnExactAddFractionsRow : OpenClaim := { program := "ytmhnceddhmdfoaa", sum := "620c17dae5225772f50a85c91d4012d26f743bba39c2924240c027b1647653fb", func := "loop.example/g01063/laws.FnExactAddFractions", spec := "fnExactAddFractions", unfollowed := true, recurses := true, apart := false }
def FnExactAddFractionsSaid : Prop := fnExactAddFractionsRow.holds Try.pinned (OpenSpec.ofChange fnExactAddFractionsSpec)

/-- ITS FALSE NEIGHBOUR: 'it returns false'. Refute it at one input. -/
def fnExactAddFractionsWrong : ChangeSpec := { name := "fnExactAddFractions", fn := fun _ => fun
  | [d1, d2] => { results := [.lit (.bool false)], args := [d1, d2] }
  | _ => none }
def FnExactAddFractionsWrongFalsely : Prop := fnExactAddFractionsRow.holds Try.pinned (OpenSpec.ofChange fnExactAddFractionsWrong)

/-- 'laws.FnExactMultiplyFractions': WHATEVER THE INPUT: true; the input reads as it did. -/
def fnExactMultiplyFractionsSpec : ChangeSpec := { name := "fnExactMultiplyFractions", fn := fun _ => fun
  | [d1, d2] => { results := [.lit (.bool true)], args := [d1, d2] }
  | _ => none }
def fnExactMultiplyFractionsRow : OpenClaim := { program := "ytmhnceddhmdfoaa", sum := "620c17dae5225772f50a85c91d4012d26f743bba39c2924240c027b1647653fb", func := "loop.example/g01063/laws.FnExactMultiplyFractions", spec := "fnExactMultiplyFractions", unfollowed := true, recurses := true, apart := false }
def FnExactMultiplyFractionsSaid : Prop := fnExactMultiplyFractionsRow.holds Try.pinned (OpenSpec.ofChange fnExactMultiplyFractionsSpec)

/-- ITS FALSE NEIGHBOUR: 'it returns false'. Refute it at one input. -/
def fnExactMultiplyFractionsWrong : ChangeSpec := { name := "fnExactMultiplyFractions", fn := fun _ => fun
  | [d1, d2] => { results := [.lit (.bool false)], args := [d1, d2] }
  | _ => none }
def FnExactMultiplyFractionsWrongFalsely : Prop := fnExactMultiplyFractionsRow.holds Try.pinned (OpenSpec.ofChange fnExactMultiplyFractionsWrong)

/-- 'laws.FnExactCompareFractions': WHATEVER THE INPUT: true; the input reads as it did. -/
def fnExactCompareFractionsSpec : ChangeSpec := { name := "fnExactCompareFractions", fn := fun _ => fun
  | [d1, d2] => { results := [.lit (.bool true)], args := [d1, d2] }
  | _ => none }
def fnExactCompareFractionsRow : OpenClaim := { program := "ytmhnceddhmdfoaa", sum := "620c17dae5225772f50a85c91d4012d26f743bba39c2924240c027b1647653fb", func := "loop.example/g01063/laws.FnExactCompareFractions", spec := "fnExactCompareFractions", apart := false }
def FnExactCompareFractionsSaid : Prop := fnExactCompareFractionsRow.holds Try.pinned (OpenSpec.ofChange fnExactCompareFractionsSpec)

/-- ITS FALSE NEIGHBOUR: 'it returns false'. Refute it at one input. -/
def fnExactCompareFractionsWrong : ChangeSpec := { name := "fnExactCompareFractions", fn := fun _ => fun
  | [d1, d2] => { results := [.lit (.bool false)], args := [d1, d2] }
  | _ => none }
def FnExactCompareFractionsWrongFalsely : Prop := fnExactCompareFractionsRow.holds Try.pinned (OpenSpec.ofChange fnExactCompareFractionsWrong)

/-- 'laws.FnExactWholeTurns': WHATEVER THE INPUT: true; the input reads as it did. -/
def fnExactWholeTurnsSpec : ChangeSpec := { name := "fnExactWholeTurns", fn := fun _ => fun
  | [d1, d2] => { results := [.lit (.bool true)], args := [d1, d2] }
  | _ => none }
def fnExactWholeTurnsRow : OpenClaim := { program := "ytmhnceddhmdfoaa", sum := "620c17dae5225772f50a85c91d4012d26f743bba39c2924240c027b1647653fb", func := "loop.example/g01063/laws.FnExactWholeTurns", spec := "fnExactWholeTurns", apart := false }
def FnExactWholeTurnsSaid : Prop := fnExactWholeTurnsRow.holds Try.pinned (OpenSpec.ofChange fnExactWholeTurnsSpec)

/-- ITS FALSE NEIGHBOUR: 'it returns false'. Refute it at one input. -/
def fnExactWholeTurnsWrong : ChangeSpec := { name := "fnExactWholeTurns", fn := fun _ => fun
  | [d1, d2] => { results := [.lit (.bool false)], args := [d1, d2] }
  | _ => none }
def FnExactWholeTurnsWrongFalsely : Prop := fnExactWholeTurnsRow.holds Try.pinned (OpenSpec.ofChange fnExactWholeTurnsWrong)

/-- 'laws.FnExactGearedRate': WHATEVER THE INPUT: true; the input reads as it did. -/
def fnExactGearedRateSpec : ChangeSpec := { name := "fnExactGearedRate", fn := fun _ => fun
  | [d1, d2, d3] => { results := [.lit (.bool true)], args := [d1, d2, d3] }
  | _ => none }
def fnExactGearedRateRow : OpenClaim := { program := "ytmhnceddhmdfoaa", sum := "620c17dae5225772f50a85c91d4012d26f743bba39c2924240c027b1647653fb", func := "loop.example/g01063/laws.FnExactGearedRate", spec := "fnExactGearedRate", apart := false }
def FnExactGearedRateSaid : Prop := fnExactGearedRateRow.holds Try.pinned (OpenSpec.ofChange fnExactGearedRateSpec)

/-- ITS FALSE NEIGHBOUR: 'it returns false'. Refute it at one input. -/
def fnExactGearedRateWrong : ChangeSpec := { name := "fnExactGearedRate", fn := fun _ => fun
  | [d1, d2, d3] => { results := [.lit (.bool false)], args := [d1, d2, d3] }
  | _ => none }
def FnExactGearedRateWrongFalsely : Prop := fnExactGearedRateRow.holds Try.pinned (OpenSpec.ofChange fnExactGearedRateWrong)

/-- 'laws.FnExactBeatRate': WHATEVER THE INPUT: true; the input reads as it did. -/
def fnExactBeatRateSpec : ChangeSpec := { name := "fnExactBeatRate", fn := fun _ => fun
  | [d1, d2] => { results := [.lit (.bool true)], args := [d1, d2] }
  | _ => none }
def fnExactBeatRateRow : OpenClaim := { program := "ytmhnceddhmdfoaa", sum := "620c17dae5225772f50a85c91d4012d26f743bba39c2924240c027b1647653fb", func := "loop.example/g01063/laws.FnExactBeatRate", spec := "fnExactBeatRate", unfollowed := true, recurses := true, apart := false }
def FnExactBeatRateSaid : Prop := fnExactBeatRateRow.holds Try.pinned (OpenSpec.ofChange fnExactBeatRateSpec)

/-- ITS FALSE NEIGHBOUR: 'it returns false'. Refute it at one input. -/
def fnExactBeatRateWrong : ChangeSpec := { name := "fnExactBeatRate", fn := fun _ => fun
  | [d1, d2] => { results := [.lit (.bool false)], args := [d1, d2] }
  | _ => none }
def FnExactBeatRateWrongFalsely : Prop := fnExactBeatRateRow.holds Try.pinned (OpenSpec.ofChange fnExactBeatRateWrong)

/-- 'laws.FnExactCommonTime': WHATEVER THE INPUT: true; the input reads as it did. -/
def fnExactCommonTimeSpec : ChangeSpec := { name := "fnExactCommonTime", fn := fun _ => fun
  | [d1, d2] => { results := [.lit (.bool true)], args := [d1, d2] }
  | _ => none }
def fnExactCommonTimeRow : OpenClaim := { program := "ytmhnceddhmdfoaa", sum := "620c17dae5225772f50a85c91d4012d26f743bba39c2924240c027b1647653fb", func := "loop.example/g01063/laws.FnExactCommonTime", spec := "fnExactCommonTime", unfollowed := true, recurses := true, apart := false }
def FnExactCommonTimeSaid : Prop := fnExactCommonTimeRow.holds Try.pinned (OpenSpec.ofChange fnExactCommonTimeSpec)

/-- ITS FALSE NEIGHBOUR: 'it returns false'. Refute it at one input. -/
def fnExactCommonTimeWrong : ChangeSpec := { name := "fnExactCommonTime", fn := fun _ => fun
  | [d1, d2] => { results := [.lit (.bool false)], args := [d1, d2] }
  | _ => none }
def FnExactCommonTimeWrongFalsely : Prop := fnExactCommonTimeRow.holds Try.pinned (OpenSpec.ofChange fnExactCommonTimeWrong)

/-- 'laws.FnExactFractionText': WHATEVER THE INPUT: true; the input reads as it did. -/
def fnExactFractionTextSpec : ChangeSpec := { name := "fnExactFractionText", fn := fun _ => fun
  | [d] => { results := [.lit (.bool true)], args := [d] }
  | _ => none }
def fnExactFractionTextRow : OpenClaim := { program := "ytmhnceddhmdfoaa", sum := "620c17dae5225772f50a85c91d4012d26f743bba39c2924240c027b1647653fb", func := "loop.example/g01063/laws.FnExactFractionText", spec := "fnExactFractionText", inPlace := ["internal/abi.NoEscape"], recurses := true, apart := false }
def FnExactFractionTextSaid : Prop := fnExactFractionTextRow.holds Try.pinned (OpenSpec.ofChange fnExactFractionTextSpec)

/-- ITS FALSE NEIGHBOUR: 'it returns false'. Refute it at one input. -/
def fnExactFractionTextWrong : ChangeSpec := { name := "fnExactFractionText", fn := fun _ => fun
  | [d] => { results := [.lit (.bool false)], args := [d] }
  | _ => none }
def FnExactFractionTextWrongFalsely : Prop := fnExactFractionTextRow.holds Try.pinned (OpenSpec.ofChange fnExactFractionTextWrong)

/- THE SECOND FORM. 'bulk': how many values and letters a reading holds, each counted each time it is reached (what is shared counts as often as it is met; a slice's spare places count too). A statement '..UptoSaid' is the law's where the arguments, and the package variables that the reading takes, are together of bulk at most 1048576: NARROWER than '..Said'. Prove '..Said' where nothing that the law and all that it calls make is longer than what came in: it says more and counts as full. Else prove '..UptoSaid'. A law counts once. -/
mutual
def uptoBulk {H : Type} : DataW H → Nat
  | .lit (.string bytes) => bytes.length + 1
  | .lit _ => 1
  | .nil => 1
  | .ptr d => uptoBulk d + 1
  | .slice elems spare => uptoBulkAll elems + uptoBulkAll spare + 1
  | .agg parts => uptoBulkAll parts + 1
  | .iface _ d => uptoBulk d + 1
  | .map entries => uptoBulkEntries entries + 1
  | .held _ => 1
def uptoBulkAll {H : Type} : List (DataW H) → Nat
  | [] => 0
  | d :: r => uptoBulk d + uptoBulkAll r
def uptoBulkEntries {H : Type} : List (Lit × DataW H) → Nat
  | [] => 0
  | x :: r => uptoBulkEntry x + uptoBulkEntries r
def uptoBulkEntry {H : Type} : Lit × DataW H → Nat
  | (.string bytes, d) => bytes.length + uptoBulk d + 1
  | (_, d) => uptoBulk d + 1
 end
def uptoSmall : (H : Type) → List (DataW H) → Bool := fun _ ds => decide (uptoBulkAll ds ≤ 1048576)
def OpenSpec.upto (s : _root_.Go.ChangeSpec) : _root_.Go.OpenSpec := { _root_.Go.OpenSpec.ofChange s with cond := some uptoSmall }

/-- 'laws.FnRates', WHERE WHAT IT READS IS OF BULK AT MOST 1048576: true; the input reads as it did. -/
def fnRatesUptoRow : OpenClaim := { program := "ytmhnceddhmdfoaa", sum := "620c17dae5225772f50a85c91d4012d26f743bba39c2924240c027b1647653fb", func := "loop.example/g01063/laws.FnRates", spec := "fnRates", unfollowed := true, recurses := true, apart := false, narrowed := true }
def FnRatesUptoSaid : Prop := fnRatesUptoRow.holds Try.pinned (OpenSpec.upto fnRatesSpec)

/-- 'laws.FnExactIsName', WHERE WHAT IT READS IS OF BULK AT MOST 1048576: true; the input reads as it did. -/
def fnExactIsNameUptoRow : OpenClaim := { program := "ytmhnceddhmdfoaa", sum := "620c17dae5225772f50a85c91d4012d26f743bba39c2924240c027b1647653fb", func := "loop.example/g01063/laws.FnExactIsName", spec := "fnExactIsName", apart := false, narrowed := true }
def FnExactIsNameUptoSaid : Prop := fnExactIsNameUptoRow.holds Try.pinned (OpenSpec.upto fnExactIsNameSpec)

/-- 'laws.FnExactDecimal', WHERE WHAT IT READS IS OF BULK AT MOST 1048576: true; the input reads as it did. -/
def fnExactDecimalUptoRow : OpenClaim := { program := "ytmhnceddhmdfoaa", sum := "620c17dae5225772f50a85c91d4012d26f743bba39c2924240c027b1647653fb", func := "loop.example/g01063/laws.FnExactDecimal", spec := "fnExactDecimal", inPlace := ["internal/abi.NoEscape"], recurses := true, apart := false, narrowed := true }
def FnExactDecimalUptoSaid : Prop := fnExactDecimalUptoRow.holds Try.pinned (OpenSpec.upto fnExactDecimalSpec)

/-- 'laws.FnExactSplitWords', WHERE WHAT IT READS IS OF BULK AT MOST 1048576: true; the input reads as it did. -/
def fnExactSplitWordsUptoRow : OpenClaim := { program := "ytmhnceddhmdfoaa", sum := "620c17dae5225772f50a85c91d4012d26f743bba39c2924240c027b1647653fb", func := "loop.example/g01063/laws.FnExactSplitWords", spec := "fnExactSplitWords", unfollowed := true, recurses := true, apart := false, narrowed := true }
def FnExactSplitWordsUptoSaid : Prop := fnExactSplitWordsUptoRow.holds Try.pinned (OpenSpec.upto fnExactSplitWordsSpec)

/-- 'laws.FnExactValidFraction', WHERE WHAT IT READS IS OF BULK AT MOST 1048576: true; the input reads as it did. -/
def fnExactValidFractionUptoRow : OpenClaim := { program := "ytmhnceddhmdfoaa", sum := "620c17dae5225772f50a85c91d4012d26f743bba39c2924240c027b1647653fb", func := "loop.example/g01063/laws.FnExactValidFraction", spec := "fnExactValidFraction", apart := false, narrowed := true }
def FnExactValidFractionUptoSaid : Prop := fnExactValidFractionUptoRow.holds Try.pinned (OpenSpec.upto fnExactValidFractionSpec)

/-- 'laws.FnExactMakeFraction', WHERE WHAT IT READS IS OF BULK AT MOST 1048576: true; the input reads as it did. -/
def fnExactMakeFractionUptoRow : OpenClaim := { program := "ytmhnceddhmdfoaa", sum := "620c17dae5225772f50a85c91d4012d26f743bba39c2924240c027b1647653fb", func := "loop.example/g01063/laws.FnExactMakeFraction", spec := "fnExactMakeFraction", apart := false, narrowed := true }
def FnExactMakeFractionUptoSaid : Prop := fnExactMakeFractionUptoRow.holds Try.pinned (OpenSpec.upto fnExactMakeFractionSpec)

/-- 'laws.FnExactAddFractions', WHERE WHAT IT READS IS OF BULK AT MOST 1048576: true; the input reads as it did. -/
def fnExactAddFractionsUptoRow : OpenClaim := { program := "ytmhnceddhmdfoaa", sum := "620c17dae5225772f50a85c91d4012d26f743bba39c2924240c027b1647653fb", func := "loop.example/g01063/laws.FnExactAddFractions", spec := "fnExactAddFractions", unfollowed := true, recurses := true, apart := false, narrowed := true }
def FnExactAddFractionsUptoSaid : Prop := fnExactAddFractionsUptoRow.holds Try.pinned (OpenSpec.upto fnExactAddFractionsSpec)

/-- 'laws.FnExactMultiplyFractions', WHERE WHAT IT READS IS OF BULK AT MOST 1048576: true; the input reads as it did. -/
def fnExactMultiplyFractionsUptoRow : OpenClaim := { program := "ytmhnceddhmdfoaa", sum := "620c17dae5225772f50a85c91d4012d26f743bba39c2924240c027b1647653fb", func := "loop.example/g01063/laws.FnExactMultiplyFractions", spec := "fnExactMultiplyFractions", unfollowed := true, recurses := true, apart := false, narrowed := true }
def FnExactMultiplyFractionsUptoSaid : Prop := fnExactMultiplyFractionsUptoRow.holds Try.pinned (OpenSpec.upto fnExactMultiplyFractionsSpec)

/-- 'laws.FnExactCompareFractions', WHERE WHAT IT READS IS OF BULK AT MOST 1048576: true; the input reads as it did. -/
def fnExactCompareFractionsUptoRow : OpenClaim := { program := "ytmhnceddhmdfoaa", sum := "620c17dae5225772f50a85c91d4012d26f743bba39c2924240c027b1647653fb", func := "loop.example/g01063/laws.FnExactCompareFractions", spec := "fnExactCompareFractions", apart := false, narrowed := true }
def FnExactCompareFractionsUptoSaid : Prop := fnExactCompareFractionsUptoRow.holds Try.pinned (OpenSpec.upto fnExactCompareFractionsSpec)

/-- 'laws.FnExactWholeTurns', WHERE WHAT IT READS IS OF BULK AT MOST 1048576: true; the input reads as it did. -/
def fnExactWholeTurnsUptoRow : OpenClaim := { program := "ytmhnceddhmdfoaa", sum := "620c17dae5225772f50a85c91d4012d26f743bba39c2924240c027b1647653fb", func := "loop.example/g01063/laws.FnExactWholeTurns", spec := "fnExactWholeTurns", apart := false, narrowed := true }
def FnExactWholeTurnsUptoSaid : Prop := fnExactWholeTurnsUptoRow.holds Try.pinned (OpenSpec.upto fnExactWholeTurnsSpec)

/-- 'laws.FnExactGearedRate', WHERE WHAT IT READS IS OF BULK AT MOST 1048576: true; the input reads as it did. -/
def fnExactGearedRateUptoRow : OpenClaim := { program := "ytmhnceddhmdfoaa", sum := "620c17dae5225772f50a85c91d4012d26f743bba39c2924240c027b1647653fb", func := "loop.example/g01063/laws.FnExactGearedRate", spec := "fnExactGearedRate", apart := false, narrowed := true }
def FnExactGearedRateUptoSaid : Prop := fnExactGearedRateUptoRow.holds Try.pinned (OpenSpec.upto fnExactGearedRateSpec)

/-- 'laws.FnExactBeatRate', WHERE WHAT IT READS IS OF BULK AT MOST 1048576: true; the input reads as it did. -/
def fnExactBeatRateUptoRow : OpenClaim := { program := "ytmhnceddhmdfoaa", sum := "620c17dae5225772f50a85c91d4012d26f743bba39c2924240c027b1647653fb", func := "loop.example/g01063/laws.FnExactBeatRate", spec := "fnExactBeatRate", unfollowed := true, recurses := true, apart := false, narrowed := true }
def FnExactBeatRateUptoSaid : Prop := fnExactBeatRateUptoRow.holds Try.pinned (OpenSpec.upto fnExactBeatRateSpec)

/-- 'laws.FnExactCommonTime', WHERE WHAT IT READS IS OF BULK AT MOST 1048576: true; the input reads as it did. -/
def fnExactCommonTimeUptoRow : OpenClaim := { program := "ytmhnceddhmdfoaa", sum := "620c17dae5225772f50a85c91d4012d26f743bba39c2924240c027b1647653fb", func := "loop.example/g01063/laws.FnExactCommonTime", spec := "fnExactCommonTime", unfollowed := true, recurses := true, apart := false, narrowed := true }
def FnExactCommonTimeUptoSaid : Prop := fnExactCommonTimeUptoRow.holds Try.pinned (OpenSpec.upto fnExactCommonTimeSpec)

/-- 'laws.FnExactFractionText', WHERE WHAT IT READS IS OF BULK AT MOST 1048576: true; the input reads as it did. -/
def fnExactFractionTextUptoRow : OpenClaim := { program := "ytmhnceddhmdfoaa", sum := "620c17dae5225772f50a85c91d4012d26f743bba39c2924240c027b1647653fb", func := "loop.example/g01063/laws.FnExactFractionText", spec := "fnExactFractionText", inPlace := ["internal/abi.NoEscape"], recurses := true, apart := false, narrowed := true }
def FnExactFractionTextUptoSaid : Prop := fnExactFractionTextUptoRow.holds Try.pinned (OpenSpec.upto fnExactFractionTextSpec)

end Rows
end Go.Proofs.Ytmhnceddhmdfoaa
