/-
  No cell of these rows narrows 'for every input' (looked for: loops, veiled, ifaces, maps, wideKeys, modest, calm, conditions, laid).
  DERIVED. THE GIVEN ROWS OF THIS SEAT. 10 by the template 'for every input the law returns true; each argument reads behind the call as it read before'; 0 by the template 'total and deterministic' (their statements: YthphihfcgpoefaaTotals.lean).
  GIVEN WITH THE SEED: the statements are not yours to turn. If you find one false, say at which input.
  Laid BY PROGRAM, IN A SANDBOX (cutbox-rows.mjs): the forced cells as the released guide's own fill.sh prints them over the translation f467a164a130fd81… (all of the seat's roots in one cut). By AI agents, Wed Nov 11 2026. No macro, syntax, notation, axiom, sorry.
-/
import Derived.Test.YthphihfcgpoefaaChecked
import GoSem.Claim
import GoSem.ClaimJoined
import GoSem.ClaimMapViews
import Derived.JoinedTies
import Derived.KernelRfl
namespace Go.Proofs.Ythphihfcgpoefaa
/- THE CELL 'sum', in the pinned program and in every row, IS THE sha256 OF THE DUMP (.gsa) THAT YthphihfcgpoefaaProg.lean LOADS. Nothing in Lean hashes anything: it is a label: what it is worth is what the hold of that sum in a sandbox is worth. -/
noncomputable def Try.pinned : Pinned := { name := "ythphihfcgpoefaa", sum := "f467a164a130fd81be05372a0a285cc22aaa821f6aa0566835f9a8ac4a42f42a", checked := Try.checked }
namespace Rows
def none {H : Type} : Left H := { results := [], args := [] }

/-- 'laws.FnExactValidDrum': WHATEVER THE INPUT: true; the input reads as it did. -/
def fnExactValidDrumSpec : ChangeSpec := { name := "fnExactValidDrum", fn := fun _ => fun
  | [d] => { results := [.lit (.bool true)], args := [d] }
  | _ => none }
def fnExactValidDrumRow : OpenClaim := { program := "ythphihfcgpoefaa", sum := "f467a164a130fd81be05372a0a285cc22aaa821f6aa0566835f9a8ac4a42f42a", func := "loop.example/g01063/laws.FnExactValidDrum", spec := "fnExactValidDrum", apart := false }
def FnExactValidDrumSaid : Prop := fnExactValidDrumRow.holds Try.pinned (OpenSpec.ofChange fnExactValidDrumSpec)

/-- ITS FALSE NEIGHBOUR: 'it returns false'. Refute it at one input. -/
def fnExactValidDrumWrong : ChangeSpec := { name := "fnExactValidDrum", fn := fun _ => fun
  | [d] => { results := [.lit (.bool false)], args := [d] }
  | _ => none }
def FnExactValidDrumWrongFalsely : Prop := fnExactValidDrumRow.holds Try.pinned (OpenSpec.ofChange fnExactValidDrumWrong)

/-- 'laws.FnExactStripFor': WHATEVER THE INPUT: true; the input reads as it did. -/
def fnExactStripForSpec : ChangeSpec := { name := "fnExactStripFor", fn := fun _ => fun
  | [d1, d2] => { results := [.lit (.bool true)], args := [d1, d2] }
  | _ => none }
def fnExactStripForRow : OpenClaim := { program := "ythphihfcgpoefaa", sum := "f467a164a130fd81be05372a0a285cc22aaa821f6aa0566835f9a8ac4a42f42a", func := "loop.example/g01063/laws.FnExactStripFor", spec := "fnExactStripFor", apart := false }
def FnExactStripForSaid : Prop := fnExactStripForRow.holds Try.pinned (OpenSpec.ofChange fnExactStripForSpec)

/-- ITS FALSE NEIGHBOUR: 'it returns false'. Refute it at one input. -/
def fnExactStripForWrong : ChangeSpec := { name := "fnExactStripFor", fn := fun _ => fun
  | [d1, d2] => { results := [.lit (.bool false)], args := [d1, d2] }
  | _ => none }
def FnExactStripForWrongFalsely : Prop := fnExactStripForRow.holds Try.pinned (OpenSpec.ofChange fnExactStripForWrong)

/-- 'laws.FnExactPlacesOf': WHATEVER THE INPUT: true; the input reads as it did. -/
def fnExactPlacesOfSpec : ChangeSpec := { name := "fnExactPlacesOf", fn := fun _ => fun
  | [d1, d2] => { results := [.lit (.bool true)], args := [d1, d2] }
  | _ => none }
def fnExactPlacesOfRow : OpenClaim := { program := "ythphihfcgpoefaa", sum := "f467a164a130fd81be05372a0a285cc22aaa821f6aa0566835f9a8ac4a42f42a", func := "loop.example/g01063/laws.FnExactPlacesOf", spec := "fnExactPlacesOf", unfollowed := true, recurses := true, leaving := true, apart := false }
def FnExactPlacesOfSaid : Prop := fnExactPlacesOfRow.holds Try.pinned (OpenSpec.ofChange fnExactPlacesOfSpec)

/-- ITS FALSE NEIGHBOUR: 'it returns false'. Refute it at one input. -/
def fnExactPlacesOfWrong : ChangeSpec := { name := "fnExactPlacesOf", fn := fun _ => fun
  | [d1, d2] => { results := [.lit (.bool false)], args := [d1, d2] }
  | _ => none }
def FnExactPlacesOfWrongFalsely : Prop := fnExactPlacesOfRow.holds Try.pinned (OpenSpec.ofChange fnExactPlacesOfWrong)

/-- 'laws.FnExactSlitPlaces': WHATEVER THE INPUT: true; the input reads as it did. -/
def fnExactSlitPlacesSpec : ChangeSpec := { name := "fnExactSlitPlaces", fn := fun _ => fun
  | [d] => { results := [.lit (.bool true)], args := [d] }
  | _ => none }
def fnExactSlitPlacesRow : OpenClaim := { program := "ythphihfcgpoefaa", sum := "f467a164a130fd81be05372a0a285cc22aaa821f6aa0566835f9a8ac4a42f42a", func := "loop.example/g01063/laws.FnExactSlitPlaces", spec := "fnExactSlitPlaces", unfollowed := true, recurses := true, leaving := true, apart := false }
def FnExactSlitPlacesSaid : Prop := fnExactSlitPlacesRow.holds Try.pinned (OpenSpec.ofChange fnExactSlitPlacesSpec)

/-- ITS FALSE NEIGHBOUR: 'it returns false'. Refute it at one input. -/
def fnExactSlitPlacesWrong : ChangeSpec := { name := "fnExactSlitPlaces", fn := fun _ => fun
  | [d] => { results := [.lit (.bool false)], args := [d] }
  | _ => none }
def FnExactSlitPlacesWrongFalsely : Prop := fnExactSlitPlacesRow.holds Try.pinned (OpenSpec.ofChange fnExactSlitPlacesWrong)

/-- 'laws.FnExactWidestPicture': WHATEVER THE INPUT: true; the input reads as it did. -/
def fnExactWidestPictureSpec : ChangeSpec := { name := "fnExactWidestPicture", fn := fun _ => fun
  | [d1, d2, d3] => { results := [.lit (.bool true)], args := [d1, d2, d3] }
  | _ => none }
def fnExactWidestPictureRow : OpenClaim := { program := "ythphihfcgpoefaa", sum := "f467a164a130fd81be05372a0a285cc22aaa821f6aa0566835f9a8ac4a42f42a", func := "loop.example/g01063/laws.FnExactWidestPicture", spec := "fnExactWidestPicture", apart := false }
def FnExactWidestPictureSaid : Prop := fnExactWidestPictureRow.holds Try.pinned (OpenSpec.ofChange fnExactWidestPictureSpec)

/-- ITS FALSE NEIGHBOUR: 'it returns false'. Refute it at one input. -/
def fnExactWidestPictureWrong : ChangeSpec := { name := "fnExactWidestPicture", fn := fun _ => fun
  | [d1, d2, d3] => { results := [.lit (.bool false)], args := [d1, d2, d3] }
  | _ => none }
def FnExactWidestPictureWrongFalsely : Prop := fnExactWidestPictureRow.holds Try.pinned (OpenSpec.ofChange fnExactWidestPictureWrong)

/-- 'laws.FnExactStripsFrom': WHATEVER THE INPUT: true; the input reads as it did. -/
def fnExactStripsFromSpec : ChangeSpec := { name := "fnExactStripsFrom", fn := fun _ => fun
  | [d1, d2, d3, d4] => { results := [.lit (.bool true)], args := [d1, d2, d3, d4] }
  | _ => none }
def fnExactStripsFromRow : OpenClaim := { program := "ythphihfcgpoefaa", sum := "f467a164a130fd81be05372a0a285cc22aaa821f6aa0566835f9a8ac4a42f42a", func := "loop.example/g01063/laws.FnExactStripsFrom", spec := "fnExactStripsFrom", apart := false }
def FnExactStripsFromSaid : Prop := fnExactStripsFromRow.holds Try.pinned (OpenSpec.ofChange fnExactStripsFromSpec)

/-- ITS FALSE NEIGHBOUR: 'it returns false'. Refute it at one input. -/
def fnExactStripsFromWrong : ChangeSpec := { name := "fnExactStripsFrom", fn := fun _ => fun
  | [d1, d2, d3, d4] => { results := [.lit (.bool false)], args := [d1, d2, d3, d4] }
  | _ => none }
def FnExactStripsFromWrongFalsely : Prop := fnExactStripsFromRow.holds Try.pinned (OpenSpec.ofChange fnExactStripsFromWrong)

/-- 'laws.FnExactPiecesFor': WHATEVER THE INPUT: true; the input reads as it did. -/
def fnExactPiecesForSpec : ChangeSpec := { name := "fnExactPiecesFor", fn := fun _ => fun
  | [d1, d2, d3] => { results := [.lit (.bool true)], args := [d1, d2, d3] }
  | _ => none }
def fnExactPiecesForRow : OpenClaim := { program := "ythphihfcgpoefaa", sum := "f467a164a130fd81be05372a0a285cc22aaa821f6aa0566835f9a8ac4a42f42a", func := "loop.example/g01063/laws.FnExactPiecesFor", spec := "fnExactPiecesFor", apart := false }
def FnExactPiecesForSaid : Prop := fnExactPiecesForRow.holds Try.pinned (OpenSpec.ofChange fnExactPiecesForSpec)

/-- ITS FALSE NEIGHBOUR: 'it returns false'. Refute it at one input. -/
def fnExactPiecesForWrong : ChangeSpec := { name := "fnExactPiecesFor", fn := fun _ => fun
  | [d1, d2, d3] => { results := [.lit (.bool false)], args := [d1, d2, d3] }
  | _ => none }
def FnExactPiecesForWrongFalsely : Prop := fnExactPiecesForRow.holds Try.pinned (OpenSpec.ofChange fnExactPiecesForWrong)

/-- 'laws.FnExactWorstSlit': WHATEVER THE INPUT: true; the input reads as it did. -/
def fnExactWorstSlitSpec : ChangeSpec := { name := "fnExactWorstSlit", fn := fun _ => fun
  | [d1, d2] => { results := [.lit (.bool true)], args := [d1, d2] }
  | _ => none }
def fnExactWorstSlitRow : OpenClaim := { program := "ythphihfcgpoefaa", sum := "f467a164a130fd81be05372a0a285cc22aaa821f6aa0566835f9a8ac4a42f42a", func := "loop.example/g01063/laws.FnExactWorstSlit", spec := "fnExactWorstSlit", unfollowed := true, recurses := true, leaving := true, apart := false }
def FnExactWorstSlitSaid : Prop := fnExactWorstSlitRow.holds Try.pinned (OpenSpec.ofChange fnExactWorstSlitSpec)

/-- ITS FALSE NEIGHBOUR: 'it returns false'. Refute it at one input. -/
def fnExactWorstSlitWrong : ChangeSpec := { name := "fnExactWorstSlit", fn := fun _ => fun
  | [d1, d2] => { results := [.lit (.bool false)], args := [d1, d2] }
  | _ => none }
def FnExactWorstSlitWrongFalsely : Prop := fnExactWorstSlitRow.holds Try.pinned (OpenSpec.ofChange fnExactWorstSlitWrong)

/-- 'laws.FnExactDrumText': WHATEVER THE INPUT: true; the input reads as it did. -/
def fnExactDrumTextSpec : ChangeSpec := { name := "fnExactDrumText", fn := fun _ => fun
  | [d] => { results := [.lit (.bool true)], args := [d] }
  | _ => none }
def fnExactDrumTextRow : OpenClaim := { program := "ythphihfcgpoefaa", sum := "f467a164a130fd81be05372a0a285cc22aaa821f6aa0566835f9a8ac4a42f42a", func := "loop.example/g01063/laws.FnExactDrumText", spec := "fnExactDrumText", inPlace := ["internal/abi.NoEscape"], recurses := true, apart := false }
def FnExactDrumTextSaid : Prop := fnExactDrumTextRow.holds Try.pinned (OpenSpec.ofChange fnExactDrumTextSpec)

/-- ITS FALSE NEIGHBOUR: 'it returns false'. Refute it at one input. -/
def fnExactDrumTextWrong : ChangeSpec := { name := "fnExactDrumText", fn := fun _ => fun
  | [d] => { results := [.lit (.bool false)], args := [d] }
  | _ => none }
def FnExactDrumTextWrongFalsely : Prop := fnExactDrumTextRow.holds Try.pinned (OpenSpec.ofChange fnExactDrumTextWrong)

/-- 'laws.FnStrips': WHATEVER THE INPUT: true; the input reads as it did. -/
def fnStripsSpec : ChangeSpec := { name := "fnStrips", fn := fun _ => fun
  | [d] => { results := [.lit (.bool true)], args := [d] }
  | _ => none }
def fnStripsRow : OpenClaim := { program := "ythphihfcgpoefaa", sum := "f467a164a130fd81be05372a0a285cc22aaa821f6aa0566835f9a8ac4a42f42a", func := "loop.example/g01063/laws.FnStrips", spec := "fnStrips", apart := false }
def FnStripsSaid : Prop := fnStripsRow.holds Try.pinned (OpenSpec.ofChange fnStripsSpec)

/-- ITS FALSE NEIGHBOUR: 'it returns false'. Refute it at one input. -/
def fnStripsWrong : ChangeSpec := { name := "fnStrips", fn := fun _ => fun
  | [d] => { results := [.lit (.bool false)], args := [d] }
  | _ => none }
def FnStripsWrongFalsely : Prop := fnStripsRow.holds Try.pinned (OpenSpec.ofChange fnStripsWrong)

/- THE SECOND FORM. 'bulk': how many values and letters a reading holds, each counted each time it is reached (what is shared counts as often as it is met; a slice's spare places count too). A statement '..UptoSaid' is the law's where the arguments, and the package variables that the reading takes, are together of bulk at most 1048576: NARROWER than '..Said'. Prove '..Said' where nothing that the law and all that it calls make is longer than what came in: it says more and counts as full. Else prove '..UptoSaid'. A law counts once. -/
mutual
def uptoBulk {H : Type} : DataW H → Nat
  | .lit (.string bytes) => bytes.length + 1
  | .lit _ => 1
  | .nil => 1
  | .ptr d => uptoBulk d + 1
  | .slice elems spare => uptoBulkAll elems + uptoBulkAll spare + 1
  | .agg parts => uptoBulkAll parts + 1
  | .iface _ d => uptoBulk d + 1
  | .map entries => uptoBulkEntries entries + 1
  | .held _ => 1
def uptoBulkAll {H : Type} : List (DataW H) → Nat
  | [] => 0
  | d :: r => uptoBulk d + uptoBulkAll r
def uptoBulkEntries {H : Type} : List (Lit × DataW H) → Nat
  | [] => 0
  | x :: r => uptoBulkEntry x + uptoBulkEntries r
def uptoBulkEntry {H : Type} : Lit × DataW H → Nat
  | (.string bytes, d) => bytes.length + uptoBulk d + 1
  | (_, d) => uptoBulk d + 1
 end
def uptoSmall : (H : Type) → List (DataW H) → Bool := fun _ ds => decide (uptoBulkAll ds ≤ 1048576)
def OpenSpec.upto (s : _root_.Go.ChangeSpec) : _root_.Go.OpenSpec := { _root_.Go.OpenSpec.ofChange s with cond := some uptoSmall }

/-- 'laws.FnExactValidDrum', WHERE WHAT IT READS IS OF BULK AT MOST 1048576: true; the input reads as it did. -/
def fnExactValidDrumUptoRow : OpenClaim := { program := "ythphihfcgpoefaa", sum := "f467a164a130fd81be05372a0a285cc22aaa821f6aa0566835f9a8ac4a42f42a", func := "loop.example/g01063/laws.FnExactValidDrum", spec := "fnExactValidDrum", apart := false, narrowed := true }
def FnExactValidDrumUptoSaid : Prop := fnExactValidDrumUptoRow.holds Try.pinned (OpenSpec.upto fnExactValidDrumSpec)

/-- 'laws.FnExactStripFor', WHERE WHAT IT READS IS OF BULK AT MOST 1048576: true; the input reads as it did. -/
def fnExactStripForUptoRow : OpenClaim := { program := "ythphihfcgpoefaa", sum := "f467a164a130fd81be05372a0a285cc22aaa821f6aa0566835f9a8ac4a42f42a", func := "loop.example/g01063/laws.FnExactStripFor", spec := "fnExactStripFor", apart := false, narrowed := true }
def FnExactStripForUptoSaid : Prop := fnExactStripForUptoRow.holds Try.pinned (OpenSpec.upto fnExactStripForSpec)

/-- 'laws.FnExactPlacesOf', WHERE WHAT IT READS IS OF BULK AT MOST 1048576: true; the input reads as it did. -/
def fnExactPlacesOfUptoRow : OpenClaim := { program := "ythphihfcgpoefaa", sum := "f467a164a130fd81be05372a0a285cc22aaa821f6aa0566835f9a8ac4a42f42a", func := "loop.example/g01063/laws.FnExactPlacesOf", spec := "fnExactPlacesOf", unfollowed := true, recurses := true, leaving := true, apart := false, narrowed := true }
def FnExactPlacesOfUptoSaid : Prop := fnExactPlacesOfUptoRow.holds Try.pinned (OpenSpec.upto fnExactPlacesOfSpec)

/-- 'laws.FnExactSlitPlaces', WHERE WHAT IT READS IS OF BULK AT MOST 1048576: true; the input reads as it did. -/
def fnExactSlitPlacesUptoRow : OpenClaim := { program := "ythphihfcgpoefaa", sum := "f467a164a130fd81be05372a0a285cc22aaa821f6aa0566835f9a8ac4a42f42a", func := "loop.example/g01063/laws.FnExactSlitPlaces", spec := "fnExactSlitPlaces", unfollowed := true, recurses := true, leaving := true, apart := false, narrowed := true }
def FnExactSlitPlacesUptoSaid : Prop := fnExactSlitPlacesUptoRow.holds Try.pinned (OpenSpec.upto fnExactSlitPlacesSpec)

/-- 'laws.FnExactWidestPicture', WHERE WHAT IT READS IS OF BULK AT MOST 1048576: true; the input reads as it did. -/
def fnExactWidestPictureUptoRow : OpenClaim := { program := "ythphihfcgpoefaa", sum := "f467a164a130fd81be05372a0a285cc22aaa821f6aa0566835f9a8ac4a42f42a", func := "loop.example/g01063/laws.FnExactWidestPicture", spec := "fnExactWidestPicture", apart := false, narrowed := true }
def FnExactWidestPictureUptoSaid : Prop := fnExactWidestPictureUptoRow.holds Try.pinned (OpenSpec.upto fnExactWidestPictureSpec)

/-- 'laws.FnExactStripsFrom', WHERE WHAT IT READS IS OF BULK AT MOST 1048576: true; the input reads as it did. -/
def fnExactStripsFromUptoRow : OpenClaim := { program := "ythphihfcgpoefaa", sum := "f467a164a130fd81be05372a0a285cc22aaa821f6aa0566835f9a8ac4a42f42a", func := "loop.example/g01063/laws.FnExactStripsFrom", spec := "fnExactStripsFrom", apart := false, narrowed := true }
def FnExactStripsFromUptoSaid : Prop := fnExactStripsFromUptoRow.holds Try.pinned (OpenSpec.upto fnExactStripsFromSpec)

/-- 'laws.FnExactPiecesFor', WHERE WHAT IT READS IS OF BULK AT MOST 1048576: true; the input reads as it did. -/
def fnExactPiecesForUptoRow : OpenClaim := { program := "ythphihfcgpoefaa", sum := "f467a164a130fd81be05372a0a285cc22aaa821f6aa0566835f9a8ac4a42f42a", func := "loop.example/g01063/laws.FnExactPiecesFor", spec := "fnExactPiecesFor", apart := false, narrowed := true }
def FnExactPiecesForUptoSaid : Prop := fnExactPiecesForUptoRow.holds Try.pinned (OpenSpec.upto fnExactPiecesForSpec)

/-- 'laws.FnExactWorstSlit', WHERE WHAT IT READS IS OF BULK AT MOST 1048576: true; the input reads as it did. -/
def fnExactWorstSlitUptoRow : OpenClaim := { program := "ythphihfcgpoefaa", sum := "f467a164a130fd81be05372a0a285cc22aaa821f6aa0566835f9a8ac4a42f42a", func := "loop.example/g01063/laws.FnExactWorstSlit", spec := "fnExactWorstSlit", unfollowed := true, recurses := true, leaving := true, apart := false, narrowed := true }
def FnExactWorstSlitUptoSaid : Prop := fnExactWorstSlitUptoRow.holds Try.pinned (OpenSpec.upto fnExactWorstSlitSpec)

/-- 'laws.FnExactDrumText', WHERE WHAT IT READS IS OF BULK AT MOST 1048576: true; the input reads as it did. -/
def fnExactDrumTextUptoRow : OpenClaim := { program := "ythphihfcgpoefaa", sum := "f467a164a130fd81be05372a0a285cc22aaa821f6aa0566835f9a8ac4a42f42a", func := "loop.example/g01063/laws.FnExactDrumText", spec := "fnExactDrumText", inPlace := ["internal/abi.NoEscape"], recurses := true, apart := false, narrowed := true }
def FnExactDrumTextUptoSaid : Prop := fnExactDrumTextUptoRow.holds Try.pinned (OpenSpec.upto fnExactDrumTextSpec)

/-- 'laws.FnStrips', WHERE WHAT IT READS IS OF BULK AT MOST 1048576: true; the input reads as it did. -/
def fnStripsUptoRow : OpenClaim := { program := "ythphihfcgpoefaa", sum := "f467a164a130fd81be05372a0a285cc22aaa821f6aa0566835f9a8ac4a42f42a", func := "loop.example/g01063/laws.FnStrips", spec := "fnStrips", apart := false, narrowed := true }
def FnStripsUptoSaid : Prop := fnStripsUptoRow.holds Try.pinned (OpenSpec.upto fnStripsSpec)

end Rows
end Go.Proofs.Ythphihfcgpoefaa
