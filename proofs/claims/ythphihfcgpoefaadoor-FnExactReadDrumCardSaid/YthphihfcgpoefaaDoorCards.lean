/-
  DERIVED. GIVEN WITH THE SEED: THE CARDS: each row of YthphihfcgpoefaaDoorRows.lean that lists a variable, with what it lists TIED to the program's text (the seventh form; the later family's looks); each row that meets fmt, with fmt's text TOLD by the authors' own Lean function (tested against real Go, not proved from fmt's source: count such statements apart). THE CARD IS WHAT COUNTS. Prove the row's statement (the work); the ties are given (YthphihfcgpoefaaDoorTie.lean); close each card by the builder's one call (the guide's Derived/Test/ToyasCard.lean, 'card_holds'). Laid BY PROGRAM, IN A SANDBOX (cutbox-door.mjs). By AI agents, Wed Nov 11 2026. No macro, syntax, notation, axiom, sorry.
-/
import Derived.Test.YthphihfcgpoefaaDoorRows
import GoSem.ClaimSeven
namespace Go.Proofs.YthphihfcgpoefaaDoor
namespace Rows

/-- THE TIED CARD OF 'laws.FnExactReadDrum'. -/
def fnExactReadDrumCard : Claim7 := { stood := { row := fnExactReadDrumRow, standIns := [], harness := (true, "383b5becb8a6a51c6986ae1dea223e39b59029c31b40843bfe9b8d1649be2ee0"), looks := true }, kinds := [], alts := [], laidByText := true, laidKinds := [.data, .data, .data, .sentinel, .sentinel], laidTests := true, laidLooks := .later }
def FnExactReadDrumCardSaid : Prop := Claim7.holds Tryd.pinned (.plain (OpenSpec.ofChange fnExactReadDrumSpec)) fnExactReadDrumCard

/-- THE SECOND FORM's CARD OF 'laws.FnExactReadDrum'. -/
def fnExactReadDrumUptoCard : Claim7 := { stood := { row := fnExactReadDrumUptoRow, standIns := [], harness := (true, "383b5becb8a6a51c6986ae1dea223e39b59029c31b40843bfe9b8d1649be2ee0"), looks := true }, kinds := [], alts := [], laidByText := true, laidKinds := [.data, .data, .data, .sentinel, .sentinel], laidTests := true, laidLooks := .later }
def FnExactReadDrumUptoCardSaid : Prop := Claim7.holds Tryd.pinned (.plain (OpenSpec.upto fnExactReadDrumSpec)) fnExactReadDrumUptoCard
end Rows
end Go.Proofs.YthphihfcgpoefaaDoor
