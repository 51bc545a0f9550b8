/- A region that draws its order, with reads and calls that only make memory. -/
import Derived.Test.YtibafngidpmgdabLeaf
import Derived.Deep.RegionWith
import Derived.Deep.DrawnRows
import Derived.Tactics
import Derived.Tactics2
import Derived.WalkKit
import Derived.BigQuiet
import Derived.RegionTactic
import Derived.Deep.QuietTactic
import Derived.Below
namespace Go.Proofs.Ytibafngidpmgdab
set_option linter.unusedSimpArgs false
set_option linter.unusedVariables false
open Go.RowKit

/-- A world behind some reads and calls that only make memory. -/
structure Grew (W : World) where
  u : World
  h : Below W.heap.size W u
instance (W : World) : Inhabited (Grew W) := ⟨⟨W, Below.refl _ _⟩⟩
theorem wp_region_grew {P : Program} {id : Nat} {Q : Exit → Act → World → Prop} {a : Act} {w : World} {l : List Oper} (hm : P.follows .mixedOrders = true) (hB : Region.lexB .any l.toArray = true)
    (h : wpQuiet P l.toArray (fun w' => ∃ p : Grew w, w' = p.u) (fun a' => ∀ w', (∃ p : Grew w, w' = p.u) → Q .normal a' w') l a) : (Code.region id l.toArray true).wp P Q a w :=
  Go.wp_region_quiet (C := fun w' => ∃ p : Grew w, w' = p.u) hm hB ⟨⟨w.drew, Below.drew (Below.refl _ _)⟩, rfl⟩ (by simpa using h)
theorem Grew.cell {W : World} (p : Grew W) {b o : Nat} {v : Value} (hb : b < W.heap.size) (h : W.cell? ⟨b, o, none⟩ = some v) : p.u.cell? ⟨b, o, none⟩ = some v := (p.h.cell (p := ⟨b, o, none⟩) hb).trans h
/-- A contract that only makes memory, met in such a region. -/
theorem grewOf {P : Program} {f : FuncId} {args : Array Value} {W : World} {p : Grew W} {v : Value} (h : Calls P f args p.u fun e w' => e = .returned v ∧ Below p.u.heap.size p.u w') :
    Calls P f args p.u fun e w'' => e = .returned v ∧ ∃ q : Grew W, w'' = q.u := h.mono fun _ u hh => ⟨hh.1, ⟨u, bTrans p.h hh.2⟩, rfl⟩
/-- A contract that leaves the world alone, met there. -/
theorem grewEq {P : Program} {f : FuncId} {args : Array Value} {W : World} {p : Grew W} {v : Value} (h : Calls P f args p.u fun e w' => e = .returned v ∧ p.u = w') :
    Calls P f args p.u fun e w'' => e = .returned v ∧ ∃ q : Grew W, w'' = q.u := h.mono fun _ u hh => ⟨hh.1, p, hh.2.symm⟩

end Go.Proofs.Ytibafngidpmgdab
