/- Lists of numbers as results: compared, marked and looked at again by the statements. -/
import Derived.Test.YtflgjohknjgdcaaProg
import Derived.Test.YtflgjohknjgdcaaLeaf
import Derived.Laws.AppendOwn
import Derived.Laws.OwnMore
import Derived.OwnWalk
import Derived.Tactics
import Derived.Tactics2
import Derived.WalkKit
import Derived.LoopTactic
import Derived.BigQuiet
import Derived.RegionTactic
import Derived.Deep.QuietTactic
import Derived.Outline
import Derived.Lib.Hide
import Derived.Below
import Derived.KernelRfl
namespace Go.Proofs.Ytflgjohknjgdcaa
set_option linter.unusedSimpArgs false
set_option linter.unusedVariables false
open Go.RowKit

/-- A list of numbers of the call's own: nil, or a row in a block from B on. -/
abbrev Ints (w : World) (B : Nat) (v : Value) (zs : List Int) : Prop := w.ownsRow B 2 1 v zs.length (zs.map (Value.int .i64))

/-- The same, opened. -/
theorem Ints.view {w : World} {B : Nat} {v : Value} {zs : List Int} (h : Ints w B v zs) :
    (v = .slice none 0 0 ∧ zs = []) ∨ ∃ g cap, v = .slice (some ⟨g, 0, none⟩) zs.length cap ∧ B ≤ g ∧ g < w.heap.size ∧ zs.length ≤ maxLen ∧
      (∀ j, j < zs.length → w.cell? ⟨g, j, none⟩ = some (.int .i64 (zs.getD j 0))) ∧ ∀ j, w.frozen? ⟨g, j, none⟩ = false := by
  have h' := h
  obtain ⟨_, h2⟩ := h
  rcases h2 with ⟨rfl, h0⟩ | ⟨g, cap, cur, rfl, hB, hg, hn, hm, _, _⟩
  · exact .inl ⟨rfl, List.length_eq_zero_iff.1 h0⟩
  · refine .inr ⟨g, cap, rfl, hB, (Array.getElem?_eq_some_iff.1 hg).1, by omega, fun j hj => ?_, fun j => h'.frozenAt j⟩
    rw [h'.cellAt j (by omega), List.getElem?_map, List.getElem?_eq_getElem hj, List.getD_eq_getElem?_getD, List.getElem?_eq_getElem hj]
    rfl

theorem grownNone {w u : World} (h : Below w.heap.size w u) (r : Option Nat) : w.grownBy u r := ⟨h.os, h.tape, h.output, h.size, fun k hk _ => h.block k hk⟩
theorem Ints.below {w u : World} {B : Nat} {v : Value} {zs : List Int} (h : Ints w B v zs) (hb : Below w.heap.size w u) : Ints u B v zs := by
  cases hv : v.ownBlock with
  | none => exact World.ownsRow.kept h (grownNone hb none) (.inl hv)
  | some k => exact World.ownsRow.kept h (grownNone hb none) (.inr (by rw [hv]; simp))
theorem Ints.drewN {w : World} {B : Nat} {v : Value} {zs : List Int} (h : Ints w B v zs) (n : Nat) : Ints (w.drewN n) B v zs := h

/-- The marks that a statement lays into a list. -/
def marks (k0 n : Nat) : List Int := (List.range n).map fun i => ((k0 + i : Nat) : Int)
theorem marks_length (k0 n : Nat) : (marks k0 n).length = n := by simp [marks]
theorem marks_get (k0 n j : Nat) (h : j < n) : (marks k0 n).getD j 0 = ((k0 + j : Nat) : Int) := by
  unfold marks
  rw [List.getD_eq_getElem?_getD, List.getElem?_map, List.getElem?_range h]
  rfl
theorem marks_step (k0 i : Nat) (zs : List Int) (h : i < zs.length) : (marks k0 i ++ zs.drop i).set i ((k0 + i : Nat) : Int) = marks k0 (i + 1) ++ zs.drop (i + 1) := by
  have hl := marks_length k0 i
  rw [List.set_append_right _ _ (by omega), hl, Nat.sub_self, List.drop_eq_getElem_cons h, List.set_cons_zero]
  unfold marks
  rw [List.range_succ, List.map_append, List.append_assoc]
  rfl

end Go.Proofs.Ytflgjohknjgdcaa
