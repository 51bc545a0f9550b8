/- Lists of texts as results: compared, marked and looked at again by the statements. -/
import Derived.Test.YthphihfcgpoefaaDoorProg
import Derived.Test.YthphihfcgpoefaaDoorLeaf
import Derived.Test.YthphihfcgpoefaaDoorSpecDec
import Derived.Laws.AppendOwn
import Derived.Laws.OwnMore
import Derived.OwnWalk
import Derived.Laws.BytesString
import Derived.Laws.Cells
import Derived.Tactics
import Derived.Tactics2
import Derived.WalkKit
import Derived.LoopTactic
import Derived.BigQuiet
import Derived.RegionTactic
import Derived.BigRegion
import Derived.Deep.QuietTactic
import Derived.Deep.RegionWith
import Derived.Deep.DrawnRows
import Derived.Deep.RegionHeld3
import Derived.Outline
import Derived.Lib.Hide
import Derived.Below
import Derived.KernelRfl
namespace Go.Proofs.YthphihfcgpoefaaDoor
set_option linter.unusedSimpArgs false
set_option linter.unusedVariables false
open Go.RowKit

/-- A list of texts of the call's own: nil, or a row in a block from B on. -/
abbrev Strs (w : World) (B : Nat) (v : Value) (zs : List ByteArray) : Prop := w.ownsRow B 9 1 v zs.length (zs.map Value.string)

/-- The same, opened. -/
theorem Strs.view {w : World} {B : Nat} {v : Value} {zs : List ByteArray} (h : Strs w B v zs) :
    (v = .slice none 0 0 ∧ zs = []) ∨ ∃ g cap, v = .slice (some ⟨g, 0, none⟩) zs.length cap ∧ B ≤ g ∧ g < w.heap.size ∧ zs.length ≤ maxLen ∧
      (∀ j, j < zs.length → w.cell? ⟨g, j, none⟩ = some (.string (zs.getD j ByteArray.empty))) ∧ ∀ j, w.frozen? ⟨g, j, none⟩ = false := by
  have h' := h
  obtain ⟨_, h2⟩ := h
  rcases h2 with ⟨rfl, h0⟩ | ⟨g, cap, cur, rfl, hB, hg, hn, hm, _, _⟩
  · exact .inl ⟨rfl, List.length_eq_zero_iff.1 h0⟩
  · refine .inr ⟨g, cap, rfl, hB, (Array.getElem?_eq_some_iff.1 hg).1, by omega, fun j hj => ?_, fun j => h'.frozenAt j⟩
    rw [h'.cellAt j (by omega), List.getElem?_map, List.getElem?_eq_getElem hj, List.getD_eq_getElem?_getD, List.getElem?_eq_getElem hj]
    rfl

theorem grownNone0 {w u : World} (h : Below w.heap.size w u) (r : Option Nat) : w.grownBy u r := ⟨h.os, h.tape, h.output, h.size, fun k hk _ => h.block k hk⟩
theorem Strs.below {w u : World} {B : Nat} {v : Value} {zs : List ByteArray} (h : Strs w B v zs) (hb : Below w.heap.size w u) : Strs u B v zs := by
  cases hv : v.ownBlock with
  | none => exact World.ownsRow.kept h (grownNone0 hb none) (.inl hv)
  | some k => exact World.ownsRow.kept h (grownNone0 hb none) (.inr (by rw [hv]; simp))
theorem Strs.drewN {w : World} {B : Nat} {v : Value} {zs : List ByteArray} (h : Strs w B v zs) (n : Nat) : Strs (w.drewN n) B v zs := h

theorem bUndrew0 {w u : World} (h : Below w.drew.heap.size w.drew u) : Below w.heap.size w u := ⟨h.os, h.tape, h.output, h.size, h.block⟩
theorem ownsBelow {w u : World} {B : Nat} {e : TypeId} {z : Nat} {v : Value} {n : Nat} {xs : List Value} (h : w.ownsRow B e z v n xs) (hb : Below w.heap.size w u) : u.ownsRow B e z v n xs := by
  cases hv : v.ownBlock with
  | none => exact World.ownsRow.kept h (grownNone0 hb none) (.inl hv)
  | some k => exact World.ownsRow.kept h (grownNone0 hb none) (.inr (by rw [hv]; simp))

/-- The text that a statement lays into a list as its k-th mark. -/
def markT (k : Nat) : ByteArray := ⟨(109 :: digs0 k).toArray⟩

theorem mark_bytes (l : List UInt8) : (⟨#[109]⟩ ++ ⟨l.toArray⟩ : ByteArray) = ⟨(109 :: l).toArray⟩ := by
  apply ByteArray.ext
  simp [← Array.toList_inj]
theorem one_bytes (c : UInt8) (l : List UInt8) : (⟨#[c]⟩ ++ ⟨l.toArray⟩ : ByteArray) = ⟨(c :: l).toArray⟩ := by
  apply ByteArray.ext
  simp [← Array.toList_inj]

/-- The marks that a statement lays into a list of texts. -/
def marksS (k0 n : Nat) : List ByteArray := (List.range n).map fun i => markT (k0 + i)
theorem marksS_length (k0 n : Nat) : (marksS k0 n).length = n := by simp [marksS]
theorem marksS_get (k0 n j : Nat) (h : j < n) : (marksS k0 n).getD j ByteArray.empty = markT (k0 + j) := by
  unfold marksS
  rw [List.getD_eq_getElem?_getD, List.getElem?_map, List.getElem?_range h]
  rfl
theorem marksS_step (k0 i : Nat) (zs : List ByteArray) (h : i < zs.length) : (marksS k0 i ++ zs.drop i).set i (markT (k0 + i)) = marksS k0 (i + 1) ++ zs.drop (i + 1) := by
  have hl := marksS_length k0 i
  rw [List.set_append_right _ _ (by omega), hl, Nat.sub_self, List.drop_eq_getElem_cons h, List.set_cons_zero]
  unfold marksS
  rw [List.range_succ, List.map_append, List.append_assoc]
  rfl

theorem grownThen {w u x : World} {r : Option Nat} (h : w.grownBy u r) (k : u.grownBy x r) : w.grownBy x r :=
  ⟨k.os.trans h.os, k.tape.trans h.tape, k.output.trans h.output, Nat.le_trans h.size k.size, fun j hj hne => (k.block j (Nat.lt_of_lt_of_le hj h.size) hne).trans (h.block j hj hne)⟩

end Go.Proofs.YthphihfcgpoefaaDoor
