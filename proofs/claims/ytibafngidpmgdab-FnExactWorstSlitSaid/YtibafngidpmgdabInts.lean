/- Lists of numbers that came in, that are read; and the statements' own helpers for them. -/
import Derived.Test.YtibafngidpmgdabProg
import Derived.Test.YtibafngidpmgdabLeaf
import Derived.Test.YtibafngidpmgdabLists
import Derived.Laws.AppendOwn
import Derived.Laws.OwnMore
import Derived.OwnWalk
import Derived.Deep.Slices
import Derived.Deep.RegionWith
import Derived.Deep.DrawnRows
import Derived.Deep.RegionHeld3
import Derived.Laws.StructEq
import Derived.Tactics
import Derived.Tactics2
import Derived.WalkKit
import Derived.LoopTactic
import Derived.BigQuiet
import Derived.RegionTactic
import Derived.Deep.QuietTactic
import Derived.Outline
import Derived.Lib.Hide
import Derived.Below
import Derived.KernelRfl
namespace Go.Proofs.Ytibafngidpmgdab
set_option linter.unusedSimpArgs false
set_option linter.unusedVariables false
open Go.RowKit

/-- What a reader sees of a list of numbers. -/
def RdI (w : World) (A : Option Addr) (n : Nat) (zs : List Int) : Prop :=
  zs.length = n ∧ n ≤ 1048576 ∧ (n = 0 ∨ ∃ g, A = some ⟨g, 0, none⟩ ∧ g < w.heap.size ∧ ∀ j, j < n → w.cell? ⟨g, j, none⟩ = some (.int .i64 (zs.getD j 0)))
theorem RdI.below {w u : World} {A : Option Addr} {n : Nat} {zs : List Int} (h : RdI w A n zs) (hb : Below w.heap.size w u) : RdI u A n zs := by
  obtain ⟨h1, h2, h3⟩ := h
  refine ⟨h1, h2, ?_⟩
  rcases h3 with h0 | ⟨g, rfl, hg, hc⟩
  · exact .inl h0
  · exact .inr ⟨g, rfl, Nat.lt_of_lt_of_le hg hb.size, fun j hj => (hb.cell (p := ⟨g, j, none⟩) hg).trans (hc j hj)⟩
theorem RdI.drewN {w : World} {A : Option Addr} {n : Nat} {zs : List Int} (h : RdI w A n zs) (k : Nat) : RdI (w.drewN k) A n zs := h

/-- What is owned is read. -/
theorem Ints.rd {w : World} {B : Nat} {v : Value} {zs : List Int} (h : Ints w B v zs) (hl : zs.length ≤ 1048576) : ∃ A cap, v = .slice A zs.length cap ∧ RdI w A zs.length zs := by
  rcases h.view with ⟨rfl, rfl⟩ | ⟨g, cap, rfl, hB, hg, hm, hc, hf⟩
  · exact ⟨none, 0, rfl, rfl, hl, .inl rfl⟩
  · exact ⟨_, cap, rfl, rfl, hl, .inr ⟨g, rfl, hg, hc⟩⟩
theorem Ints.rdOf {w : World} {B : Nat} {A : Option Addr} {n c : Nat} {zs : List Int} (h : Ints w B (.slice A n c) zs) (hl : zs.length = n) (hn : n ≤ 1048576) : RdI w A n zs := by
  obtain ⟨A', c', e, r⟩ := h.rd (by omega)
  simp only [Value.slice.injEq] at e
  obtain ⟨rfl, rfl, rfl⟩ := e
  rwa [hl] at r

/-- A list of numbers that came in. -/
def IRow (w : World) (A : Option Addr) (n : Nat) (zs : List Int) : Prop :=
  zs.length = n ∧ n ≤ maxLen ∧ (∀ z ∈ zs, I64 z) ∧ (n = 0 ∨ ∃ b off, A = some ⟨b, off, none⟩ ∧ b < w.heap.size ∧ ∀ j, j < n → w.cell? ⟨b, off + j, none⟩ = some (.int .i64 (zs.getD j 0)))
theorem IRow.below {w u : World} {A : Option Addr} {n : Nat} {zs : List Int} (h : IRow w A n zs) (hb : Below w.heap.size w u) : IRow u A n zs := by
  obtain ⟨h1, h2, h4, h3⟩ := h
  refine ⟨h1, h2, h4, ?_⟩
  rcases h3 with h0 | ⟨b, off, rfl, hg, hc⟩
  · exact .inl h0
  · exact .inr ⟨b, off, rfl, Nat.lt_of_lt_of_le hg hb.size, fun j hj => (hb.cell (p := ⟨b, off + j, none⟩) hg).trans (hc j hj)⟩

theorem addI (b off i : Nat) : (⟨b, off, none⟩ : Addr).add i = ⟨b, off + i, none⟩ := by unfold Addr.add; split <;> simp_all

theorem putI_step (zs : List Int) (k n : Nat) (hk : k < zs.length) (hn : zs.length = n) :
    (zs.take k ++ (List.replicate n (0 : Int)).drop k).set k (zs.getD k 0) = zs.take (k + 1) ++ (List.replicate n (0 : Int)).drop (k + 1) := by
  have hl : (zs.take k).length = k := by rw [List.length_take]; omega
  rw [List.set_append_right _ _ (by omega), hl, Nat.sub_self, List.drop_eq_getElem_cons (by simp; omega), List.set_cons_zero, List.take_add_one, List.append_assoc, List.getD_eq_getElem?_getD, List.getElem?_eq_getElem hk]
  rfl
theorem made_int (n : Nat) : (madeCells (Value.int .i64 0).cells (n * 1)).toList = (List.replicate n (0 : Int)).map (Value.int .i64) := by
  apply List.ext_getElem?
  intro j
  by_cases hj : j < n
  · simp [madeCells, hj, Value.cells, Nat.mod_one]
  · simp [madeCells, hj, Value.cells]

theorem infoI64 : (Try.prog.info? 2).map (fun i => (i.zero, i.size, i.bytes)) = some (some (.int .i64 0), 1, 8) := by kernel_rfl

end Go.Proofs.Ytibafngidpmgdab
