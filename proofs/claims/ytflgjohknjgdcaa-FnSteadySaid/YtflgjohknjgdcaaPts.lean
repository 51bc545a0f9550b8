/- Lists of points in memory: what is read, what a call owns; the statements' own helpers. -/
import Derived.Test.YtflgjohknjgdcaaProg
import Derived.Test.YtflgjohknjgdcaaLeaf
import Derived.Test.YtflgjohknjgdcaaLists
import Derived.Laws.AppendOwn
import Derived.Laws.OwnMore
import Derived.OwnWalk
import Derived.Deep.Slices
import Derived.Deep.RegionWith
import Derived.Deep.DrawnRows
import Derived.Deep.RegionHeld3
import Derived.Laws.StructEq
import Derived.Tactics
import Derived.Tactics2
import Derived.WalkKit
import Derived.LoopTactic
import Derived.BigQuiet
import Derived.RegionTactic
import Derived.Deep.QuietTactic
import Derived.Outline
import Derived.Lib.Hide
import Derived.Below
import Derived.KernelRfl
namespace Go.Proofs.Ytflgjohknjgdcaa
set_option linter.unusedSimpArgs false
set_option linter.unusedVariables false
open Go.RowKit

/-- A point. -/
abbrev Pt := Int × Int
/-- The cells of some points. -/
def flat : List Pt → List Value
  | [] => []
  | p :: ps => .int .i64 p.1 :: .int .i64 p.2 :: flat ps
theorem flat_length : ∀ ps : List Pt, (flat ps).length = ps.length * 2
  | [] => rfl
  | _ :: ps => by simp [flat, flat_length ps]; omega
theorem flat_append : ∀ ps qs : List Pt, flat (ps ++ qs) = flat ps ++ flat qs
  | [], _ => rfl
  | p :: ps, qs => by simp [flat, flat_append ps qs]
theorem flat_get : ∀ (ps : List Pt) (j : Nat), j < ps.length → (flat ps)[j * 2]? = some (.int .i64 (ps.getD j (0, 0)).1) ∧ (flat ps)[j * 2 + 1]? = some (.int .i64 (ps.getD j (0, 0)).2)
  | p :: ps, 0, _ => by simp [flat]
  | p :: ps, j + 1, h => by
    have := flat_get ps j (by simpa using h)
    rw [show (j + 1) * 2 = j * 2 + 1 + 1 by omega]
    simpa [flat] using this
theorem flat_set : ∀ (ps : List Pt) (j : Nat) (q : Pt), ((flat ps).set (j * 2) (.int .i64 q.1)).set (j * 2 + 1) (.int .i64 q.2) = flat (ps.set j q)
  | [], _, _ => rfl
  | p :: ps, 0, q => by simp [flat]
  | p :: ps, j + 1, q => by
    have := flat_set ps j q
    rw [show (j + 1) * 2 = j * 2 + 1 + 1 by omega]
    simpa [flat] using this
theorem flat_oneCell : ∀ (ps : List Pt), ∀ u ∈ flat ps, u.oneCell' = true
  | [], _, h => by simp [flat] at h
  | p :: ps, u, h => by
    simp only [flat, List.mem_cons] at h
    rcases h with rfl | rfl | h
    · rfl
    · rfl
    · exact flat_oneCell ps u h
theorem made_flat (n : Nat) : (madeCells (fr 0 0).cells (n * 2)).toList = flat (List.replicate n (0, 0)) := by
  have h : ∀ m : Nat, (madeCells #[Value.int .i64 0, .int .i64 0] m).toList = List.replicate m (.int .i64 0) := by
    intro m
    apply List.ext_getElem?
    intro j
    by_cases hj : j < m
    · simp [madeCells, hj]
      rcases Nat.mod_two_eq_zero_or_one j with h | h <;> simp [h]
    · simp [madeCells, hj]
  have h2 : ∀ m : Nat, flat (List.replicate m (0, 0)) = List.replicate (m * 2) (.int .i64 0) := by
    intro m
    induction m with
    | zero => rfl
    | succ m ih => rw [List.replicate_succ, flat, ih, show (m + 1) * 2 = m * 2 + 1 + 1 by omega, List.replicate_succ, List.replicate_succ]
  rw [h2]
  exact h _

/-- What a reader sees of a list of points. -/
def Rd (w : World) (A : Option Addr) (n : Nat) (ps : List Pt) : Prop :=
  ps.length = n ∧ n ≤ 1048576 ∧ (n = 0 ∨ ∃ g, A = some ⟨g, 0, none⟩ ∧ g < w.heap.size ∧
    ∀ j, j < n → w.cell? ⟨g, j * 2, none⟩ = some (.int .i64 (ps.getD j (0, 0)).1) ∧ w.cell? ⟨g, j * 2 + 1, none⟩ = some (.int .i64 (ps.getD j (0, 0)).2))
theorem Rd.below {w u : World} {A : Option Addr} {n : Nat} {ps : List Pt} (h : Rd w A n ps) (hb : Below w.heap.size w u) : Rd u A n ps := by
  obtain ⟨h1, h2, h3⟩ := h
  refine ⟨h1, h2, ?_⟩
  rcases h3 with h0 | ⟨g, rfl, hg, hc⟩
  · exact .inl h0
  · exact .inr ⟨g, rfl, Nat.lt_of_lt_of_le hg hb.size, fun j hj => ⟨(hb.cell (p := ⟨g, j * 2, none⟩) hg).trans (hc j hj).1, (hb.cell (p := ⟨g, j * 2 + 1, none⟩) hg).trans (hc j hj).2⟩⟩
theorem Rd.drewN {w : World} {A : Option Addr} {n : Nat} {ps : List Pt} (h : Rd w A n ps) (k : Nat) : Rd (w.drewN k) A n ps := h

theorem ownsB {w u : World} {B : Nat} {e : TypeId} {z : Nat} {v : Value} {n : Nat} {xs : List Value} (h : w.ownsRow B e z v n xs) (hb : Below w.heap.size w u) : u.ownsRow B e z v n xs := by
  cases hv : v.ownBlock with
  | none => exact World.ownsRow.kept h (grownNone hb none) (.inl hv)
  | some k => exact World.ownsRow.kept h (grownNone hb none) (.inr (by rw [hv]; simp))

theorem grownThenP {w u x : World} {r : Option Nat} (h : w.grownBy u r) (k : u.grownBy x r) : w.grownBy x r :=
  ⟨k.os.trans h.os, k.tape.trans h.tape, k.output.trans h.output, Nat.le_trans h.size k.size, fun j hj hne => (k.block j (Nat.lt_of_lt_of_le hj h.size) hne).trans (h.block j hj hne)⟩

/-- A list of points that came in. -/
def PRow (w : World) (A : Option Addr) (n : Nat) (ps : List Pt) : Prop :=
  ps.length = n ∧ n ≤ maxLen ∧ (n = 0 ∨ ∃ b off, A = some ⟨b, off, none⟩ ∧ b < w.heap.size ∧ ∀ j, j < n → w.cell? ⟨b, off + j * 2, none⟩ = some (.int .i64 (ps.getD j (0, 0)).1) ∧ w.cell? ⟨b, off + j * 2 + 1, none⟩ = some (.int .i64 (ps.getD j (0, 0)).2))
theorem PRow.below {w u : World} {A : Option Addr} {n : Nat} {ps : List Pt} (h : PRow w A n ps) (hb : Below w.heap.size w u) : PRow u A n ps := by
  obtain ⟨h1, h2, h3⟩ := h
  refine ⟨h1, h2, ?_⟩
  rcases h3 with h0 | ⟨b, off, rfl, hg, hc⟩
  · exact .inl h0
  · exact .inr ⟨b, off, rfl, Nat.lt_of_lt_of_le hg hb.size, fun j hj => ⟨(hb.cell (p := ⟨b, off + j * 2, none⟩) hg).trans (hc j hj).1, (hb.cell (p := ⟨b, off + j * 2 + 1, none⟩) hg).trans (hc j hj).2⟩⟩

theorem addP (b off i : Nat) : (⟨b, off, none⟩ : Addr).add i = ⟨b, off + i, none⟩ := by unfold Addr.add; split <;> simp_all

/-- A list of points, as a statement's input brings it. -/
theorem PRow.of {W : World} {a : Addr} {len : Nat} (hl : len ≤ maxLen) (h : ∀ i, i < len → ∃ p : Pt, W.cell? (a.add (i * 2)) = some (.int .i64 p.1) ∧ W.cell? (a.add (i * 2 + 1)) = some (.int .i64 p.2)) : ∃ ps, PRow W (some a) len ps := by
  obtain ⟨f, hf⟩ := Go.Deep.choose_lt h
  refine ⟨(List.range len).map f, by simp, hl, ?_⟩
  by_cases h0 : len = 0
  · exact .inl h0
  obtain ⟨b, off, spot⟩ := a
  have hspot : spot = none := by simpa [Addr.add] using World.cell?_spot (hf 0 (by omega)).1
  subst hspot
  have hlt : b < W.heap.size := by simpa [Addr.add] using World.block_lt_of_cell? W _ (hf 0 (by omega)).1
  refine .inr ⟨b, off, rfl, hlt, fun j hj => ?_⟩
  have hg : ((List.range len).map f).getD j (0, 0) = f j := by
    rw [List.getD_eq_getElem?_getD, List.getElem?_map, List.getElem?_range hj]
    rfl
  rw [hg]
  have := hf j hj
  rwa [addP, addP, ← Nat.add_assoc] at this

theorem put_step (ps : List Pt) (k n : Nat) (hk : k < ps.length) (hn : ps.length = n) :
    (ps.take k ++ (List.replicate n ((0, 0) : Pt)).drop k).set k (ps.getD k (0, 0)) = ps.take (k + 1) ++ (List.replicate n (0, 0)).drop (k + 1) := by
  have hl : (ps.take k).length = k := by rw [List.length_take]; omega
  rw [List.set_append_right _ _ (by omega), hl, Nat.sub_self, List.drop_eq_getElem_cons (by simp; omega), List.set_cons_zero, List.take_add_one, List.append_assoc, List.getD_eq_getElem?_getD, List.getElem?_eq_getElem hk]
  rfl

theorem bUndrew {w u : World} (h : Below w.drew.heap.size w.drew u) : Below w.heap.size w u := ⟨h.os, h.tape, h.output, h.size, h.block⟩

/-- The marks that a statement lays into a list of points. -/
def marksP (k0 : Int) : Nat → List Pt
  | 0 => []
  | n + 1 => (k0, k0 + 1) :: marksP (k0 + 2) n
theorem marksP_length : ∀ (n : Nat) (k0 : Int), (marksP k0 n).length = n
  | 0, _ => rfl
  | n + 1, k0 => by simp [marksP, marksP_length n]
theorem marksP_get : ∀ (n : Nat) (k0 : Int) (j : Nat), j < n → (marksP k0 n).getD j (0, 0) = (k0 + 2 * (j : Int), k0 + 2 * (j : Int) + 1)
  | n + 1, k0, 0, _ => by simp [marksP]
  | n + 1, k0, j + 1, h => by
    have := marksP_get n (k0 + 2) j (by omega)
    simp only [marksP, List.getD_cons_succ]
    rw [this]
    congr 1 <;> omega
theorem marksP_step : ∀ (ps : List Pt) (k0 : Int) (i : Nat), i < ps.length → (marksP k0 i ++ ps.drop i).set i (k0 + 2 * (i : Int), k0 + 2 * (i : Int) + 1) = marksP k0 (i + 1) ++ ps.drop (i + 1)
  | p :: ps, k0, 0, _ => by simp [marksP]
  | p :: ps, k0, i + 1, h => by
    have := marksP_step ps (k0 + 2) i (by simpa using h)
    have e : k0 + 2 * ((i + 1 : Nat) : Int) = k0 + 2 + 2 * (i : Int) := by omega
    rw [e]
    conv => rhs; rw [marksP]
    simp only [marksP, List.drop_succ_cons, List.cons_append, List.set_cons_succ, this]

end Go.Proofs.Ytflgjohknjgdcaa
