/- The function of a wheel's open parts: made, and called. -/
import Derived.Test.YtflgjohknjgdcaaProg
import Derived.Test.YtflgjohknjgdcaaBldDark
import Derived.Laws.Cover1
import Derived.Deep.RegionWith
import Derived.Deep.DrawnRows
import Derived.Deep.RegionHeld3
import Derived.Deep.DeepCutAuto
import Derived.Tactics
import Derived.Tactics2
import Derived.WalkKit
import Derived.LoopTactic
import Derived.BigQuiet
import Derived.RegionTactic
import Derived.Deep.QuietTactic
import Derived.Outline
import Derived.Lib.Hide
import Derived.Below
import Derived.KernelRfl
namespace Go.Proofs.Ytflgjohknjgdcaa
set_option linter.unusedSimpArgs false
set_option linter.unusedVariables false
open Go.RowKit

/-- A block of one cell, open to stores. -/
def Bx (w : World) (b : Nat) (v : Value) : Prop := w.cell? ⟨b, 0, none⟩ = some v ∧ b < w.heap.size ∧ w.frozen? ⟨b, 0, none⟩ = false
theorem bxOf {W u : World} (hb : Below W.heap.size W u) {b : Nat} {v : Value} (h : Bx W b v) : Bx u b v :=
  ⟨(hb.cell (p := ⟨b, 0, none⟩) h.2.1).trans h.1, Nat.lt_of_lt_of_le h.2.1 hb.size, (hb.frozen (p := ⟨b, 0, none⟩) h.2.1).trans h.2.2⟩
theorem bxAlloc (w : World) (v : Value) (t : TypeId) : Bx (w.alloc (.cells #[v] t)) w.heap.size v :=
  ⟨by rw [World.cell?_alloc_at _ _ _ _ rfl]; rfl, by simp, by go_simp⟩
theorem bxAlloc2 (w : World) (o : Obj) (v : Value) (t : TypeId) : Bx ((w.alloc o).alloc (.cells #[v] t)) (w.heap.size + 1) v := by
  have h := bxAlloc (w.alloc o) v t
  rwa [World.size_alloc] at h
theorem bxAllocS (w : World) (p : Addr) (x v : Value) (t : TypeId) : Bx ((w.setCell p x).alloc (.cells #[v] t)) w.heap.size v := by
  have h := bxAlloc (w.setCell p x) v t
  rwa [World.size_setCell] at h
theorem bxUp {w : World} {b : Nat} {v : Value} (h : Bx w b v) (o : Obj) : Bx (w.alloc o) b v := bxOf (bAlloc (Below.refl _ _) _) h
theorem bxDrew {w : World} {b : Nat} {v : Value} (h : Bx w b v) : Bx w.drew b v := h
theorem bxSet {w : World} {b : Nat} {v : Value} (h : Bx w b v) (x : Value) : Bx (w.setCell ⟨b, 0, none⟩ x) b x :=
  ⟨World.cell?_setCell_same _ _ _ h.1, by simpa using h.2.1, by simpa using h.2.2⟩
theorem bxSetO {w : World} {b c : Nat} {v : Value} (h : Bx w b v) (x : Value) (hne : ¬ c = b) : Bx (w.setCell ⟨c, 0, none⟩ x) b v :=
  ⟨(World.cell?_setCell_other _ _ _ _ (by simp [hne])).trans h.1, by simpa using h.2.1, by simpa using h.2.2⟩
theorem bxCut {W u : World} {Q : Prop} (hb : Below W.heap.size W u) (b : Nat) (v : Value) (hx : Bx W b v) (h : Bx u b v → u.cell? ⟨b, 0, none⟩ = some v → u.frozen? ⟨b, 0, none⟩ = false → b < u.heap.size → ¬ b = u.heap.size → ¬ u.heap.size = b → Q) : Q :=
  have k := bxOf hb hx
  h k k.1 k.2.2 k.2.1 (Nat.ne_of_lt k.2.1) (Nat.ne_of_gt k.2.1)

set_option maxHeartbeats 4000000 in
/-- impl.Blades.opening. -/
theorem opening_new (m o : Int) {M S G : Nat} (W : Wh m o M S G) (w : World) :
    Calls Try.prog 80 #[fr m o] w fun e w' => ∃ b1 b2 : Nat, e = .returned (.func (.func 96) #[] #[.pointer (some ⟨b1, 0, none⟩), .pointer (some ⟨b2, 0, none⟩)]) ∧ Op w' b1 b2 S G ∧ (w.heap.size ≤ b1 ∧ w.heap.size ≤ b2) ∧ Below w.heap.size w w' := by
  have hmf : ∀ (fn : Fn) (first cap : Array Value) (w : World), (Instr.makeFunc fn first cap).run Try.prog w = .ok (.func fn first cap) w := fun _ _ _ _ => rfl
  go_enter Try.func80, Try.ntmps80
  go_upto_region 1 with fail
  have B0 := bkNew w m o 25
  have h0 := Lib.hid (bAlloc (Below.refl w.heap.size w) (.cells #[.int .i64 m, .int .i64 o] 25))
  generalize w.alloc (.cells #[.int .i64 m, .int .i64 o] 25) = u3 at *
  obtain ⟨a0, b0, f0, g0, z0⟩ := B0
  have MK := Lib.hid (fun v (hb : Below u3.heap.size u3 v) => (⟨(hb.cell (p := ⟨w.heap.size, 0, none⟩) z0).trans a0, (hb.cell (p := ⟨w.heap.size, 1, none⟩) z0).trans b0, hb⟩ : v.cell? ⟨w.heap.size, 0, none⟩ = some (.int .i64 m) ∧ v.cell? ⟨w.heap.size, 1, none⟩ = some (.int .i64 o) ∧ Below u3.heap.size u3 v))
  have HB := Lib.hid (Below.refl u3.heap.size u3)
  go_cut [3, 4] (fun s3 s4 wx => ∃ b1 b2 : Nat, s3 = .pointer (some ⟨b1, 0, none⟩) ∧ s4 = .pointer (some ⟨b2, 0, none⟩) ∧ Bx wx b1 (.int .i64 S) ∧ Bx wx b2 (.int .i64 G) ∧ (u3.heap.size ≤ b1 ∧ u3.heap.size ≤ b2) ∧ Below u3.heap.size u3 wx)
  case first =>
    go_region_held3 (fun v => v.cell? ⟨w.heap.size, 0, none⟩ = some (.int .i64 m) ∧ v.cell? ⟨w.heap.size, 1, none⟩ = some (.int .i64 o) ∧ Below u3.heap.size u3 v) ((refine MK.out _ ?_; repeat (first | with_reducible exact HB.out | with_reducible exact Below.refl _ _ | with_reducible refine bSet ?_ (by first | (simp; done) | (simp; omega) | omega) _ | with_reducible refine bAlloc ?_ _ | with_reducible refine Below.drew ?_))) (first | (go_at_call 84; refine (sector_any m o W _).mono ?_; rintro e vA ⟨rfl, hbA⟩; have HB := Lib.hid (bTrans (‹_ ∧ _ ∧ Below _ u3 _›).2.2 hbA); have hsA := HB.out.size; (try (refine bxCut hbA (u3.heap.size) (.int .i64 0) ?_ ?_; (first | exact bxAlloc _ _ _ | exact bxAlloc2 _ _ _ _ | exact bxDrew (bxAlloc2 _ _ _ _) | exact bxUp (bxAlloc _ _ _) _ | exact bxDrew (bxAlloc _ _ _) | exact bxDrew (bxUp (bxAlloc _ _ _) _) | with_reducible assumption | (with_reducible refine bxUp ?_ _; with_reducible assumption) | (with_reducible refine bxUp (bxUp ?_ _) _; with_reducible assumption)); intro q1a q1b q1c q1d q1e q1f)); (try (refine bxCut hbA (u3.heap.size + 1) (.int .i64 0) ?_ ?_; (first | exact bxAlloc _ _ _ | exact bxAlloc2 _ _ _ _ | exact bxDrew (bxAlloc2 _ _ _ _) | exact bxUp (bxAlloc _ _ _) _ | exact bxDrew (bxAlloc _ _ _) | exact bxDrew (bxUp (bxAlloc _ _ _) _) | with_reducible assumption | (with_reducible refine bxUp ?_ _; with_reducible assumption) | (with_reducible refine bxUp (bxUp ?_ _) _; with_reducible assumption)); intro q2a q2b q2c q2d q2e q2f))) | (go_at_call 85; refine (gap_any m o W _).mono ?_; rintro e vB ⟨rfl, hbB⟩; have HB := Lib.hid (bTrans (‹_ ∧ _ ∧ Below _ u3 _›).2.2 hbB); have hsB := HB.out.size; (try (refine bxCut hbB (u3.heap.size) (.int .i64 0) ?_ ?_; (first | exact bxAlloc _ _ _ | exact bxAlloc2 _ _ _ _ | exact bxDrew (bxAlloc2 _ _ _ _) | exact bxUp (bxAlloc _ _ _) _ | exact bxDrew (bxAlloc _ _ _) | exact bxDrew (bxUp (bxAlloc _ _ _) _) | with_reducible assumption | (with_reducible refine bxUp ?_ _; with_reducible assumption) | (with_reducible refine bxUp (bxUp ?_ _) _; with_reducible assumption)); intro q3a q3b q3c q3d q3e q3f)); (try (refine bxCut hbB (u3.heap.size + 1) (.int .i64 0) ?_ ?_; (first | exact bxAlloc _ _ _ | exact bxAlloc2 _ _ _ _ | exact bxDrew (bxAlloc2 _ _ _ _) | exact bxUp (bxAlloc _ _ _) _ | exact bxDrew (bxAlloc _ _ _) | exact bxDrew (bxUp (bxAlloc _ _ _) _) | with_reducible assumption | (with_reducible refine bxUp ?_ _; with_reducible assumption) | (with_reducible refine bxUp (bxUp ?_ _) _; with_reducible assumption)); intro q4a q4b q4c q4d q4e q4f)); (try (refine bxCut hbB (vA.heap.size) (.int .i64 0) ?_ ?_; (first | exact bxAlloc _ _ _ | exact bxAlloc2 _ _ _ _ | exact bxDrew (bxAlloc2 _ _ _ _) | exact bxUp (bxAlloc _ _ _) _ | exact bxDrew (bxAlloc _ _ _) | exact bxDrew (bxUp (bxAlloc _ _ _) _) | with_reducible assumption | (with_reducible refine bxUp ?_ _; with_reducible assumption) | (with_reducible refine bxUp (bxUp ?_ _) _; with_reducible assumption)); intro q5a q5b q5c q5d q5e q5f)); (try (refine bxCut hbB (vA.heap.size + 1) (.int .i64 0) ?_ ?_; (first | exact bxAlloc _ _ _ | exact bxAlloc2 _ _ _ _ | exact bxDrew (bxAlloc2 _ _ _ _) | exact bxUp (bxAlloc _ _ _) _ | exact bxDrew (bxAlloc _ _ _) | exact bxDrew (bxUp (bxAlloc _ _ _) _) | with_reducible assumption | (with_reducible refine bxUp ?_ _; with_reducible assumption) | (with_reducible refine bxUp (bxUp ?_ _) _; with_reducible assumption)); intro q6a q6b q6c q6d q6e q6f))))
    all_goals go_wp2_with fail
    all_goals go_meet
    all_goals refine ⟨_, _, rfl, rfl, ?_, ?_, (by first | (refine ⟨?_, ?_⟩ <;> omega) | (simp; done) | (simp; omega)), ?_⟩
    all_goals first | (focus ((repeat (first | with_reducible exact HB.out | with_reducible exact Below.refl _ _ | with_reducible refine bSet ?_ (by first | (simp; done) | (simp; omega) | omega) _ | with_reducible refine bAlloc ?_ _ | with_reducible refine Below.drew ?_)); done)) | (focus ((repeat (first | with_reducible assumption | with_reducible exact bxAlloc _ _ _ | with_reducible exact bxAlloc2 _ _ _ _ | with_reducible exact bxAllocS _ _ _ _ _ | with_reducible refine bxSet (v := .int .i64 0) ?_ _ | with_reducible refine bxSetO ?_ _ (by first | assumption | (simp; done) | omega) | with_reducible refine bxUp ?_ _ | with_reducible refine bxDrew ?_)); done)) | trace_state
  case rest =>
    obtain ⟨b1, b2, rfl, rfl, B1, B2, ⟨l1, l2⟩, hb⟩ := hcut
    go_wp2_with fail
    go_ret
    exact ⟨b1, b2, rfl, ⟨B1.1, B2.1, B1.2.1, B2.2.1⟩, ⟨by omega, by omega⟩, h0.out.trans (hb.mono (Nat.le_of_lt z0))⟩

theorem opening_any (m o : Int) {M S G : Nat} (W : Wh m o M S G) (w : World) :
    Calls Try.prog 80 #[fr m o] w fun e w' => ∃ b1 b2 : Nat, e = .returned (.func (.func 96) #[] #[.pointer (some ⟨b1, 0, none⟩), .pointer (some ⟨b2, 0, none⟩)]) ∧ Op w' b1 b2 S G ∧ Below w.heap.size w w' :=
  (opening_new m o W w).mono fun _ _ ⟨b1, b2, h1, h2, _, h4⟩ => ⟨b1, b2, h1, h2, h4⟩

end Go.Proofs.Ytflgjohknjgdcaa
