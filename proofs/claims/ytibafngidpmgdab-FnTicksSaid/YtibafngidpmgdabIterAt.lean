/- A range over a string whose round writes into other blocks: the iterator by its block. -/
import Derived.Test.YtibafngidpmgdabLeaf
import Derived.Laws.RangeString
import Derived.Laws.AppendOwn
import Derived.Laws.OwnMore
import Derived.Tactics
import Derived.Tactics2
import Derived.WalkKit
import Derived.Below
namespace Go.Proofs.Ytibafngidpmgdab
set_option linter.unusedSimpArgs false
set_option linter.unusedVariables false
open Go.RowKit

/-- The iterator of block b stands at another place. -/
def iterAt (W : World) (b : Nat) (s : ByteArray) (p : Nat) : World := { W with heap := W.heap.setIfInBounds b (.stringIter s p) }
theorem iterAt_heap {W : World} {b : Nat} {s : ByteArray} {p q : Nat} (h : W.heap[b]? = some (.stringIter s q)) : (iterAt W b s p).heap[b]? = some (.stringIter s p) := by
  have hb : b < W.heap.size := (Array.getElem?_eq_some_iff.1 h).1
  show (W.heap.setIfInBounds b (.stringIter s p))[b]? = _
  rw [Array.getElem?_setIfInBounds, if_pos rfl, if_pos hb]
theorem iterAt_other {W : World} {b k : Nat} {s : ByteArray} {p : Nat} (h : k ≠ b) : (iterAt W b s p).heap[k]? = W.heap[k]? := by
  show (W.heap.setIfInBounds b (.stringIter s p))[k]? = _
  rw [Array.getElem?_setIfInBounds, if_neg (fun e => h e.symm)]
theorem iterAt_size (W : World) (b : Nat) (s : ByteArray) (p : Nat) : (iterAt W b s p).heap.size = W.heap.size := by
  show (W.heap.setIfInBounds b (.stringIter s p)).size = _
  simp
theorem iterAt_grown (W : World) (b : Nat) (s : ByteArray) (p : Nat) : W.grownBy (iterAt W b s p) (some b) :=
  ⟨rfl, rfl, rfl, Nat.le_of_eq (iterAt_size W b s p).symm, fun k _ hne => iterAt_other (fun e => hne (by rw [e]))⟩
theorem iterAt_below {w W : World} {b : Nat} {s : ByteArray} {p : Nat} (h : Below w.heap.size w W) (hb : w.heap.size ≤ b) : Below w.heap.size w (iterAt W b s p) :=
  ⟨h.os, h.tape, h.output, by rw [iterAt_size]; exact h.size, fun k hk => (iterAt_other (by omega)).trans (h.block k hk)⟩
theorem run_next_at {P : Program} (W : World) (b : Nat) (s : ByteArray) (pos : Nat) (ty : TypeId) (hb : W.heap[b]? = some (.stringIter s pos)) (h : pos < s.size) (ha : (s[pos]'h).toNat < 128) :
    (Instr.next (.pointer (some ⟨b, 0, none⟩)) true ty).run P W = .ok (.tuple #[.bool true, .int .i64 pos, .int .i32 (s[pos]'h).toNat]) (iterAt W b s (pos + 1)) := by
  simp only [Instr.next, getObj, setObj, Sem.run_bind, Sem.run, hb, Result.andThen, h, if_true, decode_ascii s pos h ha]
  simp [goInt, Sem.run, hb, iterAt]
theorem run_next_stop {P : Program} (W : World) (b : Nat) (s : ByteArray) (pos : Nat) (ty : TypeId) (hb : W.heap[b]? = some (.stringIter s pos)) (h : ¬ pos < s.size) :
    (Instr.next (.pointer (some ⟨b, 0, none⟩)) true ty).run P W = .ok (.tuple #[.bool false]) W := by
  simp [Instr.next, getObj, Sem.run, hb, h]

end Go.Proofs.Ytibafngidpmgdab
