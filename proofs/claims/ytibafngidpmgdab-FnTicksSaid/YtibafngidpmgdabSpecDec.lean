/- spec.Decimal: the digits are put in front of those that are there. -/
import Derived.Test.YtibafngidpmgdabLeaf
import Derived.Test.YtibafngidpmgdabDigits
import Derived.Test.YtibafngidpmgdabBuild
import Derived.Tactics
import Derived.Tactics2
import Derived.WalkKit
import Derived.LoopTactic
import Derived.OwnWalk
import Derived.Laws.AppendOwn
import Derived.Laws.OwnMore
import Derived.Laws.BytesString
import Derived.Laws.Cells
import Derived.Lib.RuneBytes
import Derived.Outline
import Derived.Lib.Hide
import Derived.Below
import Derived.KernelRfl
namespace Go.Proofs.Ytibafngidpmgdab
open Go.RowKit
set_option linter.unusedSimpArgs false
set_option linter.unusedVariables false

theorem pushAll (l : List UInt8) : ∀ s : ByteArray, (l.map fun c => (c.toNat : Int)).foldl (fun r n => r.push (UInt8.ofNat n.toNat)) s = ⟨s.data ++ l.toArray⟩ := by
  induction l with
  | nil => intro s; simp
  | cons c l ih =>
    intro s
    simp only [List.map_cons, List.foldl_cons]
    rw [ih]
    have e : UInt8.ofNat ((c.toNat : Int)).toNat = c := by simp
    rw [e]
    simp [ByteArray.push, ← Array.toList_inj]

/-- string(b) of a row that the call made. -/
theorem string_of_own (B g : Nat) (l : List UInt8) (cap : Nat) (w : World) (hown : w.ownsRow B 5 1 (.slice (some ⟨g, 0, none⟩) l.length cap) l.length (Lib.byteCells l)) :
    (convert 22 9 (.slice (some ⟨g, 0, none⟩) l.length cap)).run Try.prog w = .ok (.string ⟨l.toArray⟩) w := by
  rw [run_convert_bytes_string w _ _ _ _ _ _ Try.underlying22 Try.underlying5 Try.underlying9]
  have hc := hown.cells (g := g) rfl
  have hl := run_loadCells_list (P := Try.prog) (w := w) (⟨g, 0, none⟩ : Addr) (Lib.byteCells l) hc
  have e : (Lib.byteCells l) = (l.map fun c => (c.toNat : Int)).map (Value.int .u8) := by simp [Lib.byteCells]
  rw [Lib.byteCells_length] at hl
  rw [e] at hl
  rw [run_bytesToString w _ l.length cap _ hl, pushAll]
  have e2 : ByteArray.empty.data ++ l.toArray = l.toArray := by
    show (#[] : Array UInt8) ++ l.toArray = l.toArray
    simp
  rw [e2]

theorem ret_str {a b : ByteArray} (h : a = b) : Ending.returned (.string a) = .returned (.string b) := by rw [h]
theorem minus_bytes (l : List UInt8) : (⟨#[45]⟩ ++ ⟨l.toArray⟩ : ByteArray) = ⟨(45 :: l).toArray⟩ := by
  apply ByteArray.ext
  simp [← Array.toList_inj]

theorem bytes_one (l : List UInt8) : ∀ u ∈ Lib.byteCells l, u.oneCell' = true := by
  intro u hu
  simp only [Lib.byteCells, List.mem_map] at hu
  obtain ⟨x, _, rfl⟩ := hu
  rfl

end Go.Proofs.Ytibafngidpmgdab
