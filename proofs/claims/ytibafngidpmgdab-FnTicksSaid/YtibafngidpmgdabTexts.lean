/- Lists of texts as results: compared, marked and looked at again by the statements. -/
import Derived.Test.YtibafngidpmgdabProg
import Derived.Test.YtibafngidpmgdabLeaf
import Derived.Test.YtibafngidpmgdabSpecDec
import Derived.Laws.AppendOwn
import Derived.Laws.OwnMore
import Derived.OwnWalk
import Derived.Laws.BytesString
import Derived.Laws.Cells
import Derived.Tactics
import Derived.Tactics2
import Derived.WalkKit
import Derived.LoopTactic
import Derived.BigQuiet
import Derived.RegionTactic
import Derived.BigRegion
import Derived.Deep.QuietTactic
import Derived.Deep.RegionWith
import Derived.Deep.DrawnRows
import Derived.Deep.RegionHeld3
import Derived.Outline
import Derived.Lib.Hide
import Derived.Below
import Derived.KernelRfl
namespace Go.Proofs.Ytibafngidpmgdab
set_option linter.unusedSimpArgs false
set_option linter.unusedVariables false
open Go.RowKit

/-- A list of texts of the call's own: nil, or a row in a block from B on. -/
abbrev Strs (w : World) (B : Nat) (v : Value) (zs : List ByteArray) : Prop := w.ownsRow B 9 1 v zs.length (zs.map Value.string)

/-- The same, opened. -/
theorem Strs.view {w : World} {B : Nat} {v : Value} {zs : List ByteArray} (h : Strs w B v zs) :
    (v = .slice none 0 0 ∧ zs = []) ∨ ∃ g cap, v = .slice (some ⟨g, 0, none⟩) zs.length cap ∧ B ≤ g ∧ g < w.heap.size ∧ zs.length ≤ maxLen ∧
      (∀ j, j < zs.length → w.cell? ⟨g, j, none⟩ = some (.string (zs.getD j ByteArray.empty))) ∧ ∀ j, w.frozen? ⟨g, j, none⟩ = false := by
  have h' := h
  obtain ⟨_, h2⟩ := h
  rcases h2 with ⟨rfl, h0⟩ | ⟨g, cap, cur, rfl, hB, hg, hn, hm, _, _⟩
  · exact .inl ⟨rfl, List.length_eq_zero_iff.1 h0⟩
  · refine .inr ⟨g, cap, rfl, hB, (Array.getElem?_eq_some_iff.1 hg).1, by omega, fun j hj => ?_, fun j => h'.frozenAt j⟩
    rw [h'.cellAt j (by omega), List.getElem?_map, List.getElem?_eq_getElem hj, List.getD_eq_getElem?_getD, List.getElem?_eq_getElem hj]
    rfl

theorem grownNone0 {w u : World} (h : Below w.heap.size w u) (r : Option Nat) : w.grownBy u r := ⟨h.os, h.tape, h.output, h.size, fun k hk _ => h.block k hk⟩
theorem Strs.below {w u : World} {B : Nat} {v : Value} {zs : List ByteArray} (h : Strs w B v zs) (hb : Below w.heap.size w u) : Strs u B v zs := by
  cases hv : v.ownBlock with
  | none => exact World.ownsRow.kept h (grownNone0 hb none) (.inl hv)
  | some k => exact World.ownsRow.kept h (grownNone0 hb none) (.inr (by rw [hv]; simp))
theorem Strs.drewN {w : World} {B : Nat} {v : Value} {zs : List ByteArray} (h : Strs w B v zs) (n : Nat) : Strs (w.drewN n) B v zs := h

theorem bUndrew0 {w u : World} (h : Below w.drew.heap.size w.drew u) : Below w.heap.size w u := ⟨h.os, h.tape, h.output, h.size, h.block⟩
theorem ownsBelow {w u : World} {B : Nat} {e : TypeId} {z : Nat} {v : Value} {n : Nat} {xs : List Value} (h : w.ownsRow B e z v n xs) (hb : Below w.heap.size w u) : u.ownsRow B e z v n xs := by
  cases hv : v.ownBlock with
  | none => exact World.ownsRow.kept h (grownNone0 hb none) (.inl hv)
  | some k => exact World.ownsRow.kept h (grownNone0 hb none) (.inr (by rw [hv]; simp))

/-- The text that a statement lays into a list as its k-th mark. -/
def markT (k : Nat) : ByteArray := ⟨(109 :: digs0 k).toArray⟩

theorem mark_bytes (l : List UInt8) : (⟨#[109]⟩ ++ ⟨l.toArray⟩ : ByteArray) = ⟨(109 :: l).toArray⟩ := by
  apply ByteArray.ext
  simp [← Array.toList_inj]
theorem one_bytes (c : UInt8) (l : List UInt8) : (⟨#[c]⟩ ++ ⟨l.toArray⟩ : ByteArray) = ⟨(c :: l).toArray⟩ := by
  apply ByteArray.ext
  simp [← Array.toList_inj]

set_option maxHeartbeats 1000000 in
set_option maxRecDepth 100000 in
/-- laws.markText. -/
theorem markText_any (n : Nat) (w : World) (h1 : 1 ≤ n) (h2 : n ≤ 1000000000) :
    Calls Try.prog 69 #[.int .i64 n] w fun e w' => e = .returned (.string (markT n)) ∧ Below w.heap.size w w' := by
  have hD := Lib.hid (digs0_length (n := n) (by omega))
  go_enter Try.func69, Try.ntmps69
  go_wp2
  go_loopw [3, 0] (fun o k wr => ∃ (a : Nat) (l : List UInt8), k = .int .i64 a ∧ o = .string ⟨l.toArray⟩ ∧ a ≤ 1000000000 ∧ Hid (digs0 a ++ l = digs0 n) ∧ Hid (Below w.heap.size w wr)) (fun _ k _ => (intOf k).toNat)
  case atStart => exact ⟨n, [], rfl, rfl, h2, Lib.hid (by simp), Lib.hid (Below.refl _ _)⟩
  case round =>
    obtain ⟨a, l, rfl, rfl, ha, HI, HB⟩ := hrel
    have hbz := HB.out.size
    have hll : l.length ≤ 20 := by
      have h3 := congrArg List.length HI.out
      have h4 := hD.out
      simp at h3
      omega
    by_cases h0 : a = 0
    · subst h0
      have hl : l = digs0 n := by
        have h3 := HI.out
        simpa [digs0_zero] using h3
      subst hl
      have HM := Lib.hid (mark_bytes (digs0 n))
      have hsz : (⟨(digs0 n).toArray⟩ : ByteArray).size ≤ 20 := by simpa [ByteArray.size] using hll
      clear HI
      go_wp2
      go_ret
      exact ⟨ret_str HM.out, HB.out⟩
    · have hstep := Lib.hid (digs0_step h0)
      have h48 : (48 + (a : Int) % 10) = ((dig a).toNat : Int) := by rw [dig_toNat]; omega
      have hcell : [Value.int .u8 (48 + (a : Int) % 10)] = Lib.byteCells [dig a] := by rw [h48]; rfl
      have hcv := string_of_own wr.heap.size wr.heap.size [dig a] 1 (wr.alloc (.cells #[.int .u8 (48 + (a : Int) % 10)] 5)) (by rw [← hcell]; exact World.ownsRow_lit wr #[.int .u8 (48 + (a : Int) % 10)] 1 (Nat.le_refl _) (by decide) rfl)
      have HC := Lib.hid (one_bytes (dig a) l)
      have hsz : (⟨l.toArray⟩ : ByteArray).size ≤ 20 := by simpa [ByteArray.size] using hll
      have hs1 : (⟨[dig a].toArray⟩ : ByteArray).size = 1 := rfl
      have hcv : (convert 22 9 (.slice (some ⟨wr.heap.size, 0, none⟩) 1 1)).run Try.prog (wr.alloc (.cells #[.int .u8 (48 + (a : Int) % 10)] 5)) = .ok (.string ⟨[dig a].toArray⟩) (wr.alloc (.cells #[.int .u8 (48 + (a : Int) % 10)] 5)) := hcv
      clear hcell h48
      go_wp2
      go_roundw
      case rel => exact ⟨a / 10, dig a :: l, by go_num, by rw [← HC.out], by omega, Lib.hid (by rw [← HI.out, hstep.out]; simp), Lib.hid (bAlloc HB.out _)⟩
      case measure => simp [intOf]; omega

/-- The marks that a statement lays into a list of texts. -/
def marksS (k0 n : Nat) : List ByteArray := (List.range n).map fun i => markT (k0 + i)
theorem marksS_length (k0 n : Nat) : (marksS k0 n).length = n := by simp [marksS]
theorem marksS_get (k0 n j : Nat) (h : j < n) : (marksS k0 n).getD j ByteArray.empty = markT (k0 + j) := by
  unfold marksS
  rw [List.getD_eq_getElem?_getD, List.getElem?_map, List.getElem?_range h]
  rfl
theorem marksS_step (k0 i : Nat) (zs : List ByteArray) (h : i < zs.length) : (marksS k0 i ++ zs.drop i).set i (markT (k0 + i)) = marksS k0 (i + 1) ++ zs.drop (i + 1) := by
  have hl := marksS_length k0 i
  rw [List.set_append_right _ _ (by omega), hl, Nat.sub_self, List.drop_eq_getElem_cons h, List.set_cons_zero]
  unfold marksS
  rw [List.range_succ, List.map_append, List.append_assoc]
  rfl

theorem grownThen {w u x : World} {r : Option Nat} (h : w.grownBy u r) (k : u.grownBy x r) : w.grownBy x r :=
  ⟨k.os.trans h.os, k.tape.trans h.tape, k.output.trans h.output, Nat.le_trans h.size k.size, fun j hj hne => (k.block j (Nat.lt_of_lt_of_le hj h.size) hne).trans (h.block j hj hne)⟩

end Go.Proofs.Ytibafngidpmgdab
