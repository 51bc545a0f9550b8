/- Texts taken apart between bytes, in the model. -/
import Derived.Test.YthphihfcgpoefaaDoorProg
import Derived.Test.YthphihfcgpoefaaDoorTexts
import Derived.Test.YthphihfcgpoefaaDoorSplitM
import Derived.Test.YthphihfcgpoefaaDoorRead
import Derived.Laws.AppendOwn
import Derived.Laws.OwnMore
import Derived.OwnWalk
import Derived.Tactics
import Derived.Tactics2
import Derived.WalkKit
import Derived.LoopTactic
import Derived.BigQuiet
import Derived.RegionTactic
import Derived.Deep.QuietTactic
import Derived.Outline
import Derived.Lib.Hide
import Derived.Below
import Derived.KernelRfl
namespace Go.Proofs.YthphihfcgpoefaaDoor
set_option linter.unusedSimpArgs false
set_option linter.unusedVariables false
open Go.RowKit

theorem text_bytes {a b : ByteArray} (h : a.data.toList = b.data.toList) : a = b := ByteArray.ext (Array.toList_inj.1 h)

theorem infoStr : (Tryd.prog.info? 9).map (fun i => (i.zero, i.size, i.bytes)) = some (some (.string ⟨#[]⟩), 1, 16) := by kernel_rfl
theorem one_newS (w : World) (x : ByteArray) (t : TypeId) : ∀ j u, [Value.string x][j]? = some u → (w.alloc (.cells #[.string x] t)).cell? ((⟨w.heap.size, 0, none⟩ : Addr).add j) = some u := by
  intro j u hj
  match j, hj with
  | 0, hj =>
    simp at hj
    subst hj
    simp [Addr.add]
theorem one_cellS (x : ByteArray) : ∀ u ∈ [Value.string x], u.oneCell' = true := by
  intro u hu
  simp at hu
  subst hu
  rfl
theorem get_at (s : ByteArray) (k : Nat) (h : k < s.size) : (s.get! k).toNat = (s[k]'h).toNat := by
  have : s.get! k = s[k]'h := by
    show s.data[k]! = s.data[k]
    exact getElem!_pos s.data k h
  rw [this]

set_option maxHeartbeats 2000000 in
/-- spec.l01Split, between slashes. -/
theorem l01Split_slash (s : ByteArray) (w : World) (hs : s.size ≤ 1048576) :
    Calls Tryd.prog 7 #[.string s, .int .u8 47] w fun e w' => ∃ v, e = .returned v ∧ Strs w' w.heap.size v (piecesB 47 s) ∧ Below w.heap.size w w' := by
  obtain ⟨i0, hi, hz0, hz1, hz2⟩ := info_parts infoStr
  go_enter Tryd.func7, Tryd.ntmps7
  go_wp2
  go_loopw [7, 6, 5] (fun i f v wr => ∃ k a : Nat, k ≤ s.size ∧ i = .int .i64 k ∧ f = .int .i64 a ∧ Hid (a = (cutsB 47 s k).2) ∧ a ≤ k ∧ Hid (wr.ownsRow w.heap.size 9 1 v (cutsB 47 s k).1.length (((cutsB 47 s k).1.map (piece s)).map Value.string)) ∧ Hid (Below w.heap.size w wr)) (fun i _ _ _ => s.size - (intOf i).toNat)
  case atStart => exact ⟨0, 0, Nat.zero_le _, rfl, rfl, Lib.hid rfl, Nat.le_refl _, Lib.hid (World.ownsRow_lit w #[] 0 (Nat.le_refl _) (Nat.zero_le _) rfl), Lib.hid (bAlloc (Below.refl _ _) _)⟩
  case round =>
    obtain ⟨k, a, hk, rfl, rfl, HA, hak, HO, HB⟩ := hrel
    have hbz := HB.out.size
    have hcl := cutsB_length 47 s k
    by_cases hlt : k < s.size
    · have hget := get_at s k hlt
      by_cases h47 : (s.get! k).toNat = 47
      · have HC := Lib.hid (cutsB_at (b := 47) h47)
        have hb : (((s[k]'hlt).toNat : Int) == 47) = true := by rw [beq_iff_eq, ← hget]; omega
        clear h47 hget
        go_wp2_with (first | (at_builtin; refine wpList_append_own _ rfl _ _ 28 rfl w.heap.size 9 i0 (.string ⟨#[]⟩) 1 16 Tryd.underlying28 hi hz0 hz1 hz2 rfl (by decide) _ _ _ rfl (HO.out.alloc _) ⟨wr.heap.size, 0, none⟩ 1 1 [.string (s.extract a k)] rfl rfl (one_newS _ _ _) (one_cellS _) (by unfold maxLen; omega) (by omega) (by simp; omega) ?_; intro v' w1 hown' hgrow hnil))
        have HO' := Lib.hid hown'
        have HB' := Lib.hid (Below.grown (bAlloc HB.out _) hgrow (by simp; omega) (fun j hj => (World.ownsRow.lt HO.out j hj).1))
        clear hown' hgrow hnil
        go_wp2
        go_roundw
        case rel => exact ⟨k + 1, k + 1, by omega, by go_num, by go_num, Lib.hid (by rw [HC.out]), Nat.le_refl _, Lib.hid (by rw [HC.out, List.map_append, List.map_append, List.length_append, ← HA.out]; exact HO'.out), HB'⟩
        case measure => simp [intOf]; omega
      · have HC := Lib.hid (cutsB_not (b := 47) h47)
        have hb : (((s[k]'hlt).toNat : Int) == 47) = false := by rw [beq_eq_false_iff_ne, ← hget]; omega
        clear h47 hget
        go_wp2
        go_roundw
        case rel => exact ⟨k + 1, a, by omega, by go_num, rfl, Lib.hid (by rw [HC.out]; exact HA.out), by omega, Lib.hid (by rw [HC.out]; exact HO.out), HB⟩
        case measure => simp [intOf]; omega
    · have : k = s.size := by omega
      subst this
      go_wp2_with (first | (at_builtin; refine wpList_append_own _ rfl _ _ 28 rfl w.heap.size 9 i0 (.string ⟨#[]⟩) 1 16 Tryd.underlying28 hi hz0 hz1 hz2 rfl (by decide) _ _ _ rfl (HO.out.alloc _) ⟨wr.heap.size, 0, none⟩ 1 1 [.string (s.extract a s.size)] rfl rfl (one_newS _ _ _) (one_cellS _) (by unfold maxLen; omega) (by omega) (by simp; omega) ?_; intro v' w1 hown' hgrow hnil))
      have HO' := Lib.hid hown'
      have HB' := Lib.hid (Below.grown (bAlloc HB.out _) hgrow (by simp; omega) (fun j hj => (World.ownsRow.lt HO.out j hj).1))
      clear hown' hgrow hnil
      go_wp2
      go_ret
      refine ⟨_, rfl, ?_, HB'.out⟩
      unfold Strs piecesB partsB
      rw [List.length_map, List.length_append, List.map_append, List.map_append, ← HA.out]
      exact HO'.out

set_option maxHeartbeats 2000000 in
/-- spec.l01Split, between letters x. -/
theorem l01Split_x (s : ByteArray) (w : World) (hs : s.size ≤ 1048576) :
    Calls Tryd.prog 7 #[.string s, .int .u8 120] w fun e w' => ∃ v, e = .returned v ∧ Strs w' w.heap.size v (piecesB 120 s) ∧ Below w.heap.size w w' := by
  obtain ⟨i0, hi, hz0, hz1, hz2⟩ := info_parts infoStr
  go_enter Tryd.func7, Tryd.ntmps7
  go_wp2
  go_loopw [7, 6, 5] (fun i f v wr => ∃ k a : Nat, k ≤ s.size ∧ i = .int .i64 k ∧ f = .int .i64 a ∧ Hid (a = (cutsB 120 s k).2) ∧ a ≤ k ∧ Hid (wr.ownsRow w.heap.size 9 1 v (cutsB 120 s k).1.length (((cutsB 120 s k).1.map (piece s)).map Value.string)) ∧ Hid (Below w.heap.size w wr)) (fun i _ _ _ => s.size - (intOf i).toNat)
  case atStart => exact ⟨0, 0, Nat.zero_le _, rfl, rfl, Lib.hid rfl, Nat.le_refl _, Lib.hid (World.ownsRow_lit w #[] 0 (Nat.le_refl _) (Nat.zero_le _) rfl), Lib.hid (bAlloc (Below.refl _ _) _)⟩
  case round =>
    obtain ⟨k, a, hk, rfl, rfl, HA, hak, HO, HB⟩ := hrel
    have hbz := HB.out.size
    have hcl := cutsB_length 120 s k
    by_cases hlt : k < s.size
    · have hget := get_at s k hlt
      by_cases h120 : (s.get! k).toNat = 120
      · have HC := Lib.hid (cutsB_at (b := 120) h120)
        have hb : (((s[k]'hlt).toNat : Int) == 120) = true := by rw [beq_iff_eq, ← hget]; omega
        clear h120 hget
        go_wp2_with (first | (at_builtin; refine wpList_append_own _ rfl _ _ 28 rfl w.heap.size 9 i0 (.string ⟨#[]⟩) 1 16 Tryd.underlying28 hi hz0 hz1 hz2 rfl (by decide) _ _ _ rfl (HO.out.alloc _) ⟨wr.heap.size, 0, none⟩ 1 1 [.string (s.extract a k)] rfl rfl (one_newS _ _ _) (one_cellS _) (by unfold maxLen; omega) (by omega) (by simp; omega) ?_; intro v' w1 hown' hgrow hnil))
        have HO' := Lib.hid hown'
        have HB' := Lib.hid (Below.grown (bAlloc HB.out _) hgrow (by simp; omega) (fun j hj => (World.ownsRow.lt HO.out j hj).1))
        clear hown' hgrow hnil
        go_wp2
        go_roundw
        case rel => exact ⟨k + 1, k + 1, by omega, by go_num, by go_num, Lib.hid (by rw [HC.out]), Nat.le_refl _, Lib.hid (by rw [HC.out, List.map_append, List.map_append, List.length_append, ← HA.out]; exact HO'.out), HB'⟩
        case measure => simp [intOf]; omega
      · have HC := Lib.hid (cutsB_not (b := 120) h120)
        have hb : (((s[k]'hlt).toNat : Int) == 120) = false := by rw [beq_eq_false_iff_ne, ← hget]; omega
        clear h120 hget
        go_wp2
        go_roundw
        case rel => exact ⟨k + 1, a, by omega, by go_num, rfl, Lib.hid (by rw [HC.out]; exact HA.out), by omega, Lib.hid (by rw [HC.out]; exact HO.out), HB⟩
        case measure => simp [intOf]; omega
    · have : k = s.size := by omega
      subst this
      go_wp2_with (first | (at_builtin; refine wpList_append_own _ rfl _ _ 28 rfl w.heap.size 9 i0 (.string ⟨#[]⟩) 1 16 Tryd.underlying28 hi hz0 hz1 hz2 rfl (by decide) _ _ _ rfl (HO.out.alloc _) ⟨wr.heap.size, 0, none⟩ 1 1 [.string (s.extract a s.size)] rfl rfl (one_newS _ _ _) (one_cellS _) (by unfold maxLen; omega) (by omega) (by simp; omega) ?_; intro v' w1 hown' hgrow hnil))
      have HO' := Lib.hid hown'
      have HB' := Lib.hid (Below.grown (bAlloc HB.out _) hgrow (by simp; omega) (fun j hj => (World.ownsRow.lt HO.out j hj).1))
      clear hown' hgrow hnil
      go_wp2
      go_ret
      refine ⟨_, rfl, ?_, HB'.out⟩
      unfold Strs piecesB partsB
      rw [List.length_map, List.length_append, List.map_append, List.map_append, ← HA.out]
      exact HO'.out

end Go.Proofs.YthphihfcgpoefaaDoor
