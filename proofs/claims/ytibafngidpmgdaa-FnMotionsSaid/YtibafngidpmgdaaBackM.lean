/- A motion backwards: the model, and BackMotion's statement. -/
import Derived.Test.YtibafngidpmgdaaRev
import Derived.Test.YtibafngidpmgdaaMotLaws
import Derived.OwnWalk
import Derived.Tactics
import Derived.Tactics2
import Derived.WalkKit
import Derived.LoopTactic
import Derived.BigQuiet
import Derived.Outline
import Derived.Lib.Hide
import Derived.Below
import Derived.KernelRfl
namespace Go.Proofs.Ytibafngidpmgdaa
set_option linter.unusedSimpArgs false
set_option linter.unusedVariables false
open Go.RowKit

theorem back_row (s : ByteArray) : rowL (fun j => letter s (s.size - 1 - j)) s.size = s.data.toList.reverse := by
  apply List.ext_getElem
  · rw [rowL_length, List.length_reverse, size_list]
  · intro j h1 h2
    rw [rowL_length] at h1
    simp only [rowL, List.getElem_map, List.getElem_range, List.getElem_reverse]
    rw [letter, List.getD_eq_getElem?_getD, List.getElem?_eq_getElem (by rw [size_list]; omega)]
    simp only [Option.getD_some]
    congr 1

set_option maxHeartbeats 1000000 in
/-- spec.l06Back. -/
theorem l06Back_any (s : ByteArray) (w : World) (s1 : 1 ≤ s.size) (s2 : s.size ≤ 24) :
    Calls Try.prog 140 #[.string s] w fun e w' => e = .returned (.string (backB s)) ∧ Below w.heap.size w w' := by
  obtain ⟨i0, hi, hz0, hz1, hz2⟩ := info_parts infoU8
  have BR := Lib.hid (back_row s)
  have RS := Lib.hid (rowL_succ (fun j => letter s (s.size - 1 - j)))
  go_enter Try.func140, Try.ntmps140
  go_wp2
  go_loopw [4, 3] (fun i v wr => ∃ k : Nat, k ≤ s.size ∧ i = .int .i64 ((s.size : Int) - 1 - k) ∧ Hid (wr.ownsRow w.heap.size 5 1 v k (Lib.byteCells (rowL (fun j => letter s (s.size - 1 - j)) k))) ∧ Hid (Below w.heap.size w wr)) (fun i _ _ => (intOf i + 1).toNat)
  case atStart => exact ⟨0, Nat.zero_le _, by go_num, Lib.hid (World.ownsRow_lit w #[] 0 (Nat.le_refl _) (Nat.zero_le _) rfl), Lib.hid (bAlloc (Below.refl _ _) _)⟩
  case round =>
    obtain ⟨k, hk, rfl, HO, HB⟩ := hrel
    by_cases hlt : k < s.size
    · obtain ⟨q, hqe⟩ : ∃ q, s.size - 1 - k = q := ⟨_, rfl⟩
      have hq : q < s.size := by omega
      have e1 : (s.size : Int) - 1 - k = (q : Int) := by omega
      rw [e1]
      have HR := RS.out k
      rw [hqe, ← letter_of hq] at HR
      have HR' := Lib.hid HR
      have hbz := HB.out.size
      clear HR
      go_wp2_with (at_builtin; refine wpList_append_own _ rfl _ _ 40 rfl w.heap.size 5 i0 (.int .u8 0) 1 1 Try.underlying40 hi hz0 hz1 hz2 rfl (by decide) _ _ _ rfl (HO.out.alloc _) ⟨wr.heap.size, 0, none⟩ 1 1 [.int .u8 ((s[q]'hq).toNat : Int)] rfl rfl (newByte _ _ _) (oneByte _) (by unfold maxLen; omega) (by omega) (by simp; omega) ?_; intro v' w1 hown' hgrow hnil)
      have HO' := Lib.hid hown'
      have HB' := Lib.hid (Below.grown (bAlloc HB.out _) hgrow (by simp; omega) (fun j hj => (World.ownsRow.lt HO.out j hj).1))
      clear hown' hgrow hnil
      go_wp2
      go_roundw
      case rel => exact ⟨k + 1, by omega, by go_num, Lib.hid (by rw [HR'.out, Lib.byteCells_append, byteOne]; exact HO'.out), HB'⟩
      case measure => simp [intOf]
    · have hks : k = s.size := by omega
      rw [hks] at HO ⊢
      obtain ⟨m, hm⟩ : ∃ m, s.size = m + 1 := ⟨s.size - 1, by omega⟩
      obtain ⟨g, cap, rfl⟩ : ∃ g cap, u3 = .slice (some ⟨g, 0, none⟩) s.size cap := by
        rcases HO.out.2 with ⟨_, h0⟩ | ⟨g, cap, _, h0, _⟩
        · omega
        · exact ⟨g, cap, h0⟩
      have hcv := textOwn _ g s.size _ cap wr (rowL_length _ _) HO.out
      rw [BR.out] at hcv
      have e1 : (s.size : Int) - 1 - s.size = -1 := by omega
      rw [e1]
      clear hm hks hlt hk e1
      go_wp2
      go_ret
      exact ⟨rfl, HB.out⟩

/-- What a motion is backwards. -/
theorem specBack_any (s : ByteArray) (w : World) (hs : s.size ≤ maxLen) :
    Calls Try.prog 80 #[.string s] w fun e w' => e = .returned (.tuple #[.string (if motB s = true then backB s else ⟨#[]⟩), .int .i64 (if motB s = true then 0 else 1)]) ∧ Below w.heap.size w w' := by
  cases hm : motB s
  · go_enter Try.func80, Try.ntmps80
    go_wp2_with fail
    refine (l06Ok_any s _ hs).mono ?_
    rintro e u ⟨rfl, rfl⟩
    rw [hm]
    go_wp2_with fail
    go_ret2
    exact ⟨rfl, Below.refl _ _⟩
  · obtain ⟨s1, s2⟩ := motB_size hm
    go_enter Try.func80, Try.ntmps80
    go_wp2_with fail
    refine (l06Ok_any s _ hs).mono ?_
    rintro e u ⟨rfl, rfl⟩
    rw [hm]
    go_wp2_with fail
    refine (l06Back_any s _ s1 s2).mono ?_
    rintro e u ⟨rfl, hb⟩
    go_wp2_with fail
    go_ret2
    exact ⟨rfl, hb⟩
theorem implBack_any (s : ByteArray) (w : World) (hs : s.size ≤ maxLen) :
    Calls Try.prog 69 #[.string s] w fun e w' => e = .returned (.tuple #[.string (if motB s = true then backB s else ⟨#[]⟩), .int .i64 (if motB s = true then 0 else 1)]) ∧ Below w.heap.size w w' := by
  cases hm : motB s
  · go_enter Try.func69, Try.ntmps69
    go_wp2_with fail
    refine (implMotion_any s _ hs).mono ?_
    rintro e u ⟨rfl, hb⟩
    rw [hm]
    go_wp2_with fail
    go_ret2
    exact ⟨rfl, hb⟩
  · obtain ⟨s1, s2⟩ := motB_size hm
    go_enter Try.func69, Try.ntmps69
    go_wp2_with fail
    refine (implMotion_any s _ hs).mono ?_
    rintro e u ⟨rfl, hb⟩
    rw [hm]
    go_wp2_with fail
    refine (backwards_any s _ s1 s2).mono ?_
    rintro e u ⟨rfl, hb2⟩
    go_wp2_with fail
    go_ret2
    exact ⟨rfl, bTrans hb hb2⟩

/-- laws.FnExactBackMotion. -/
theorem law_BackMotion (s : ByteArray) (w : World) (hs : s.size ≤ maxLen) :
    Calls Try.prog 16 #[.string s] w fun e w' => e = .returned (.bool true) ∧ Below w.heap.size w w' := by
  by_cases hl : 1048576 < s.size
  · exact lawBackMotion_big0 s w hs hl
  · exact lawBackMotion_of s _ _ w hs hl (fun u => specBack_any s u hs) (fun u => implBack_any s u hs)

end Go.Proofs.Ytibafngidpmgdaa
