/- Lists of texts as results: compared, marked and looked at again by the statements. -/
import Derived.Test.YtmgkoijnjhfinaaProg
import Derived.Test.YtmgkoijnjhfinaaLeaf
import Derived.Test.YtmgkoijnjhfinaaSpecDec
import Derived.Laws.AppendOwn
import Derived.Laws.OwnMore
import Derived.OwnWalk
import Derived.Laws.BytesString
import Derived.Laws.Cells
import Derived.Tactics
import Derived.Tactics2
import Derived.WalkKit
import Derived.LoopTactic
import Derived.BigQuiet
import Derived.RegionTactic
import Derived.BigRegion
import Derived.Deep.QuietTactic
import Derived.Deep.RegionWith
import Derived.Deep.DrawnRows
import Derived.Deep.RegionHeld3
import Derived.Outline
import Derived.Lib.Hide
import Derived.Below
import Derived.KernelRfl
namespace Go.Proofs.Ytmgkoijnjhfinaa
set_option linter.unusedSimpArgs false
set_option linter.unusedVariables false
open Go.RowKit

/-- A list of texts of the call's own: nil, or a row in a block from B on. -/
abbrev Strs (w : World) (B : Nat) (v : Value) (zs : List ByteArray) : Prop := w.ownsRow B 9 1 v zs.length (zs.map Value.string)

/-- The same, opened. -/
theorem Strs.view {w : World} {B : Nat} {v : Value} {zs : List ByteArray} (h : Strs w B v zs) :
    (v = .slice none 0 0 ∧ zs = []) ∨ ∃ g cap, v = .slice (some ⟨g, 0, none⟩) zs.length cap ∧ B ≤ g ∧ g < w.heap.size ∧ zs.length ≤ maxLen ∧
      (∀ j, j < zs.length → w.cell? ⟨g, j, none⟩ = some (.string (zs.getD j ByteArray.empty))) ∧ ∀ j, w.frozen? ⟨g, j, none⟩ = false := by
  have h' := h
  obtain ⟨_, h2⟩ := h
  rcases h2 with ⟨rfl, h0⟩ | ⟨g, cap, cur, rfl, hB, hg, hn, hm, _, _⟩
  · exact .inl ⟨rfl, List.length_eq_zero_iff.1 h0⟩
  · refine .inr ⟨g, cap, rfl, hB, (Array.getElem?_eq_some_iff.1 hg).1, by omega, fun j hj => ?_, fun j => h'.frozenAt j⟩
    rw [h'.cellAt j (by omega), List.getElem?_map, List.getElem?_eq_getElem hj, List.getD_eq_getElem?_getD, List.getElem?_eq_getElem hj]
    rfl

theorem grownNone0 {w u : World} (h : Below w.heap.size w u) (r : Option Nat) : w.grownBy u r := ⟨h.os, h.tape, h.output, h.size, fun k hk _ => h.block k hk⟩
theorem Strs.below {w u : World} {B : Nat} {v : Value} {zs : List ByteArray} (h : Strs w B v zs) (hb : Below w.heap.size w u) : Strs u B v zs := by
  cases hv : v.ownBlock with
  | none => exact World.ownsRow.kept h (grownNone0 hb none) (.inl hv)
  | some k => exact World.ownsRow.kept h (grownNone0 hb none) (.inr (by rw [hv]; simp))
theorem Strs.drewN {w : World} {B : Nat} {v : Value} {zs : List ByteArray} (h : Strs w B v zs) (n : Nat) : Strs (w.drewN n) B v zs := h

/-- laws.eqStringS, of one list twice. -/
theorem eqStringS_same (B C : Nat) (v u : Value) (zs : List ByteArray) (w : World) (hv : Strs w B v zs) (hu : Strs w C u zs) :
    Calls Try.prog 33 #[v, u] w fun e w' => e = .returned (.bool true) ∧ ∃ n, w' = w.drewN n := by
  rcases hv.view with ⟨rfl, rfl⟩ | ⟨g, cap, rfl, hB, hg, hm, hc, hf⟩
  · obtain ⟨a, cp, rfl⟩ : ∃ a cp, u = .slice a 0 cp := by
      rcases hu.view with ⟨rfl, _⟩ | ⟨g, cap, rfl, _⟩
      · exact ⟨_, _, rfl⟩
      · exact ⟨_, _, rfl⟩
    clear hv hu
    go_enter Try.func33, Try.ntmps33
    go_wp2
    refine wp_loop_rounds 1 ?_
    rw [rounds_succ]
    go_wp2
    go_ret
    exact ⟨rfl, 0, rfl⟩
  · obtain ⟨a, cp, rfl, hk⟩ : ∃ a cp, u = .slice a zs.length cp ∧ (zs = [] ∨ ∃ d, a = some ⟨d, 0, none⟩ ∧ ∀ j, j < zs.length → w.cell? ⟨d, j, none⟩ = some (.string (zs.getD j ByteArray.empty))) := by
      rcases hu.view with ⟨rfl, rfl⟩ | ⟨d, cap, rfl, _, _, _, hd, _⟩
      · exact ⟨_, _, rfl, .inl rfl⟩
      · exact ⟨_, _, rfl, .inr ⟨_, rfl, hd⟩⟩
    clear hv hu hf
    unfold maxLen at hm
    rcases hk with rfl | ⟨d, rfl, hd⟩
    · go_enter Try.func33, Try.ntmps33
      go_wp2
      refine wp_loop_rounds 1 ?_
      rw [rounds_succ]
      go_wp2
      go_ret
      exact ⟨rfl, 0, rfl⟩
    · go_enter Try.func33, Try.ntmps33
      go_wp2
      go_loopw [5] (fun i wr => ∃ k : Nat, k ≤ zs.length ∧ i = .int .i64 k ∧ ∃ n, Hid (wr = w.drewN n)) (fun i _ => zs.length - (intOf i).toNat)
      case atStart => exact ⟨0, Nat.zero_le _, rfl, 0, Lib.hid rfl⟩
      case round =>
        obtain ⟨k, hk, rfl, n, HW⟩ := hrel
        by_cases hlt : k < zs.length
        · have c1 : wr.cell? ⟨g, k, none⟩ = some (.string (zs.getD k ByteArray.empty)) := by rw [HW.out]; exact hc k hlt
          have c2 : wr.cell? ⟨d, k, none⟩ = some (.string (zs.getD k ByteArray.empty)) := by rw [HW.out]; exact hd k hlt
          generalize zs.getD k ByteArray.empty = z at *
          go_wp2
          go_quiet (fail)
          go_wp2
          go_roundw
          case rel => exact ⟨k + 1, by omega, by go_num, _, Lib.hid (by rw [HW.out, World.drewN_drewN])⟩
          case measure => simp [intOf]; omega
        · have : k = zs.length := by omega
          subst this
          go_wp2
          go_ret
          exact ⟨rfl, n, HW.out⟩

theorem bUndrew0 {w u : World} (h : Below w.drew.heap.size w.drew u) : Below w.heap.size w u := ⟨h.os, h.tape, h.output, h.size, h.block⟩
theorem ownsBelow {w u : World} {B : Nat} {e : TypeId} {z : Nat} {v : Value} {n : Nat} {xs : List Value} (h : w.ownsRow B e z v n xs) (hb : Below w.heap.size w u) : u.ownsRow B e z v n xs := by
  cases hv : v.ownBlock with
  | none => exact World.ownsRow.kept h (grownNone0 hb none) (.inl hv)
  | some k => exact World.ownsRow.kept h (grownNone0 hb none) (.inr (by rw [hv]; simp))

/-- The text that a statement lays into a list as its k-th mark. -/
def markT (k : Nat) : ByteArray := ⟨(109 :: digs0 k).toArray⟩

theorem mark_bytes (l : List UInt8) : (⟨#[109]⟩ ++ ⟨l.toArray⟩ : ByteArray) = ⟨(109 :: l).toArray⟩ := by
  apply ByteArray.ext
  simp [← Array.toList_inj]
theorem one_bytes (c : UInt8) (l : List UInt8) : (⟨#[c]⟩ ++ ⟨l.toArray⟩ : ByteArray) = ⟨(c :: l).toArray⟩ := by
  apply ByteArray.ext
  simp [← Array.toList_inj]

set_option maxHeartbeats 1000000 in
/-- laws.markText. -/
theorem markText_any (n : Nat) (w : World) (h1 : 1 ≤ n) (h2 : n ≤ 1000000000) :
    Calls Try.prog 67 #[.int .i64 n] w fun e w' => e = .returned (.string (markT n)) ∧ Below w.heap.size w w' := by
  have hD := Lib.hid (digs0_length (n := n) (by omega))
  go_enter Try.func67, Try.ntmps67
  go_wp2
  go_loopw [3, 0] (fun o k wr => ∃ (a : Nat) (l : List UInt8), k = .int .i64 a ∧ o = .string ⟨l.toArray⟩ ∧ a ≤ 1000000000 ∧ Hid (digs0 a ++ l = digs0 n) ∧ Hid (Below w.heap.size w wr)) (fun _ k _ => (intOf k).toNat)
  case atStart => exact ⟨n, [], rfl, rfl, h2, Lib.hid (by simp), Lib.hid (Below.refl _ _)⟩
  case round =>
    obtain ⟨a, l, rfl, rfl, ha, HI, HB⟩ := hrel
    have hbz := HB.out.size
    have hll : l.length ≤ 20 := by
      have h3 := congrArg List.length HI.out
      have h4 := hD.out
      simp at h3
      omega
    by_cases h0 : a = 0
    · subst h0
      have hl : l = digs0 n := by
        have h3 := HI.out
        simpa [digs0_zero] using h3
      subst hl
      have HM := Lib.hid (mark_bytes (digs0 n))
      have hsz : (⟨(digs0 n).toArray⟩ : ByteArray).size ≤ 20 := by simpa [ByteArray.size] using hll
      clear HI
      go_wp2
      go_ret
      exact ⟨ret_str HM.out, HB.out⟩
    · have hstep := Lib.hid (digs0_step h0)
      have h48 : (48 + (a : Int) % 10) = ((dig a).toNat : Int) := by rw [dig_toNat]; omega
      have hcell : [Value.int .u8 (48 + (a : Int) % 10)] = Lib.byteCells [dig a] := by rw [h48]; rfl
      have hcv := string_of_own wr.heap.size wr.heap.size [dig a] 1 (wr.alloc (.cells #[.int .u8 (48 + (a : Int) % 10)] 5)) (by rw [← hcell]; exact World.ownsRow_lit wr #[.int .u8 (48 + (a : Int) % 10)] 1 (Nat.le_refl _) (by decide) rfl)
      have HC := Lib.hid (one_bytes (dig a) l)
      have hsz : (⟨l.toArray⟩ : ByteArray).size ≤ 20 := by simpa [ByteArray.size] using hll
      have hs1 : (⟨[dig a].toArray⟩ : ByteArray).size = 1 := rfl
      have hcv : (convert 22 9 (.slice (some ⟨wr.heap.size, 0, none⟩) 1 1)).run Try.prog (wr.alloc (.cells #[.int .u8 (48 + (a : Int) % 10)] 5)) = .ok (.string ⟨[dig a].toArray⟩) (wr.alloc (.cells #[.int .u8 (48 + (a : Int) % 10)] 5)) := hcv
      clear hcell h48
      go_wp2
      go_roundw
      case rel => exact ⟨a / 10, dig a :: l, by go_num, by rw [← HC.out], by omega, Lib.hid (by rw [← HI.out, hstep.out]; simp), Lib.hid (bAlloc HB.out _)⟩
      case measure => simp [intOf]; omega

/-- The marks that a statement lays into a list of texts. -/
def marksS (k0 n : Nat) : List ByteArray := (List.range n).map fun i => markT (k0 + i)
theorem marksS_length (k0 n : Nat) : (marksS k0 n).length = n := by simp [marksS]
theorem marksS_get (k0 n j : Nat) (h : j < n) : (marksS k0 n).getD j ByteArray.empty = markT (k0 + j) := by
  unfold marksS
  rw [List.getD_eq_getElem?_getD, List.getElem?_map, List.getElem?_range h]
  rfl
theorem marksS_step (k0 i : Nat) (zs : List ByteArray) (h : i < zs.length) : (marksS k0 i ++ zs.drop i).set i (markT (k0 + i)) = marksS k0 (i + 1) ++ zs.drop (i + 1) := by
  have hl := marksS_length k0 i
  rw [List.set_append_right _ _ (by omega), hl, Nat.sub_self, List.drop_eq_getElem_cons h, List.set_cons_zero]
  unfold marksS
  rw [List.range_succ, List.map_append, List.append_assoc]
  rfl

theorem grownThen {w u x : World} {r : Option Nat} (h : w.grownBy u r) (k : u.grownBy x r) : w.grownBy x r :=
  ⟨k.os.trans h.os, k.tape.trans h.tape, k.output.trans h.output, Nat.le_trans h.size k.size, fun j hj hne => (k.block j (Nat.lt_of_lt_of_le hj h.size) hne).trans (h.block j hj hne)⟩

set_option maxHeartbeats 1000000 in
/-- laws.markStringS. -/
theorem markStringS_any (B k0 : Nat) (v : Value) (zs : List ByteArray) (w : World) (hv : Strs w B v zs) (hk1 : 1 ≤ k0) (hk0 : k0 ≤ 100000000) (hl : zs.length ≤ 100000000) :
    Calls Try.prog 34 #[v, .int .i64 k0] w fun e w' => e = .returned (.int .i64 ((k0 + zs.length : Nat) : Int)) ∧ Strs w' B v (marksS k0 zs.length) ∧ w.grownBy w' v.ownBlock := by
  rcases hv.view with ⟨rfl, rfl⟩ | ⟨g, cap, rfl, hB, hg, hm, hc, hf⟩
  · go_enter Try.func34, Try.ntmps34
    go_wp2
    refine wp_loop_rounds 1 ?_
    rw [rounds_succ]
    go_wp2
    go_ret
    exact ⟨rfl, hv, World.grownBy.refl _ _⟩
  · clear hm hc hf
    have HV := Lib.hid hv
    clear hv
    go_enter Try.func34, Try.ntmps34
    go_wp2
    go_loopw [5, 1] (fun i q wr => ∃ k : Nat, k ≤ zs.length ∧ i = .int .i64 k ∧ q = .int .i64 ((k0 + k : Nat) : Int) ∧ Hid (wr.ownsRow B 9 1 (.slice (some ⟨g, 0, none⟩) zs.length cap) zs.length ((marksS k0 k ++ zs.drop k).map Value.string)) ∧ Hid (w.grownBy wr (some g))) (fun i _ _ => zs.length - (intOf i).toNat)
    case atStart => exact ⟨0, Nat.zero_le _, rfl, rfl, Lib.hid (by simpa [marksS] using HV.out), Lib.hid (World.grownBy.refl _ _)⟩
    case round =>
      obtain ⟨k, hk, rfl, rfl, HO, HG⟩ := hrel
      by_cases hlt : k < zs.length
      · have hm := Lib.hid (fun w => markText_any (k0 + k) w (by omega) (by omega))
        generalize hmt : markT (k0 + k) = mt at *
        have HT := Lib.hid hmt
        clear hmt
        go_wp2_with fail
        refine (hm.out _).mono ?_
        rintro e u ⟨rfl, hb⟩
        have HO2 := ownsBelow HO.out hb
        have HG2 := Lib.hid (grownThen HG.out (grownNone0 hb (some g)))
        obtain ⟨S1, S2⟩ := World.ownsRow.stored HO2 k (.string mt)
        rw [← List.map_set, ← HT.out, marksS_step k0 k zs hlt, HT.out] at S1
        have hf : u.frozen? ⟨g, k, none⟩ = false := World.ownsRow.frozenAt HO2 k
        have hc : u.cell? ⟨g, k, none⟩ = some (.string ((marksS k0 k ++ zs.drop k).getD k ByteArray.empty)) := by
          have h1 : k < (marksS k0 k ++ zs.drop k).length := by rw [List.length_append, marksS_length, List.length_drop]; omega
          rw [World.ownsRow.cellAt HO2 k (by omega), List.getElem?_map, List.getElem?_eq_getElem h1, List.getD_eq_getElem?_getD, List.getElem?_eq_getElem h1]
          rfl
        generalize (marksS k0 k ++ zs.drop k).getD k ByteArray.empty = z at *
        have H1 := Lib.hid S1
        have H2 := Lib.hid S2
        clear S1 S2 HO2 hb
        go_wp2
        go_roundw
        case rel => exact ⟨k + 1, by omega, by go_num, by go_num, Lib.hid H1.out, Lib.hid (grownThen HG2.out H2.out)⟩
        case measure => simp [intOf]; omega
      · have : k = zs.length := by omega
        subst this
        have h1 := HO.out
        rw [List.drop_length, List.append_nil] at h1
        have H1 := Lib.hid h1
        clear h1
        go_wp2
        go_ret
        refine ⟨by go_num, ?_, HG.out⟩
        have h1 := H1.out
        unfold Strs
        rw [marksS_length]
        exact h1

set_option maxHeartbeats 1000000 in
/-- laws.heldStringS. -/
theorem heldStringS_any (B k0 n : Nat) (v : Value) (w : World) (hv : Strs w B v (marksS k0 n)) (hk1 : 1 ≤ k0) (hk0 : k0 ≤ 100000000) (hl : n ≤ 100000000) :
    Calls Try.prog 35 #[v, .int .i64 k0] w fun e w' => e = .returned (.int .i64 ((k0 + n : Nat) : Int)) ∧ Below w.heap.size w w' := by
  rcases hv.view with ⟨rfl, h0⟩ | ⟨g, cap, rfl, hB, hg, hm, hc, hf⟩
  · have hn : n = 0 := by have := marksS_length k0 n; rw [h0] at this; simpa using this.symm
    subst hn
    clear hv h0
    go_enter Try.func35, Try.ntmps35
    go_wp2
    refine wp_loop_rounds 1 ?_
    rw [rounds_succ]
    go_wp2
    go_ret
    exact ⟨rfl, Below.refl _ _⟩
  · rw [marksS_length] at *
    have hc2 := Lib.hid (fun j (hj : j < n) => show w.cell? ⟨g, j, none⟩ = some (.string (markT (k0 + j))) by rw [hc j hj, marksS_get k0 n j hj])
    clear hv hf hc hm
    go_enter Try.func35, Try.ntmps35
    go_wp2
    go_loopw [5, 1] (fun i q wr => ∃ k : Nat, k ≤ n ∧ i = .int .i64 k ∧ q = .int .i64 ((k0 + k : Nat) : Int) ∧ Hid (Below w.heap.size w wr)) (fun i _ _ => n - (intOf i).toNat)
    case atStart => exact ⟨0, Nat.zero_le _, rfl, rfl, Lib.hid (Below.refl _ _)⟩
    case round =>
      obtain ⟨k, hk, rfl, rfl, HB⟩ := hrel
      by_cases hlt : k < n
      · have c1 : wr.cell? ⟨g, k, none⟩ = some (.string (markT (k0 + k))) := (HB.out.cell (by exact hg)).trans (hc2.out k hlt)
        have hm := Lib.hid (fun w => markText_any (k0 + k) w (by omega) (by omega))
        have z0 : g < wr.heap.size := Nat.lt_of_lt_of_le hg HB.out.size
        generalize markT (k0 + k) = mt at *
        go_wp2
        go_region_held3 (fun w' => w'.cell? ⟨g, k, none⟩ = some (.string mt)) (go_keep)
          (first | (go_at_call 67; refine (hm.out _).mono ?_; rintro e w2 ⟨rfl, hb2⟩; obtain ⟨hc3, hf3⟩ := bCells hb2; have e0 : w2.cell? ⟨g, k, none⟩ = some (.string mt) := (hc3 _ _ (by first | exact z0 | simpa using z0)).trans (by first | exact c1 | simpa using c1)))
        all_goals go_wp2
        go_roundw
        case rel => exact ⟨k + 1, by omega, by go_num, by go_num, Lib.hid (bTrans HB.out (bUndrew0 hb2))⟩
        case measure => simp [intOf]; omega
      · have : k = n := by omega
        subst this
        go_wp2
        go_ret
        exact ⟨by go_num, HB.out⟩

end Go.Proofs.Ytmgkoijnjhfinaa
