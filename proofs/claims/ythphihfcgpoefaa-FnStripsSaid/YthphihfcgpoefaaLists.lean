/- Lists of numbers as results: compared, marked and looked at again by the statements. -/
import Derived.Test.YthphihfcgpoefaaProg
import Derived.Test.YthphihfcgpoefaaLeaf
import Derived.Laws.AppendOwn
import Derived.Laws.OwnMore
import Derived.OwnWalk
import Derived.Tactics
import Derived.Tactics2
import Derived.WalkKit
import Derived.LoopTactic
import Derived.BigQuiet
import Derived.RegionTactic
import Derived.Deep.QuietTactic
import Derived.Outline
import Derived.Lib.Hide
import Derived.Below
import Derived.KernelRfl
namespace Go.Proofs.Ythphihfcgpoefaa
set_option linter.unusedSimpArgs false
set_option linter.unusedVariables false
open Go.RowKit

/-- A list of numbers of the call's own: nil, or a row in a block from B on. -/
abbrev Ints (w : World) (B : Nat) (v : Value) (zs : List Int) : Prop := w.ownsRow B 2 1 v zs.length (zs.map (Value.int .i64))

/-- The same, opened. -/
theorem Ints.view {w : World} {B : Nat} {v : Value} {zs : List Int} (h : Ints w B v zs) :
    (v = .slice none 0 0 ∧ zs = []) ∨ ∃ g cap, v = .slice (some ⟨g, 0, none⟩) zs.length cap ∧ B ≤ g ∧ g < w.heap.size ∧ zs.length ≤ maxLen ∧
      (∀ j, j < zs.length → w.cell? ⟨g, j, none⟩ = some (.int .i64 (zs.getD j 0))) ∧ ∀ j, w.frozen? ⟨g, j, none⟩ = false := by
  have h' := h
  obtain ⟨_, h2⟩ := h
  rcases h2 with ⟨rfl, h0⟩ | ⟨g, cap, cur, rfl, hB, hg, hn, hm, _, _⟩
  · exact .inl ⟨rfl, List.length_eq_zero_iff.1 h0⟩
  · refine .inr ⟨g, cap, rfl, hB, (Array.getElem?_eq_some_iff.1 hg).1, by omega, fun j hj => ?_, fun j => h'.frozenAt j⟩
    rw [h'.cellAt j (by omega), List.getElem?_map, List.getElem?_eq_getElem hj, List.getD_eq_getElem?_getD, List.getElem?_eq_getElem hj]
    rfl

theorem grownNone {w u : World} (h : Below w.heap.size w u) (r : Option Nat) : w.grownBy u r := ⟨h.os, h.tape, h.output, h.size, fun k hk _ => h.block k hk⟩
theorem Ints.below {w u : World} {B : Nat} {v : Value} {zs : List Int} (h : Ints w B v zs) (hb : Below w.heap.size w u) : Ints u B v zs := by
  cases hv : v.ownBlock with
  | none => exact World.ownsRow.kept h (grownNone hb none) (.inl hv)
  | some k => exact World.ownsRow.kept h (grownNone hb none) (.inr (by rw [hv]; simp))
theorem Ints.drewN {w : World} {B : Nat} {v : Value} {zs : List Int} (h : Ints w B v zs) (n : Nat) : Ints (w.drewN n) B v zs := h

/-- laws.eqInt64S, of one list twice. -/
theorem eqInt64S_same (B C : Nat) (v u : Value) (zs : List Int) (w : World) (hv : Ints w B v zs) (hu : Ints w C u zs) :
    Calls Try.prog 20 #[v, u] w fun e w' => e = .returned (.bool true) ∧ ∃ n, w' = w.drewN n := by
  rcases hv.view with ⟨rfl, rfl⟩ | ⟨g, cap, rfl, hB, hg, hm, hc, hf⟩
  · obtain ⟨a, cp, rfl⟩ : ∃ a cp, u = .slice a 0 cp := by
      rcases hu.view with ⟨rfl, _⟩ | ⟨g, cap, rfl, _⟩
      · exact ⟨_, _, rfl⟩
      · exact ⟨_, _, rfl⟩
    clear hv hu
    go_enter Try.func20, Try.ntmps20
    go_wp2
    refine wp_loop_rounds 1 ?_
    rw [rounds_succ]
    go_wp2
    go_ret
    exact ⟨rfl, 0, rfl⟩
  · obtain ⟨a, cp, rfl, hk⟩ : ∃ a cp, u = .slice a zs.length cp ∧ (zs = [] ∨ ∃ d, a = some ⟨d, 0, none⟩ ∧ ∀ j, j < zs.length → w.cell? ⟨d, j, none⟩ = some (.int .i64 (zs.getD j 0))) := by
      rcases hu.view with ⟨rfl, rfl⟩ | ⟨d, cap, rfl, _, _, _, hd, _⟩
      · exact ⟨_, _, rfl, .inl rfl⟩
      · exact ⟨_, _, rfl, .inr ⟨_, rfl, hd⟩⟩
    clear hv hu hf
    unfold maxLen at hm
    rcases hk with rfl | ⟨d, rfl, hd⟩
    · go_enter Try.func20, Try.ntmps20
      go_wp2
      refine wp_loop_rounds 1 ?_
      rw [rounds_succ]
      go_wp2
      go_ret
      exact ⟨rfl, 0, rfl⟩
    · go_enter Try.func20, Try.ntmps20
      go_wp2
      go_loopw [5] (fun i wr => ∃ k : Nat, k ≤ zs.length ∧ i = .int .i64 k ∧ ∃ n, Hid (wr = w.drewN n)) (fun i _ => zs.length - (intOf i).toNat)
      case atStart => exact ⟨0, Nat.zero_le _, rfl, 0, Lib.hid rfl⟩
      case round =>
        obtain ⟨k, hk, rfl, n, HW⟩ := hrel
        by_cases hlt : k < zs.length
        · have c1 : wr.cell? ⟨g, k, none⟩ = some (.int .i64 (zs.getD k 0)) := by rw [HW.out]; exact hc k hlt
          have c2 : wr.cell? ⟨d, k, none⟩ = some (.int .i64 (zs.getD k 0)) := by rw [HW.out]; exact hd k hlt
          generalize zs.getD k 0 = z at *
          go_wp2
          go_quiet (fail)
          go_wp2
          go_roundw
          case rel => exact ⟨k + 1, by omega, by go_num, _, Lib.hid (by rw [HW.out, World.drewN_drewN])⟩
          case measure => simp [intOf]; omega
        · have : k = zs.length := by omega
          subst this
          go_wp2
          go_ret
          exact ⟨rfl, n, HW.out⟩

/-- The marks that a statement lays into a list. -/
def marks (k0 n : Nat) : List Int := (List.range n).map fun i => ((k0 + i : Nat) : Int)
theorem marks_length (k0 n : Nat) : (marks k0 n).length = n := by simp [marks]
theorem marks_get (k0 n j : Nat) (h : j < n) : (marks k0 n).getD j 0 = ((k0 + j : Nat) : Int) := by
  unfold marks
  rw [List.getD_eq_getElem?_getD, List.getElem?_map, List.getElem?_range h]
  rfl
theorem marks_step (k0 i : Nat) (zs : List Int) (h : i < zs.length) : (marks k0 i ++ zs.drop i).set i ((k0 + i : Nat) : Int) = marks k0 (i + 1) ++ zs.drop (i + 1) := by
  have hl := marks_length k0 i
  rw [List.set_append_right _ _ (by omega), hl, Nat.sub_self, List.drop_eq_getElem_cons h, List.set_cons_zero]
  unfold marks
  rw [List.range_succ, List.map_append, List.append_assoc]
  rfl

/-- laws.markInt64S. -/
theorem markInt64S_any (B k0 : Nat) (v : Value) (zs : List Int) (w : World) (hv : Ints w B v zs) (hk0 : k0 ≤ 100000000) (hl : zs.length ≤ 100000000) :
    Calls Try.prog 21 #[v, .int .i64 k0] w fun e w' => e = .returned (.int .i64 ((k0 + zs.length : Nat) : Int)) ∧ Ints w' B v (marks k0 zs.length) ∧ w.grownBy w' v.ownBlock := by
  rcases hv.view with ⟨rfl, rfl⟩ | ⟨g, cap, rfl, hB, hg, hm, hc, hf⟩
  · go_enter Try.func21, Try.ntmps21
    go_wp2
    refine wp_loop_rounds 1 ?_
    rw [rounds_succ]
    go_wp2
    go_ret
    exact ⟨rfl, hv, World.grownBy.refl _ _⟩
  · clear hm hc hf
    have HV := Lib.hid hv
    clear hv
    go_enter Try.func21, Try.ntmps21
    go_wp2
    go_loopw [5, 1] (fun i q wr => ∃ k : Nat, k ≤ zs.length ∧ i = .int .i64 k ∧ q = .int .i64 ((k0 + k : Nat) : Int) ∧ Hid (wr.ownsRow B 2 1 (.slice (some ⟨g, 0, none⟩) zs.length cap) zs.length ((marks k0 k ++ zs.drop k).map (Value.int .i64))) ∧ Hid (w.grownBy wr (some g))) (fun i _ _ => zs.length - (intOf i).toNat)
    case atStart => exact ⟨0, Nat.zero_le _, rfl, rfl, Lib.hid (by simpa [marks] using HV.out), Lib.hid (World.grownBy.refl _ _)⟩
    case round =>
      obtain ⟨k, hk, rfl, rfl, HO, HG⟩ := hrel
      by_cases hlt : k < zs.length
      · obtain ⟨S1, S2⟩ := World.ownsRow.stored HO.out k (.int .i64 ((k0 + k : Nat) : Int))
        rw [← List.map_set, marks_step k0 k zs hlt] at S1
        have hf : wr.frozen? ⟨g, k, none⟩ = false := World.ownsRow.frozenAt HO.out k
        have hc : wr.cell? ⟨g, k, none⟩ = some (.int .i64 ((marks k0 k ++ zs.drop k).getD k 0)) := by
          have h1 : k < (marks k0 k ++ zs.drop k).length := by rw [List.length_append, marks_length, List.length_drop]; omega
          rw [World.ownsRow.cellAt HO.out k (by omega), List.getElem?_map, List.getElem?_eq_getElem h1, List.getD_eq_getElem?_getD, List.getElem?_eq_getElem h1]
          rfl
        generalize (marks k0 k ++ zs.drop k).getD k 0 = z at *
        have H1 := Lib.hid S1
        have H2 := Lib.hid S2
        clear S1 S2
        go_wp2
        go_roundw
        case rel => exact ⟨k + 1, by omega, by go_num, by go_num, Lib.hid H1.out, Lib.hid ⟨H2.out.os.trans HG.out.os, H2.out.tape.trans HG.out.tape, H2.out.output.trans HG.out.output, Nat.le_trans HG.out.size H2.out.size, fun j hj hne => (H2.out.block j (Nat.lt_of_lt_of_le hj HG.out.size) hne).trans (HG.out.block j hj hne)⟩⟩
        case measure => simp [intOf]; omega
      · have : k = zs.length := by omega
        subst this
        have h1 := HO.out
        rw [List.drop_length, List.append_nil] at h1
        have H1 := Lib.hid h1
        clear h1
        go_wp2
        go_ret
        refine ⟨by go_num, ?_, HG.out⟩
        have h1 := H1.out
        unfold Ints
        rw [marks_length]
        exact h1

/-- laws.heldInt64S. -/
theorem heldInt64S_any (B k0 n : Nat) (v : Value) (w : World) (hv : Ints w B v (marks k0 n)) (hk0 : k0 ≤ 100000000) (hl : n ≤ 100000000) :
    Calls Try.prog 22 #[v, .int .i64 k0] w fun e w' => e = .returned (.int .i64 ((k0 + n : Nat) : Int)) ∧ w = w' := by
  rcases hv.view with ⟨rfl, h0⟩ | ⟨g, cap, rfl, hB, hg, hm, hc, hf⟩
  · have hn : n = 0 := by have := marks_length k0 n; rw [h0] at this; simpa using this.symm
    subst hn
    clear hv h0
    go_enter Try.func22, Try.ntmps22
    go_wp2
    refine wp_loop_rounds 1 ?_
    rw [rounds_succ]
    go_wp2
    go_ret
    exact ⟨rfl, rfl⟩
  · rw [marks_length] at *
    have hc2 : ∀ j, j < n → w.cell? ⟨g, j, none⟩ = some (.int .i64 ((k0 + j : Nat) : Int)) := fun j hj => by rw [hc j hj, marks_get k0 n j hj]
    clear hv hf hc hm
    go_enter Try.func22, Try.ntmps22
    go_wp2
    go_loop [5, 1] (fun i q => ∃ k : Nat, k ≤ n ∧ i = .int .i64 k ∧ q = .int .i64 ((k0 + k : Nat) : Int)) (fun i _ => n - (intOf i).toNat)
    case atStart => exact ⟨0, Nat.zero_le _, rfl, rfl⟩
    case round =>
      obtain ⟨k, hk, rfl, rfl⟩ := hrel
      by_cases hlt : k < n
      · have c1 := hc2 k hlt
        go_wp2
        go_round
        case rel => exact ⟨k + 1, by omega, by go_num, by go_num⟩
        case measure => simp [intOf]; omega
      · have : k = n := by omega
        subst this
        go_wp2
        go_ret
        exact ⟨by go_num, rfl⟩

/-- The marks from 1 on. -/
theorem mark1 (B : Nat) (v : Value) (zs : List Int) (w : World) (hv : Ints w B v zs) (hl : zs.length ≤ 100000000) :
    Calls Try.prog 21 #[v, .int .i64 1] w fun e w' => e = .returned (.int .i64 ((1 + zs.length : Nat) : Int)) ∧ Ints w' B v (marks 1 zs.length) ∧ w.grownBy w' v.ownBlock := markInt64S_any B 1 v zs w hv (by omega) hl
theorem held1 (B n : Nat) (v : Value) (w : World) (hv : Ints w B v (marks 1 n)) (hl : n ≤ 100000000) :
    Calls Try.prog 22 #[v, .int .i64 1] w fun e w' => e = .returned (.int .i64 ((1 + n : Nat) : Int)) ∧ w = w' := heldInt64S_any B 1 n v w hv (by omega) hl

end Go.Proofs.Ythphihfcgpoefaa
