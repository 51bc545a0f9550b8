/- Lists of numbers that came in, that are read; and the statements' own helpers for them. -/
import Derived.Test.YthphihfcgpoefaaProg
import Derived.Test.YthphihfcgpoefaaLeaf
import Derived.Test.YthphihfcgpoefaaLists
import Derived.Laws.AppendOwn
import Derived.Laws.OwnMore
import Derived.OwnWalk
import Derived.Deep.Slices
import Derived.Deep.RegionWith
import Derived.Deep.DrawnRows
import Derived.Deep.RegionHeld3
import Derived.Laws.StructEq
import Derived.Tactics
import Derived.Tactics2
import Derived.WalkKit
import Derived.LoopTactic
import Derived.BigQuiet
import Derived.RegionTactic
import Derived.Deep.QuietTactic
import Derived.Outline
import Derived.Lib.Hide
import Derived.Below
import Derived.KernelRfl
namespace Go.Proofs.Ythphihfcgpoefaa
set_option linter.unusedSimpArgs false
set_option linter.unusedVariables false
open Go.RowKit

/-- What a reader sees of a list of numbers. -/
def RdI (w : World) (A : Option Addr) (n : Nat) (zs : List Int) : Prop :=
  zs.length = n ∧ n ≤ 1048576 ∧ (n = 0 ∨ ∃ g, A = some ⟨g, 0, none⟩ ∧ g < w.heap.size ∧ ∀ j, j < n → w.cell? ⟨g, j, none⟩ = some (.int .i64 (zs.getD j 0)))
theorem RdI.below {w u : World} {A : Option Addr} {n : Nat} {zs : List Int} (h : RdI w A n zs) (hb : Below w.heap.size w u) : RdI u A n zs := by
  obtain ⟨h1, h2, h3⟩ := h
  refine ⟨h1, h2, ?_⟩
  rcases h3 with h0 | ⟨g, rfl, hg, hc⟩
  · exact .inl h0
  · exact .inr ⟨g, rfl, Nat.lt_of_lt_of_le hg hb.size, fun j hj => (hb.cell (p := ⟨g, j, none⟩) hg).trans (hc j hj)⟩
theorem RdI.drewN {w : World} {A : Option Addr} {n : Nat} {zs : List Int} (h : RdI w A n zs) (k : Nat) : RdI (w.drewN k) A n zs := h

/-- What is owned is read. -/
theorem Ints.rd {w : World} {B : Nat} {v : Value} {zs : List Int} (h : Ints w B v zs) (hl : zs.length ≤ 1048576) : ∃ A cap, v = .slice A zs.length cap ∧ RdI w A zs.length zs := by
  rcases h.view with ⟨rfl, rfl⟩ | ⟨g, cap, rfl, hB, hg, hm, hc, hf⟩
  · exact ⟨none, 0, rfl, rfl, hl, .inl rfl⟩
  · exact ⟨_, cap, rfl, rfl, hl, .inr ⟨g, rfl, hg, hc⟩⟩
theorem Ints.rdOf {w : World} {B : Nat} {A : Option Addr} {n c : Nat} {zs : List Int} (h : Ints w B (.slice A n c) zs) (hl : zs.length = n) (hn : n ≤ 1048576) : RdI w A n zs := by
  obtain ⟨A', c', e, r⟩ := h.rd (by omega)
  simp only [Value.slice.injEq] at e
  obtain ⟨rfl, rfl, rfl⟩ := e
  rwa [hl] at r

/-- A list of numbers that came in. -/
def IRow (w : World) (A : Option Addr) (n : Nat) (zs : List Int) : Prop :=
  zs.length = n ∧ n ≤ maxLen ∧ (∀ z ∈ zs, I64 z) ∧ (n = 0 ∨ ∃ b off, A = some ⟨b, off, none⟩ ∧ b < w.heap.size ∧ ∀ j, j < n → w.cell? ⟨b, off + j, none⟩ = some (.int .i64 (zs.getD j 0)))
theorem IRow.below {w u : World} {A : Option Addr} {n : Nat} {zs : List Int} (h : IRow w A n zs) (hb : Below w.heap.size w u) : IRow u A n zs := by
  obtain ⟨h1, h2, h4, h3⟩ := h
  refine ⟨h1, h2, h4, ?_⟩
  rcases h3 with h0 | ⟨b, off, rfl, hg, hc⟩
  · exact .inl h0
  · exact .inr ⟨b, off, rfl, Nat.lt_of_lt_of_le hg hb.size, fun j hj => (hb.cell (p := ⟨b, off + j, none⟩) hg).trans (hc j hj)⟩

theorem addI (b off i : Nat) : (⟨b, off, none⟩ : Addr).add i = ⟨b, off + i, none⟩ := by unfold Addr.add; split <;> simp_all

theorem putI_step (zs : List Int) (k n : Nat) (hk : k < zs.length) (hn : zs.length = n) :
    (zs.take k ++ (List.replicate n (0 : Int)).drop k).set k (zs.getD k 0) = zs.take (k + 1) ++ (List.replicate n (0 : Int)).drop (k + 1) := by
  have hl : (zs.take k).length = k := by rw [List.length_take]; omega
  rw [List.set_append_right _ _ (by omega), hl, Nat.sub_self, List.drop_eq_getElem_cons (by simp; omega), List.set_cons_zero, List.take_add_one, List.append_assoc, List.getD_eq_getElem?_getD, List.getElem?_eq_getElem hk]
  rfl
theorem made_int (n : Nat) : (madeCells (Value.int .i64 0).cells (n * 1)).toList = (List.replicate n (0 : Int)).map (Value.int .i64) := by
  apply List.ext_getElem?
  intro j
  by_cases hj : j < n
  · simp [madeCells, hj, Value.cells, Nat.mod_one]
  · simp [madeCells, hj, Value.cells]

theorem infoI64 : (Try.prog.info? 2).map (fun i => (i.zero, i.size, i.bytes)) = some (some (.int .i64 0), 1, 8) := by kernel_rfl

set_option maxHeartbeats 1000000 in
set_option maxRecDepth 100000 in
/-- laws.eqInt64S, of two with one content. -/
theorem eqInt64S_rd (A A' : Option Addr) (n c c' : Nat) (zs : List Int) (w : World) (hv : RdI w A n zs) (hu : RdI w A' n zs) :
    Calls Try.prog 20 #[.slice A n c, .slice A' n c'] w fun e w' => e = .returned (.bool true) ∧ ∃ m, w' = w.drewN m := by
  have hn := hv.2.1
  have HV := Lib.hid hv.2.2
  have HU := Lib.hid hu.2.2
  clear hv hu
  go_enter Try.func20, Try.ntmps20
  go_wp2
  go_loopw [5] (fun i wr => ∃ k : Nat, k ≤ n ∧ i = .int .i64 k ∧ ∃ m, Hid (wr = w.drewN m)) (fun i _ => n - (intOf i).toNat)
  case atStart => exact ⟨0, Nat.zero_le _, rfl, 0, Lib.hid rfl⟩
  case round =>
    obtain ⟨k, hk, rfl, m, HW⟩ := hrel
    by_cases hlt : k < n
    · rcases HV.out with h0 | ⟨g, rfl, hg, h3⟩
      · omega
      rcases HU.out with h0 | ⟨d, rfl, hd, h4⟩
      · omega
      have c1 : wr.cell? ⟨g, k, none⟩ = some (.int .i64 (zs.getD k 0)) := by rw [HW.out]; exact h3 k hlt
      have c2 : wr.cell? ⟨d, k, none⟩ = some (.int .i64 (zs.getD k 0)) := by rw [HW.out]; exact h4 k hlt
      clear h3 h4
      generalize zs.getD k 0 = z at *
      go_wp2
      go_quiet (fail)
      go_wp2
      go_roundw
      case rel => exact ⟨k + 1, by omega, by go_num, _, Lib.hid (by rw [HW.out, World.drewN_drewN])⟩
      case measure => simp [intOf]; omega
    · have : k = n := by omega
      subst this
      go_wp2
      go_ret
      exact ⟨rfl, m, HW.out⟩
theorem eqInt64S_rdB (A A' : Option Addr) (n c c' : Nat) (zs : List Int) (w : World) (hv : RdI w A n zs) (hu : RdI w A' n zs) :
    Calls Try.prog 20 #[.slice A n c, .slice A' n c'] w fun e w' => e = .returned (.bool true) ∧ Below w.heap.size w w' := by
  refine (eqInt64S_rd A A' n c c' zs w hv hu).mono ?_
  rintro e u ⟨rfl, m, rfl⟩
  exact ⟨rfl, bDrewN (Below.refl _ _) m⟩

set_option maxHeartbeats 1000000 in
set_option maxRecDepth 100000 in
/-- laws.heldInt64S, of what is read. -/
theorem heldInt64S_rd (k0 n : Nat) (A : Option Addr) (c : Nat) (w : World) (hv : RdI w A n (marks k0 n)) (hk0 : k0 ≤ 100000000) :
    Calls Try.prog 22 #[.slice A n c, .int .i64 k0] w fun e w' => e = .returned (.int .i64 ((k0 + n : Nat) : Int)) ∧ w = w' := by
  have hn := hv.2.1
  have HV := Lib.hid hv.2.2
  clear hv
  go_enter Try.func22, Try.ntmps22
  go_wp2
  go_loop [5, 1] (fun i q => ∃ k : Nat, k ≤ n ∧ i = .int .i64 k ∧ q = .int .i64 ((k0 + k : Nat) : Int)) (fun i _ => n - (intOf i).toNat)
  case atStart => exact ⟨0, Nat.zero_le _, rfl, rfl⟩
  case round =>
    obtain ⟨k, hk, rfl, rfl⟩ := hrel
    by_cases hlt : k < n
    · rcases HV.out with h0 | ⟨g, rfl, hg, h3⟩
      · omega
      have c1 := h3 k hlt
      rw [marks_get k0 n k hlt] at c1
      clear h3
      go_wp2
      go_round
      case rel => exact ⟨k + 1, by omega, by go_num, by go_num⟩
      case measure => simp [intOf]; omega
    · have : k = n := by omega
      subst this
      go_wp2
      go_ret
      exact ⟨by go_num, rfl⟩

/-- laws.markInt64S and laws.heldInt64S, from any number on. -/
theorem markZ_any (B : Nat) (m : Int) (v : Value) (zs : List Int) (w : World) (hv : Ints w B v zs) (h0 : 0 ≤ m) (h1 : m ≤ 100000000) (hl : zs.length ≤ 100000000) :
    Calls Try.prog 21 #[v, .int .i64 m] w fun e w' => e = .returned (.int .i64 (m + (zs.length : Int))) ∧ Ints w' B v (marks m.toNat zs.length) ∧ w.grownBy w' v.ownBlock := by
  obtain ⟨k, rfl⟩ := Int.eq_ofNat_of_zero_le h0
  exact markInt64S_any B k v zs w hv (by omega) hl

end Go.Proofs.Ythphihfcgpoefaa
