/- The names of codes: in the program, which reads its table, and in the model; and the statement's walk. -/
import Derived.Test.YtmhnceddhmdfoaaDoorProg
import Derived.Tactics
import Derived.Tactics2
import Derived.WalkKit
import Derived.KernelRfl
import Derived.Below
import Derived.Outline
import Derived.Lib.LaidTab
import Derived.Lib.Hide
import Derived.ProofKit
import Derived.Deep.RegionHeld3
namespace Go.Proofs.YtmhnceddhmdfoaaDoor
open Go.RowKit
set_option linter.unusedSimpArgs false
set_option linter.unusedVariables false

/-- An array of strings that reads as a list of texts holds these texts, cell for cell. -/
theorem texts_of_read {H : Type} {enc : TypeId × Value → H} {P : Program} {w : World} {base : Nat} {sp : Nat → Bool} {held : Bool} {fuel : Nat} {t e : TypeId} {n : Nat} {cs : List Value} {ls : List (List UInt8)} {p : List MemPlace}
    (ht : P.underlying t = some (.array n e)) (he : P.underlying e = some .string) (hce : P.cellsOf e = 1) (hct : P.cellsOf t = n)
    (h : DataW.trod enc P w base sp held fuel t cs = some (.agg (ls.map fun l => .lit (.string l)), p)) (i : Nat) (hi : i < ls.length) :
    cs[i]? = some (.string ⟨(ls.getD i []).toArray⟩) := by
  cases fuel with
  | zero => simp [DataW.trod] at h
  | succ fuel =>
    simp only [DataW.trod, ht, hce, hct, Nat.mul_one] at h
    split at h
    · obtain ⟨xs, hm, hx⟩ := Option.map_eq_some_iff.1 h
      have hx1 : xs.map (·.1) = ls.map fun l => (DataW.lit (.string l) : DataW H) := by
        have h4 := congrArg Prod.fst hx
        simpa using h4
      have hl : xs.length = n := by simpa using Lib.mapM_length hm
      have hk : ls.length = n := by
        have h2 := congrArg List.length hx1
        simp at h2
        omega
      obtain ⟨b, hb, hf⟩ := Lib.mapM_at hm i i (by simp [show i < n by omega])
      obtain ⟨s, hc, rfl, _⟩ := DataW.trod_string he hf
      have h1 : cs[i]? = some (.string s) := by
        have h3 := congrArg (·[0]?) hc
        simpa [List.getElem?_take, List.getElem?_drop] using h3
      have h2 : (xs.map (·.1))[i]? = some (DataW.lit (.string s.data.toList) : DataW H) := by simp [hb]
      rw [hx1] at h2
      simp only [List.getElem?_map, List.getElem?_eq_getElem hi, Option.map_some, Option.some.injEq, DataW.lit.injEq, Lit.string.injEq] at h2
      rw [h1, List.getD_eq_getElem?_getD, List.getElem?_eq_getElem hi, Option.getD_some, h2]
    · cases h

theorem texts_met {P : Program} {W : World} {name : String} {ls : List (List UInt8)} {g : Nat} {t e : TypeId} {n : Nat}
    (hg : P.globalNamed name = some g) (hty : (P.globals[g]?).map (·.type) = some t) (ht : P.underlying t = some (.array n e)) (he : P.underlying e = some .string) (hce : P.cellsOf e = 1) (hct : P.cellsOf t = n)
    (h : laidMet P [(name, .agg (ls.map fun l => .lit (.string l)))] W) (i : Nat) (hi : i < ls.length) :
    W.cell? ⟨g, i, none⟩ = some (.string ⟨(ls.getD i []).toArray⟩) := by
  obtain ⟨ps, ⟨g2, t2, cs, fuel, p, q, hg2, ht2, hvar, hd, _, _⟩, _⟩ := h
  obtain rfl := Option.some.inj (hg.symm.trans hg2)
  obtain rfl := Option.some.inj (hty.symm.trans ht2)
  have hc := texts_of_read ht he hce hct hd i hi
  have hv := World.var?_cell hg hvar i
  exact hv.trans (by rw [← Array.getElem?_toList]; exact hc)

/-- laws.FnExactCodeName, where the number is no code. -/
theorem code_out (c : Int) (w : World) (h : c < 0 ∨ 10 < c) :
    Calls Tryd.prog 4 #[.int .i64 c] w fun e w' => e = .returned (.bool true) ∧ Below w.heap.size w w' := by
  rcases h with h | h
  · go_enter Tryd.func4, Tryd.ntmps4
    go_wp2
    go_ret
    exact ⟨rfl, (Below.refl _ _).alloc (Nat.le_refl _) _⟩
  · have h0 : ¬ c < 0 := by omega
    have h1 : decide (c ≤ 10) = false := by simp; omega
    go_enter Tryd.func4, Tryd.ntmps4
    go_wp2
    go_ret
    exact ⟨rfl, (Below.refl _ _).alloc (Nat.le_refl _) _⟩

/-- laws.FnExactCodeName at the code 0. -/
theorem code_0 (w : World) (hc : w.cell? ⟨0, 0, none⟩ = some (.string ⟨#[111, 107]⟩)) :
    Calls Tryd.prog 4 #[.int .i64 0] w fun e w' => e = .returned (.bool true) ∧ Below w.heap.size w w' := by
  have hn : 0 < w.heap.size := by exact World.block_lt_of_cell? w _ hc
  have hk : ∀ o, (w.alloc o).cell? ⟨0, 0, none⟩ = _ := fun o => (((Below.refl w.heap.size w).alloc (Nat.le_refl _) o).cell (p := ⟨0, 0, none⟩) hn).trans hc
  clear hc
  go_enter Tryd.func4, Tryd.ntmps4
  go_wp2
  go_ret
  exact ⟨rfl, (Below.refl _ _).alloc (Nat.le_refl _) _⟩

/-- laws.FnExactCodeName at the code 1. -/
theorem code_1 (w : World) (hc : w.cell? ⟨0, 1, none⟩ = some (.string ⟨#[105, 110, 118, 97, 108, 105, 100]⟩)) :
    Calls Tryd.prog 4 #[.int .i64 1] w fun e w' => e = .returned (.bool true) ∧ Below w.heap.size w w' := by
  have hn : 0 < w.heap.size := by exact World.block_lt_of_cell? w _ hc
  have hk : ∀ o, (w.alloc o).cell? ⟨0, 1, none⟩ = _ := fun o => (((Below.refl w.heap.size w).alloc (Nat.le_refl _) o).cell (p := ⟨0, 1, none⟩) hn).trans hc
  clear hc
  go_enter Tryd.func4, Tryd.ntmps4
  go_wp2
  go_ret
  exact ⟨rfl, (Below.refl _ _).alloc (Nat.le_refl _) _⟩

/-- laws.FnExactCodeName at the code 2. -/
theorem code_2 (w : World) (hc : w.cell? ⟨0, 2, none⟩ = some (.string ⟨#[114, 97, 110, 103, 101]⟩)) :
    Calls Tryd.prog 4 #[.int .i64 2] w fun e w' => e = .returned (.bool true) ∧ Below w.heap.size w w' := by
  have hn : 0 < w.heap.size := by exact World.block_lt_of_cell? w _ hc
  have hk : ∀ o, (w.alloc o).cell? ⟨0, 2, none⟩ = _ := fun o => (((Below.refl w.heap.size w).alloc (Nat.le_refl _) o).cell (p := ⟨0, 2, none⟩) hn).trans hc
  clear hc
  go_enter Tryd.func4, Tryd.ntmps4
  go_wp2
  go_ret
  exact ⟨rfl, (Below.refl _ _).alloc (Nat.le_refl _) _⟩

/-- laws.FnExactCodeName at the code 3. -/
theorem code_3 (w : World) (hc : w.cell? ⟨0, 3, none⟩ = some (.string ⟨#[110, 111, 116, 45, 102, 111, 117, 110, 100]⟩)) :
    Calls Tryd.prog 4 #[.int .i64 3] w fun e w' => e = .returned (.bool true) ∧ Below w.heap.size w w' := by
  have hn : 0 < w.heap.size := by exact World.block_lt_of_cell? w _ hc
  have hk : ∀ o, (w.alloc o).cell? ⟨0, 3, none⟩ = _ := fun o => (((Below.refl w.heap.size w).alloc (Nat.le_refl _) o).cell (p := ⟨0, 3, none⟩) hn).trans hc
  clear hc
  go_enter Tryd.func4, Tryd.ntmps4
  go_wp2
  go_ret
  exact ⟨rfl, (Below.refl _ _).alloc (Nat.le_refl _) _⟩

/-- laws.FnExactCodeName at the code 4. -/
theorem code_4 (w : World) (hc : w.cell? ⟨0, 4, none⟩ = some (.string ⟨#[101, 120, 105, 115, 116, 115]⟩)) :
    Calls Tryd.prog 4 #[.int .i64 4] w fun e w' => e = .returned (.bool true) ∧ Below w.heap.size w w' := by
  have hn : 0 < w.heap.size := by exact World.block_lt_of_cell? w _ hc
  have hk : ∀ o, (w.alloc o).cell? ⟨0, 4, none⟩ = _ := fun o => (((Below.refl w.heap.size w).alloc (Nat.le_refl _) o).cell (p := ⟨0, 4, none⟩) hn).trans hc
  clear hc
  go_enter Tryd.func4, Tryd.ntmps4
  go_wp2
  go_ret
  exact ⟨rfl, (Below.refl _ _).alloc (Nat.le_refl _) _⟩

/-- laws.FnExactCodeName at the code 5. -/
theorem code_5 (w : World) (hc : w.cell? ⟨0, 5, none⟩ = some (.string ⟨#[102, 117, 108, 108]⟩)) :
    Calls Tryd.prog 4 #[.int .i64 5] w fun e w' => e = .returned (.bool true) ∧ Below w.heap.size w w' := by
  have hn : 0 < w.heap.size := by exact World.block_lt_of_cell? w _ hc
  have hk : ∀ o, (w.alloc o).cell? ⟨0, 5, none⟩ = _ := fun o => (((Below.refl w.heap.size w).alloc (Nat.le_refl _) o).cell (p := ⟨0, 5, none⟩) hn).trans hc
  clear hc
  go_enter Tryd.func4, Tryd.ntmps4
  go_wp2
  go_ret
  exact ⟨rfl, (Below.refl _ _).alloc (Nat.le_refl _) _⟩

/-- laws.FnExactCodeName at the code 6. -/
theorem code_6 (w : World) (hc : w.cell? ⟨0, 6, none⟩ = some (.string ⟨#[115, 116, 97, 116, 101]⟩)) :
    Calls Tryd.prog 4 #[.int .i64 6] w fun e w' => e = .returned (.bool true) ∧ Below w.heap.size w w' := by
  have hn : 0 < w.heap.size := by exact World.block_lt_of_cell? w _ hc
  have hk : ∀ o, (w.alloc o).cell? ⟨0, 6, none⟩ = _ := fun o => (((Below.refl w.heap.size w).alloc (Nat.le_refl _) o).cell (p := ⟨0, 6, none⟩) hn).trans hc
  clear hc
  go_enter Tryd.func4, Tryd.ntmps4
  go_wp2
  go_ret
  exact ⟨rfl, (Below.refl _ _).alloc (Nat.le_refl _) _⟩

/-- laws.FnExactCodeName at the code 7. -/
theorem code_7 (w : World) (hc : w.cell? ⟨0, 7, none⟩ = some (.string ⟨#[115, 121, 110, 116, 97, 120]⟩)) :
    Calls Tryd.prog 4 #[.int .i64 7] w fun e w' => e = .returned (.bool true) ∧ Below w.heap.size w w' := by
  have hn : 0 < w.heap.size := by exact World.block_lt_of_cell? w _ hc
  have hk : ∀ o, (w.alloc o).cell? ⟨0, 7, none⟩ = _ := fun o => (((Below.refl w.heap.size w).alloc (Nat.le_refl _) o).cell (p := ⟨0, 7, none⟩) hn).trans hc
  clear hc
  go_enter Tryd.func4, Tryd.ntmps4
  go_wp2
  go_ret
  exact ⟨rfl, (Below.refl _ _).alloc (Nat.le_refl _) _⟩

/-- laws.FnExactCodeName at the code 8. -/
theorem code_8 (w : World) (hc : w.cell? ⟨0, 8, none⟩ = some (.string ⟨#[102, 111, 114, 109, 97, 116]⟩)) :
    Calls Tryd.prog 4 #[.int .i64 8] w fun e w' => e = .returned (.bool true) ∧ Below w.heap.size w w' := by
  have hn : 0 < w.heap.size := by exact World.block_lt_of_cell? w _ hc
  have hk : ∀ o, (w.alloc o).cell? ⟨0, 8, none⟩ = _ := fun o => (((Below.refl w.heap.size w).alloc (Nat.le_refl _) o).cell (p := ⟨0, 8, none⟩) hn).trans hc
  clear hc
  go_enter Tryd.func4, Tryd.ntmps4
  go_wp2
  go_ret
  exact ⟨rfl, (Below.refl _ _).alloc (Nat.le_refl _) _⟩

/-- laws.FnExactCodeName at the code 9. -/
theorem code_9 (w : World) (hc : w.cell? ⟨0, 9, none⟩ = some (.string ⟨#[99, 108, 97, 115, 104]⟩)) :
    Calls Tryd.prog 4 #[.int .i64 9] w fun e w' => e = .returned (.bool true) ∧ Below w.heap.size w w' := by
  have hn : 0 < w.heap.size := by exact World.block_lt_of_cell? w _ hc
  have hk : ∀ o, (w.alloc o).cell? ⟨0, 9, none⟩ = _ := fun o => (((Below.refl w.heap.size w).alloc (Nat.le_refl _) o).cell (p := ⟨0, 9, none⟩) hn).trans hc
  clear hc
  go_enter Tryd.func4, Tryd.ntmps4
  go_wp2
  go_ret
  exact ⟨rfl, (Below.refl _ _).alloc (Nat.le_refl _) _⟩

/-- laws.FnExactCodeName at the code 10. -/
theorem code_10 (w : World) (hc : w.cell? ⟨0, 10, none⟩ = some (.string ⟨#[100, 97, 114, 107]⟩)) :
    Calls Tryd.prog 4 #[.int .i64 10] w fun e w' => e = .returned (.bool true) ∧ Below w.heap.size w w' := by
  have hn : 0 < w.heap.size := by exact World.block_lt_of_cell? w _ hc
  have hk : ∀ o, (w.alloc o).cell? ⟨0, 10, none⟩ = _ := fun o => (((Below.refl w.heap.size w).alloc (Nat.le_refl _) o).cell (p := ⟨0, 10, none⟩) hn).trans hc
  clear hc
  go_enter Tryd.func4, Tryd.ntmps4
  go_wp2
  go_ret
  exact ⟨rfl, (Below.refl _ _).alloc (Nat.le_refl _) _⟩

/-- laws.FnExactCodeName, whatever the number. -/
theorem law_CodeName (c : Int) (w : World) (_h : -9223372036854775808 ≤ c ∧ c ≤ 9223372036854775807)
    (ht : ∀ i, i < 11 → w.cell? ⟨0, i, none⟩ = some (.string ⟨(([[111, 107], [105, 110, 118, 97, 108, 105, 100], [114, 97, 110, 103, 101], [110, 111, 116, 45, 102, 111, 117, 110, 100], [101, 120, 105, 115, 116, 115], [102, 117, 108, 108], [115, 116, 97, 116, 101], [115, 121, 110, 116, 97, 120], [102, 111, 114, 109, 97, 116], [99, 108, 97, 115, 104], [100, 97, 114, 107]] : List (List UInt8)).getD i []).toArray⟩)) :
    Calls Tryd.prog 4 #[.int .i64 c] w fun e w' => e = .returned (.bool true) ∧ Below w.heap.size w w' := by
  by_cases h : c < 0 ∨ 10 < c
  · exact code_out c w h
  · have hc : c = 0 ∨ c = 1 ∨ c = 2 ∨ c = 3 ∨ c = 4 ∨ c = 5 ∨ c = 6 ∨ c = 7 ∨ c = 8 ∨ c = 9 ∨ c = 10 := by omega
    rcases hc with rfl | rfl | rfl | rfl | rfl | rfl | rfl | rfl | rfl | rfl | rfl
    · exact code_0 w (ht 0 (by omega))
    · exact code_1 w (ht 1 (by omega))
    · exact code_2 w (ht 2 (by omega))
    · exact code_3 w (ht 3 (by omega))
    · exact code_4 w (ht 4 (by omega))
    · exact code_5 w (ht 5 (by omega))
    · exact code_6 w (ht 6 (by omega))
    · exact code_7 w (ht 7 (by omega))
    · exact code_8 w (ht 8 (by omega))
    · exact code_9 w (ht 9 (by omega))
    · exact code_10 w (ht 10 (by omega))
end Go.Proofs.YtmhnceddhmdfoaaDoor
