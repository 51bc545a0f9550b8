/- What the small functions of chapter 3 return: limits, residues, flashes, nearest numbers. -/
import Derived.Test.YtibafngidpmgdaaProg
import Derived.Test.YtibafngidpmgdaaFull
import Derived.Test.YtibafngidpmgdaaDiscMath
import Derived.Deep.RegionWith
import Derived.Deep.DrawnRows
import Derived.Laws.StructEq
import Derived.Tactics
import Derived.Tactics2
import Derived.WalkKit
import Derived.LoopTactic
import Derived.BigQuiet
import Derived.RegionTactic
import Derived.BigRegion
import Derived.ChangeAlike
import Derived.Deep.QuietTactic
import Derived.Deep.RegionHeld3
import Derived.Deep.DeepCutAuto
import Derived.Outline
import Derived.Lib.Hide
import Derived.Below
import Derived.KernelRfl
namespace Go.Proofs.Ytibafngidpmgdaa
set_option linter.unusedSimpArgs false
set_option linter.unusedVariables false
open Go.RowKit

/-- A number of pictures or slits. -/
def discB (p s : Int) : Bool := inB p 1 48 && inB s 1 48
theorem discB_bd {p s : Int} (h : discB p s = true) : 1 ≤ p ∧ p ≤ 48 ∧ 1 ≤ s ∧ s ≤ 48 := by
  simp only [discB, Bool.and_eq_true] at h
  have h1 := inB_iff.1 h.1
  have h2 := inB_iff.1 h.2
  omega

/-- spec.l03Many. -/
theorem l03Many_any (n : Int) (w : World) :
    Calls Try.prog 154 #[.int .i64 n] w fun e w' => e = .returned (.bool (inB n 1 48)) ∧ w = w' := by
  go_enter Try.func154, Try.ntmps154
  go_wp2_with (go_at_call 84; refine (l00In_any _ _ _ _).mono ?_; rintro e u ⟨rfl, rfl⟩)
  go_ret
  exact ⟨rfl, rfl⟩

/-- spec.l03Code. -/
theorem l03Code_yes (p s : Int) (w : World) (h : discB p s = true) :
    Calls Try.prog 126 #[.int .i64 p, .int .i64 s] w fun e w' => e = .returned (.int .i64 0) ∧ w = w' := by
  obtain ⟨h1, h2⟩ : inB p 1 48 = true ∧ inB s 1 48 = true := by simpa [discB] using h
  clear h
  go_enter Try.func126, Try.ntmps126
  go_wp2_with (go_at_call 154; refine (l03Many_any _ _).mono ?_; rintro e u ⟨rfl, rfl⟩)
  go_ret
  exact ⟨rfl, rfl⟩

theorem l03Code_no (p s : Int) (w : World) (h : discB p s = false) :
    Calls Try.prog 126 #[.int .i64 p, .int .i64 s] w fun e w' => e = .returned (.int .i64 2) ∧ w = w' := by
  cases h1 : inB p 1 48
  · clear h
    go_enter Try.func126, Try.ntmps126
    go_wp2_with (go_at_call 154; refine (l03Many_any _ _).mono ?_; rintro e u ⟨rfl, rfl⟩)
    go_ret
    exact ⟨rfl, rfl⟩
  · have h2 : inB s 1 48 = false := by simpa [discB, h1] using h
    clear h
    go_enter Try.func126, Try.ntmps126
    go_wp2_with (go_at_call 154; refine (l03Many_any _ _).mono ?_; rintro e u ⟨rfl, rfl⟩)
    go_ret
    exact ⟨rfl, rfl⟩

/-- The function that impl.residues hands back: its body. -/
theorem residue_any (x s : Int) (b : Nat) (w : World) (hc : w.cell? ⟨b, 0, none⟩ = some (.int .i64 s)) (s1 : 1 ≤ s) (s2 : s ≤ 48) (x1 : -100000000 ≤ x) (x2 : x ≤ 100000000) :
    Calls Try.prog 166 #[.int .i64 x, .pointer (some ⟨b, 0, none⟩)] w fun e w' => e = .returned (.int .i64 (resid x s)) ∧ w = w' := by
  obtain ⟨b1, b2⟩ := tmod_bd x s1
  have h0 : ¬ s = 0 := by omega
  have hR := Lib.hid (show resid x s = if s < 2 * x.tmod s then x.tmod s - s else if 2 * x.tmod s ≤ -s then x.tmod s + s else x.tmod s from rfl)
  by_cases h1 : s < 2 * x.tmod s
  · go_enter Try.func166, Try.ntmps166
    go_wp2
    go_ret
    exact ⟨ret_int (by rw [hR.out, if_pos h1]), rfl⟩
  · by_cases h2 : 2 * x.tmod s ≤ -s
    · go_enter Try.func166, Try.ntmps166
      go_wp2
      go_ret
      exact ⟨ret_int (by rw [hR.out, if_neg (by omega), if_pos h2]), rfl⟩
    · go_enter Try.func166, Try.ntmps166
      go_wp2
      go_ret
      exact ⟨ret_int (by rw [hR.out, if_neg (by omega), if_neg (by omega)]), rfl⟩

/-- The two cells of an open function: the parts in a picture; one number, known. -/
theorem made_cell (w : World) (v : Value) (t : TypeId) : (w.alloc (.cells #[v] t)).cell? ⟨w.heap.size, 0, none⟩ = some v := by
  rw [World.cell?_alloc_at _ _ _ _ rfl]; rfl

/-- impl.residues. -/
theorem residues_any (s : Int) (w : World) :
    Calls Try.prog 164 #[.int .i64 s] w fun e w' => e = .returned (.func (.func 166) #[] #[.pointer (some ⟨w.heap.size, 0, none⟩)]) ∧ w'.cell? ⟨w.heap.size, 0, none⟩ = some (.int .i64 s) ∧ Below w.heap.size w w' ∧ w.heap.size < w'.heap.size := by
  have hmf : ∀ (fn : Fn) (first cap : Array Value) (w : World), (Instr.makeFunc fn first cap).run Try.prog w = .ok (.func fn first cap) w := fun _ _ _ _ => rfl
  go_enter Try.func164, Try.ntmps164
  go_wp2
  go_ret
  exact ⟨rfl, made_cell _ _ _, bAlloc (Below.refl _ _) _, by simp⟩

end Go.Proofs.Ytibafngidpmgdaa
