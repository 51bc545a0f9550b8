/- Drums: their fields, when they are valid, what their strips are. -/
import Derived.Test.YtibafngidpmgdabProg
import Derived.Test.YtibafngidpmgdabLeaf
import Derived.Test.YtibafngidpmgdabWithin
import Derived.Laws.Cover1
import Derived.Deep.RegionWith
import Derived.Deep.DrawnRows
import Derived.Deep.RegionHeld3
import Derived.Tactics
import Derived.Tactics2
import Derived.WalkKit
import Derived.LoopTactic
import Derived.BigQuiet
import Derived.RegionTactic
import Derived.Deep.QuietTactic
import Derived.Outline
import Derived.Lib.Hide
import Derived.Below
import Derived.KernelRfl
namespace Go.Proofs.Ytibafngidpmgdab
set_option linter.unusedSimpArgs false
set_option linter.unusedVariables false
open Go.RowKit
attribute [local go_sem ↓] Go.wp_at_zero Go.wp_at_succ

/-- A drum as a value. -/
abbrev dr (r h s : Int) : Value := .agg #[.int .i64 r, .int .i64 h, .int .i64 s]

/-- A block of three numbers. -/
structure Bd (w : World) (k : Nat) (r h s : Int) : Prop where
  c0 : w.cell? ⟨k, 0, none⟩ = some (.int .i64 r)
  c1 : w.cell? ⟨k, 1, none⟩ = some (.int .i64 h)
  c2 : w.cell? ⟨k, 2, none⟩ = some (.int .i64 s)
  lt : k < w.heap.size
theorem Bd.below {W u : World} {b : Nat} {r h s : Int} (x : Bd W b r h s) (hb : Below W.heap.size W u) : Bd u b r h s :=
  ⟨(hb.cell x.lt).trans x.c0, (hb.cell x.lt).trans x.c1, (hb.cell x.lt).trans x.c2, Nat.lt_of_lt_of_le x.lt hb.size⟩

/-- A drum is valid. -/
def drumB (r h s : Int) : Bool := inB r 100 10000 && inB h 20 1000 && inB s 1 48
theorem drumB_yes {r h s : Int} (k : drumB r h s = true) : (100 ≤ r ∧ r ≤ 10000) ∧ (20 ≤ h ∧ h ≤ 1000) ∧ (1 ≤ s ∧ s ≤ 48) := by
  simp only [drumB, Bool.and_eq_true, inB_iff] at k
  exact ⟨k.1.1, k.1.2, k.2⟩

theorem dinfo : (Try.prog.info? 53).map (fun i => (i.zero, i.size, i.bytes)) = some (some (.agg #[.int .i64 0, .int .i64 0, .int .i64 0]), 3, 24) := by kernel_rfl

/-- laws.toDrum. -/
theorem toDrum_any (r h s : Int) (w : World) :
    Calls Try.prog 42 #[dr r h s] w fun e w' => e = .returned (dr r h s) ∧ Below w.heap.size w w' := by
  go_enter Try.func42, Try.ntmps42
  go_wp2
  refine bodyPost_ret (v := dr r h s) (by simp [results, Try.results42, go_sem]) rfl ⟨rfl, ?_⟩
  repeat (first | exact Below.refl _ _ | refine bAlloc ?_ _)

/-- impl.isOnDisc. -/
theorem onDisc_any (n : Int) (w : World) :
    Calls Try.prog 81 #[.int .i64 n] w fun e w' => e = .returned (.bool (inB n 1 48)) ∧ w = w' := by
  by_cases h1 : 1 ≤ n
  · by_cases h2 : n ≤ 48
    · go_enter Try.func81, Try.ntmps81
      go_wp2
      go_ret
      exact ⟨ret_bool (by simp [inB, h1, h2]), rfl⟩
    · go_enter Try.func81, Try.ntmps81
      go_wp2
      go_ret
      exact ⟨ret_bool (by simp [inB, h2]), rfl⟩
  · go_enter Try.func81, Try.ntmps81
    go_wp2
    go_ret
    have h3 : ¬ 1 ≤ n := by omega
    exact ⟨ret_bool (by simp [inB, h3]), rfl⟩

/-- spec.l03Many. -/
theorem many3_any (n : Int) (w : World) :
    Calls Try.prog 99 #[.int .i64 n] w fun e w' => e = .returned (.bool (inB n 1 48)) ∧ w = w' := by
  go_enter Try.func99, Try.ntmps99
  go_wp2_with (go_at_call 70; refine (l00In_any _ _ _ _).mono ?_; rintro e u ⟨rfl, rfl⟩)
  go_ret
  exact ⟨rfl, rfl⟩

/-- impl.ValidDrum. -/
theorem validDrum_any (r h s : Int) (w : World) :
    Calls Try.prog 80 #[dr r h s] w fun e w' => e = .returned (.bool (drumB r h s)) ∧ Below w.heap.size w w' := by
  cases h1 : inB r 100 10000
  · go_enter Try.func80, Try.ntmps80
    go_wp2_with (first | (go_at_call 58; refine (isWithin_any _ _ _ _).mono ?_; rintro e u ⟨rfl, rfl⟩) | (go_at_call 81; refine (onDisc_any _ _).mono ?_; rintro e u ⟨rfl, rfl⟩))
    go_ret
    exact ⟨ret_bool (by simp [drumB, h1]), bAlloc (Below.refl _ _) _⟩
  · cases h2 : inB h 20 1000
    · go_enter Try.func80, Try.ntmps80
      go_wp2_with (first | (go_at_call 58; refine (isWithin_any _ _ _ _).mono ?_; rintro e u ⟨rfl, rfl⟩) | (go_at_call 81; refine (onDisc_any _ _).mono ?_; rintro e u ⟨rfl, rfl⟩))
      go_ret
      exact ⟨ret_bool (by simp [drumB, h2]), bAlloc (Below.refl _ _) _⟩
    · go_enter Try.func80, Try.ntmps80
      go_wp2_with (first | (go_at_call 58; refine (isWithin_any _ _ _ _).mono ?_; rintro e u ⟨rfl, rfl⟩) | (go_at_call 81; refine (onDisc_any _ _).mono ?_; rintro e u ⟨rfl, rfl⟩))
      go_ret
      exact ⟨ret_bool (by simp [drumB, h1, h2]), bAlloc (Below.refl _ _) _⟩

/-- spec.l07Ok. -/
theorem l07Ok_any (b : Nat) (r h s : Int) (w : World) (B : Bd w b r h s) :
    Calls Try.prog 98 #[.pointer (some ⟨b, 0, none⟩)] w fun e w' => e = .returned (.bool (drumB r h s)) ∧ w = w' := by
  obtain ⟨c0, c1, c2, hl⟩ := B
  cases h1 : inB r 100 10000
  · go_enter Try.func98, Try.ntmps98
    go_wp2_with (go_at_call 70; refine (l00In_any _ _ _ _).mono ?_; rintro e u ⟨rfl, rfl⟩)
    go_ret
    exact ⟨ret_bool (by simp [drumB, h1]), rfl⟩
  · cases h2 : inB h 20 1000
    · go_enter Try.func98, Try.ntmps98
      go_wp2_with (go_at_call 70; refine (l00In_any _ _ _ _).mono ?_; rintro e u ⟨rfl, rfl⟩)
      go_ret
      exact ⟨ret_bool (by simp [drumB, h2]), rfl⟩
    · go_enter Try.func98, Try.ntmps98
      go_wp2_with (go_at_call 70; refine (l00In_any _ _ _ _).mono ?_; rintro e u ⟨rfl, rfl⟩)
      go_ret
      exact ⟨ret_bool (by simp [drumB, h1, h2]), rfl⟩

theorem bdNew (w : World) (r h s : Int) : Bd (w.alloc (.cells #[.int .i64 r, .int .i64 h, .int .i64 s] 53)) w.heap.size r h s := by
  refine ⟨?_, ?_, ?_, ?_⟩ <;> go_simp

/-- The code of a drum and of whether a second thing is right. -/
def code2 (r h s : Int) (k : Bool) : Int := if drumB r h s then (if k then 0 else 2) else 1

/-- spec.l07Many. -/
theorem l07Many_any (b : Nat) (r h s g : Int) (w : World) (B : Bd w b r h s) :
    Calls Try.prog 77 #[.pointer (some ⟨b, 0, none⟩), .int .i64 g] w fun e w' => e = .returned (.int .i64 (code2 r h s (inB g 1 48))) ∧ w = w' := by
  cases h1 : drumB r h s
  · go_enter Try.func77, Try.ntmps77
    go_wp2_with (first | (go_at_call 98; refine (l07Ok_any _ r h s _ B).mono ?_; rintro e u ⟨rfl, rfl⟩) | (go_at_call 99; refine (many3_any _ _).mono ?_; rintro e u ⟨rfl, rfl⟩))
    go_ret
    exact ⟨ret_int (by simp [code2, h1]), rfl⟩
  · cases h2 : inB g 1 48
    · go_enter Try.func77, Try.ntmps77
      go_wp2_with (first | (go_at_call 98; refine (l07Ok_any _ r h s _ B).mono ?_; rintro e u ⟨rfl, rfl⟩) | (go_at_call 99; refine (many3_any _ _).mono ?_; rintro e u ⟨rfl, rfl⟩))
      go_ret
      exact ⟨ret_int (by simp [code2, h1, h2]), rfl⟩
    · go_enter Try.func77, Try.ntmps77
      go_wp2_with (first | (go_at_call 98; refine (l07Ok_any _ r h s _ B).mono ?_; rintro e u ⟨rfl, rfl⟩) | (go_at_call 99; refine (many3_any _ _).mono ?_; rintro e u ⟨rfl, rfl⟩))
      go_ret
      exact ⟨ret_int (by simp [code2, h1, h2]), rfl⟩

end Go.Proofs.Ytibafngidpmgdab
