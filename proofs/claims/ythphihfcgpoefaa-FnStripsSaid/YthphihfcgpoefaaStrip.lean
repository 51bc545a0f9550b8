/- Strips, gaps, papers and pieces of drums, in the program and in the model. -/
import Derived.Test.YthphihfcgpoefaaProg
import Derived.Test.YthphihfcgpoefaaDrum
import Derived.OwnWalk
import Derived.IntWalk
import Derived.Laws.Cover1
import Derived.Deep.RegionWith
import Derived.Deep.DrawnRows
import Derived.Deep.RegionHeld3
import Derived.Tactics
import Derived.Tactics2
import Derived.WalkKit
import Derived.LoopTactic
import Derived.BigQuiet
import Derived.RegionTactic
import Derived.Deep.QuietTactic
import Derived.Outline
import Derived.Lib.Hide
import Derived.Below
import Derived.KernelRfl
namespace Go.Proofs.Ythphihfcgpoefaa
set_option linter.unusedSimpArgs false
set_option linter.unusedVariables false
open Go.RowKit
attribute [local go_sem ↓] Go.wp_at_zero Go.wp_at_succ

theorem tup2 {a b c d : Int} (h : a = c) (k : b = d) : Ending.returned (.tuple #[.int .i64 a, .int .i64 b]) = .returned (.tuple #[.int .i64 c, .int .i64 d]) := by rw [h, k]
theorem tup3 {a b c d e f : Int} (h : a = d) (k : b = e) (l : c = f) : Ending.returned (.tuple #[.int .i64 a, .int .i64 b, .int .i64 c]) = .returned (.tuple #[.int .i64 d, .int .i64 e, .int .i64 f]) := by rw [h, k, l]

/-- How long a strip is, how high, and the code. -/
def stripL (r h s g : Int) : Int := if drumB r h s && inB g 0 100 then r + g else 0
def stripH (r h s g : Int) : Int := if drumB r h s && inB g 0 100 then h / 2 else 0

/-- impl.StripFor. -/
theorem implStripFor_any (r h s g : Int) (w : World) :
    Calls Try.prog 17 #[dr r h s, .int .i64 g] w fun e w' => e = .returned (.tuple #[.int .i64 (stripL r h s g), .int .i64 (stripH r h s g), .int .i64 (code2 r h s (inB g 0 100))]) ∧ Below w.heap.size w w' := by
  cases h1 : drumB r h s
  · have hC : code2 r h s (inB g 0 100) = 1 := by simp [code2, h1]
    rw [hC]
    go_enter Try.func17, Try.ntmps17
    go_wp2_with (first | (go_at_call 15; refine (validDrum_any _ _ _ _).mono ?_; rintro e u ⟨rfl, hb⟩; obtain ⟨hc1, hf1⟩ := bCells hb) | (go_at_call 45; refine (isGlue_any _ _).mono ?_; rintro e u ⟨rfl, rfl⟩) | (go_at_call 41; refine (onDisc_any _ _).mono ?_; rintro e u ⟨rfl, rfl⟩) | (go_at_call 40; refine (isWithin_any _ _ _ _).mono ?_; rintro e u ⟨rfl, rfl⟩) | (go_at_call 52; refine (isPaper_any _ _).mono ?_; rintro e u ⟨rfl, rfl⟩))
    go_ret3
    exact ⟨tup3 (by simp [stripL, h1]) (by simp [stripH, h1]) rfl, by repeat (first | exact Below.refl _ _ | assumption | refine bDrewN ?_ _ | refine bAlloc ?_ _ | refine bTrans ?_ hb2 | refine bTrans ?_ hb)⟩
  · obtain ⟨⟨r1, r2⟩, ⟨k1, k2⟩, s1, s2⟩ := drumB_yes h1
    cases h2 : inB g 0 100
    · have hC : code2 r h s (inB g 0 100) = 2 := by simp [code2, h1, h2]
      rw [h2] at hC
      rw [hC]
      go_enter Try.func17, Try.ntmps17
      go_wp2_with (first | (go_at_call 15; refine (validDrum_any _ _ _ _).mono ?_; rintro e u ⟨rfl, hb⟩; obtain ⟨hc1, hf1⟩ := bCells hb) | (go_at_call 45; refine (isGlue_any _ _).mono ?_; rintro e u ⟨rfl, rfl⟩) | (go_at_call 41; refine (onDisc_any _ _).mono ?_; rintro e u ⟨rfl, rfl⟩) | (go_at_call 40; refine (isWithin_any _ _ _ _).mono ?_; rintro e u ⟨rfl, rfl⟩) | (go_at_call 52; refine (isPaper_any _ _).mono ?_; rintro e u ⟨rfl, rfl⟩))
      go_ret3
      exact ⟨tup3 (by simp [stripL, h1, h2]) (by simp [stripH, h1, h2]) rfl, by repeat (first | exact Below.refl _ _ | assumption | refine bDrewN ?_ _ | refine bAlloc ?_ _ | refine bTrans ?_ hb2 | refine bTrans ?_ hb)⟩
    · obtain ⟨g1, g2⟩ := inB_iff.1 h2
      have hC : code2 r h s (inB g 0 100) = 0 := by simp [code2, h1, h2]
      rw [h2] at hC
      rw [hC]
      go_enter Try.func17, Try.ntmps17
      go_wp2_with (first | (go_at_call 15; refine (validDrum_any _ _ _ _).mono ?_; rintro e u ⟨rfl, hb⟩; obtain ⟨hc1, hf1⟩ := bCells hb) | (go_at_call 45; refine (isGlue_any _ _).mono ?_; rintro e u ⟨rfl, rfl⟩) | (go_at_call 41; refine (onDisc_any _ _).mono ?_; rintro e u ⟨rfl, rfl⟩) | (go_at_call 40; refine (isWithin_any _ _ _ _).mono ?_; rintro e u ⟨rfl, rfl⟩) | (go_at_call 52; refine (isPaper_any _ _).mono ?_; rintro e u ⟨rfl, rfl⟩) | (go_at_call 46; refine (strip_any _ _ _ _ _ (by omega) (by omega) (by omega)).mono ?_; rintro e u2 ⟨rfl, hb2⟩))
      go_ret3
      exact ⟨tup3 (by simp [stripL, h1, h2]) (by simp [stripH, h1, h2]) rfl, by repeat (first | exact Below.refl _ _ | assumption | refine bDrewN ?_ _ | refine bAlloc ?_ _ | refine bTrans ?_ hb2 | refine bTrans ?_ hb)⟩

/-- spec.StripFor. -/
theorem specStripFor_any (r h s g : Int) (w : World) :
    Calls Try.prog 16 #[dr r h s, .int .i64 g] w fun e w' => e = .returned (.tuple #[.int .i64 (stripL r h s g), .int .i64 (stripH r h s g), .int .i64 (code2 r h s (inB g 0 100))]) ∧ Below w.heap.size w w' := by
  cases h1 : drumB r h s
  · have hC : code2 r h s (inB g 0 100) = 1 := by simp [code2, h1]
    rw [hC]
    go_enter Try.func16, Try.ntmps16
    go_wp2_with (first | (go_at_call 42; refine (l07Glue_any _ r h s _ _ (bdNew _ _ _ _)).mono ?_; rintro e u ⟨rfl, rfl⟩) | (go_at_call 47; refine (l07Many_any _ r h s _ _ (bdNew _ _ _ _)).mono ?_; rintro e u ⟨rfl, rfl⟩) | (go_at_call 50; refine (l00In_any _ _ _ _).mono ?_; rintro e u ⟨rfl, rfl⟩))
    go_ret3
    exact ⟨tup3 (by simp [stripL, h1]) (by simp [stripH, h1]) rfl, by repeat (first | exact Below.refl _ _ | assumption | refine bDrewN ?_ _ | refine bAlloc ?_ _ | refine bTrans ?_ hb2 | refine bTrans ?_ hb)⟩
  · obtain ⟨⟨r1, r2⟩, ⟨k1, k2⟩, s1, s2⟩ := drumB_yes h1
    cases h2 : inB g 0 100
    · have hC : code2 r h s (inB g 0 100) = 2 := by simp [code2, h1, h2]
      rw [h2] at hC
      rw [hC]
      go_enter Try.func16, Try.ntmps16
      go_wp2_with (first | (go_at_call 42; refine (l07Glue_any _ r h s _ _ (bdNew _ _ _ _)).mono ?_; rintro e u ⟨rfl, rfl⟩) | (go_at_call 47; refine (l07Many_any _ r h s _ _ (bdNew _ _ _ _)).mono ?_; rintro e u ⟨rfl, rfl⟩) | (go_at_call 50; refine (l00In_any _ _ _ _).mono ?_; rintro e u ⟨rfl, rfl⟩))
      go_ret3
      exact ⟨tup3 (by simp [stripL, h1, h2]) (by simp [stripH, h1, h2]) rfl, by repeat (first | exact Below.refl _ _ | assumption | refine bDrewN ?_ _ | refine bAlloc ?_ _ | refine bTrans ?_ hb2 | refine bTrans ?_ hb)⟩
    · obtain ⟨g1, g2⟩ := inB_iff.1 h2
      have hC : code2 r h s (inB g 0 100) = 0 := by simp [code2, h1, h2]
      rw [h2] at hC
      rw [hC]
      go_enter Try.func16, Try.ntmps16
      go_wp2_with (first | (go_at_call 42; refine (l07Glue_any _ r h s _ _ (bdNew _ _ _ _)).mono ?_; rintro e u ⟨rfl, rfl⟩) | (go_at_call 47; refine (l07Many_any _ r h s _ _ (bdNew _ _ _ _)).mono ?_; rintro e u ⟨rfl, rfl⟩) | (go_at_call 50; refine (l00In_any _ _ _ _).mono ?_; rintro e u ⟨rfl, rfl⟩) | (go_at_call 43; refine (l07Long_any _ r h s _ _ (bdNew _ _ _ _) (by omega) (by omega)).mono ?_; rintro e u ⟨rfl, rfl⟩) | (go_at_call 44; refine (l07High_any _ r h s _ (bdNew _ _ _ _) (by omega)).mono ?_; rintro e u ⟨rfl, rfl⟩))
      go_ret3
      exact ⟨tup3 (by simp [stripL, h1, h2]) (by simp [stripH, h1, h2]) rfl, by repeat (first | exact Below.refl _ _ | assumption | refine bDrewN ?_ _ | refine bAlloc ?_ _ | refine bTrans ?_ hb2 | refine bTrans ?_ hb)⟩

end Go.Proofs.Ythphihfcgpoefaa
