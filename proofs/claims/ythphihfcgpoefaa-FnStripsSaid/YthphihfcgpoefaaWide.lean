/- Gaps between pictures, and pieces of strips, in the program and in the model. -/
import Derived.Test.YthphihfcgpoefaaProg
import Derived.Test.YthphihfcgpoefaaDrum
import Derived.Test.YthphihfcgpoefaaStrip
import Derived.OwnWalk
import Derived.IntWalk
import Derived.Laws.Cover1
import Derived.Deep.RegionWith
import Derived.Deep.DrawnRows
import Derived.Deep.RegionHeld3
import Derived.Tactics
import Derived.Tactics2
import Derived.WalkKit
import Derived.LoopTactic
import Derived.BigQuiet
import Derived.RegionTactic
import Derived.Deep.QuietTactic
import Derived.Outline
import Derived.Lib.Hide
import Derived.Below
import Derived.KernelRfl
namespace Go.Proofs.Ythphihfcgpoefaa
set_option linter.unusedSimpArgs false
set_option linter.unusedVariables false
open Go.RowKit
attribute [local go_sem ↓] Go.wp_at_zero Go.wp_at_succ

theorem code2_bad {r h s : Int} {k : Bool} (h1 : drumB r h s = false) : code2 r h s k = 1 := by simp [code2, h1]
theorem code2_no {r h s : Int} (h1 : drumB r h s = true) : code2 r h s false = 2 := by simp [code2, h1]
theorem code2_yes {r h s : Int} (h1 : drumB r h s = true) : code2 r h s true = 0 := by simp [code2, h1]

/-- How wide pictures may be, and the code. -/
def wideN (r h s p g : Int) : Int := if drumB r h s && inB p 1 48 && inB g 0 10000 && decide (1 ≤ r / p - g) then r / p - g else 0
def wideC (r h s p g : Int) : Int := if drumB r h s then (if inB p 1 48 && inB g 0 10000 then (if 1 ≤ r / p - g then 0 else 5) else 2) else 1

theorem quo_bd {x p : Int} (x0 : 0 ≤ x) (p1 : 1 ≤ p) : 0 ≤ x / p ∧ x / p ≤ x := ⟨Int.ediv_nonneg x0 (by omega), Int.ediv_le_self _ x0⟩

/-- impl.WidestPicture. -/
theorem implWide_any (r h s p g : Int) (w : World) :
    Calls Try.prog 26 #[dr r h s, .int .i64 p, .int .i64 g] w fun e w' => e = .returned (.tuple #[.int .i64 (wideN r h s p g), .int .i64 (wideC r h s p g)]) ∧ Below w.heap.size w w' := by
  cases h1 : drumB r h s
  · have hC := code2_bad (k := inB p 1 48) h1
    go_enter Try.func26, Try.ntmps26
    go_wp2_with (first | (go_at_call 15; refine (validDrum_any _ _ _ _).mono ?_; rintro e u ⟨rfl, hb⟩; obtain ⟨hc1, hf1⟩ := bCells hb) | (go_at_call 45; refine (isGlue_any _ _).mono ?_; rintro e u ⟨rfl, rfl⟩) | (go_at_call 41; refine (onDisc_any _ _).mono ?_; rintro e u ⟨rfl, rfl⟩) | (go_at_call 40; refine (isWithin_any _ _ _ _).mono ?_; rintro e u ⟨rfl, rfl⟩) | (go_at_call 52; refine (isPaper_any _ _).mono ?_; rintro e u ⟨rfl, rfl⟩))
    go_ret2
    exact ⟨tup2 (by simp [wideN, h1]) (by simp [wideC, h1]), by repeat (first | exact Below.refl _ _ | assumption | refine bDrewN ?_ _ | refine bAlloc ?_ _ | refine bTrans ?_ hb2 | refine bTrans ?_ hb)⟩
  · obtain ⟨⟨r1, r2⟩, ⟨k1, k2⟩, s1, s2⟩ := drumB_yes h1
    cases h2 : inB p 1 48
    · have hC := code2_no h1
      go_enter Try.func26, Try.ntmps26
      go_wp2_with (first | (go_at_call 15; refine (validDrum_any _ _ _ _).mono ?_; rintro e u ⟨rfl, hb⟩; obtain ⟨hc1, hf1⟩ := bCells hb) | (go_at_call 45; refine (isGlue_any _ _).mono ?_; rintro e u ⟨rfl, rfl⟩) | (go_at_call 41; refine (onDisc_any _ _).mono ?_; rintro e u ⟨rfl, rfl⟩) | (go_at_call 40; refine (isWithin_any _ _ _ _).mono ?_; rintro e u ⟨rfl, rfl⟩) | (go_at_call 52; refine (isPaper_any _ _).mono ?_; rintro e u ⟨rfl, rfl⟩))
      go_ret2
      exact ⟨tup2 (by simp [wideN, h1, h2]) (by simp [wideC, h1, h2]), by repeat (first | exact Below.refl _ _ | assumption | refine bDrewN ?_ _ | refine bAlloc ?_ _ | refine bTrans ?_ hb2 | refine bTrans ?_ hb)⟩
    · obtain ⟨p1, p2⟩ := inB_iff.1 h2
      have p0 : ¬ p = 0 := by omega
      have hC := code2_yes h1
      obtain ⟨q1, q2⟩ := quo_bd (x := r) (p := p) (by omega) p1
      cases h3 : inB g 0 10000
      · go_enter Try.func26, Try.ntmps26
        go_wp2_with (first | (go_at_call 15; refine (validDrum_any _ _ _ _).mono ?_; rintro e u ⟨rfl, hb⟩; obtain ⟨hc1, hf1⟩ := bCells hb) | (go_at_call 45; refine (isGlue_any _ _).mono ?_; rintro e u ⟨rfl, rfl⟩) | (go_at_call 41; refine (onDisc_any _ _).mono ?_; rintro e u ⟨rfl, rfl⟩) | (go_at_call 40; refine (isWithin_any _ _ _ _).mono ?_; rintro e u ⟨rfl, rfl⟩) | (go_at_call 52; refine (isPaper_any _ _).mono ?_; rintro e u ⟨rfl, rfl⟩))
        go_ret2
        exact ⟨tup2 (by simp [wideN, h1, h2, h3]) (by simp [wideC, h1, h2, h3]), by repeat (first | exact Below.refl _ _ | assumption | refine bDrewN ?_ _ | refine bAlloc ?_ _ | refine bTrans ?_ hb2 | refine bTrans ?_ hb)⟩
      · obtain ⟨g1, g2⟩ := inB_iff.1 h3
        by_cases h4 : r / p - g < 1
        · have h5 : ¬ 1 ≤ r / p - g := by omega
          go_enter Try.func26, Try.ntmps26
          go_wp2_with (first | (go_at_call 15; refine (validDrum_any _ _ _ _).mono ?_; rintro e u ⟨rfl, hb⟩; obtain ⟨hc1, hf1⟩ := bCells hb) | (go_at_call 45; refine (isGlue_any _ _).mono ?_; rintro e u ⟨rfl, rfl⟩) | (go_at_call 41; refine (onDisc_any _ _).mono ?_; rintro e u ⟨rfl, rfl⟩) | (go_at_call 40; refine (isWithin_any _ _ _ _).mono ?_; rintro e u ⟨rfl, rfl⟩) | (go_at_call 52; refine (isPaper_any _ _).mono ?_; rintro e u ⟨rfl, rfl⟩))
          go_ret2
          exact ⟨tup2 (by first | (simp [wideN, h1, h2, h3]; done) | (simp [wideN, h1, h2, h3]; omega)) (by first | (simp [wideC, h1, h2, h3]; done) | (simp [wideC, h1, h2, h3]; omega)), by repeat (first | exact Below.refl _ _ | assumption | refine bDrewN ?_ _ | refine bAlloc ?_ _ | refine bTrans ?_ hb2 | refine bTrans ?_ hb)⟩
        · have h5 : 1 ≤ r / p - g := by omega
          go_enter Try.func26, Try.ntmps26
          go_wp2_with (first | (go_at_call 15; refine (validDrum_any _ _ _ _).mono ?_; rintro e u ⟨rfl, hb⟩; obtain ⟨hc1, hf1⟩ := bCells hb) | (go_at_call 45; refine (isGlue_any _ _).mono ?_; rintro e u ⟨rfl, rfl⟩) | (go_at_call 41; refine (onDisc_any _ _).mono ?_; rintro e u ⟨rfl, rfl⟩) | (go_at_call 40; refine (isWithin_any _ _ _ _).mono ?_; rintro e u ⟨rfl, rfl⟩) | (go_at_call 52; refine (isPaper_any _ _).mono ?_; rintro e u ⟨rfl, rfl⟩))
          go_ret2
          exact ⟨tup2 (by first | (simp [wideN, h1, h2, h3]; done) | (simp [wideN, h1, h2, h3]; omega)) (by first | (simp [wideC, h1, h2, h3]; done) | (simp [wideC, h1, h2, h3]; omega)), by repeat (first | exact Below.refl _ _ | assumption | refine bDrewN ?_ _ | refine bAlloc ?_ _ | refine bTrans ?_ hb2 | refine bTrans ?_ hb)⟩

/-- spec.WidestPicture. -/
theorem specWide_any (r h s p g : Int) (w : World) :
    Calls Try.prog 25 #[dr r h s, .int .i64 p, .int .i64 g] w fun e w' => e = .returned (.tuple #[.int .i64 (wideN r h s p g), .int .i64 (wideC r h s p g)]) ∧ Below w.heap.size w w' := by
  cases h1 : drumB r h s
  · have hC := code2_bad (k := inB p 1 48) h1
    go_enter Try.func25, Try.ntmps25
    go_wp2_with (first | (go_at_call 42; refine (l07Glue_any _ r h s _ _ (bdNew _ _ _ _)).mono ?_; rintro e u ⟨rfl, rfl⟩) | (go_at_call 47; refine (l07Many_any _ r h s _ _ (bdNew _ _ _ _)).mono ?_; rintro e u ⟨rfl, rfl⟩) | (go_at_call 50; refine (l00In_any _ _ _ _).mono ?_; rintro e u ⟨rfl, rfl⟩))
    go_ret2
    exact ⟨tup2 (by simp [wideN, h1]) (by simp [wideC, h1]), by repeat (first | exact Below.refl _ _ | assumption | refine bDrewN ?_ _ | refine bAlloc ?_ _ | refine bTrans ?_ hb2 | refine bTrans ?_ hb)⟩
  · obtain ⟨⟨r1, r2⟩, ⟨k1, k2⟩, s1, s2⟩ := drumB_yes h1
    cases h2 : inB p 1 48
    · have hC := code2_no h1
      go_enter Try.func25, Try.ntmps25
      go_wp2_with (first | (go_at_call 42; refine (l07Glue_any _ r h s _ _ (bdNew _ _ _ _)).mono ?_; rintro e u ⟨rfl, rfl⟩) | (go_at_call 47; refine (l07Many_any _ r h s _ _ (bdNew _ _ _ _)).mono ?_; rintro e u ⟨rfl, rfl⟩) | (go_at_call 50; refine (l00In_any _ _ _ _).mono ?_; rintro e u ⟨rfl, rfl⟩))
      go_ret2
      exact ⟨tup2 (by simp [wideN, h1, h2]) (by simp [wideC, h1, h2]), by repeat (first | exact Below.refl _ _ | assumption | refine bDrewN ?_ _ | refine bAlloc ?_ _ | refine bTrans ?_ hb2 | refine bTrans ?_ hb)⟩
    · obtain ⟨p1, p2⟩ := inB_iff.1 h2
      have p0 : ¬ p = 0 := by omega
      have hC := code2_yes h1
      obtain ⟨q1, q2⟩ := quo_bd (x := r) (p := p) (by omega) p1
      cases h3 : inB g 0 10000
      · go_enter Try.func25, Try.ntmps25
        go_wp2_with (first | (go_at_call 42; refine (l07Glue_any _ r h s _ _ (bdNew _ _ _ _)).mono ?_; rintro e u ⟨rfl, rfl⟩) | (go_at_call 47; refine (l07Many_any _ r h s _ _ (bdNew _ _ _ _)).mono ?_; rintro e u ⟨rfl, rfl⟩) | (go_at_call 50; refine (l00In_any _ _ _ _).mono ?_; rintro e u ⟨rfl, rfl⟩))
        go_ret2
        exact ⟨tup2 (by simp [wideN, h1, h2, h3]) (by simp [wideC, h1, h2, h3]), by repeat (first | exact Below.refl _ _ | assumption | refine bDrewN ?_ _ | refine bAlloc ?_ _ | refine bTrans ?_ hb2 | refine bTrans ?_ hb)⟩
      · obtain ⟨g1, g2⟩ := inB_iff.1 h3
        by_cases h4 : r / p - g < 1
        · have h5 : ¬ 1 ≤ r / p - g := by omega
          go_enter Try.func25, Try.ntmps25
          go_wp2_with (first | (go_at_call 42; refine (l07Glue_any _ r h s _ _ (bdNew _ _ _ _)).mono ?_; rintro e u ⟨rfl, rfl⟩) | (go_at_call 47; refine (l07Many_any _ r h s _ _ (bdNew _ _ _ _)).mono ?_; rintro e u ⟨rfl, rfl⟩) | (go_at_call 50; refine (l00In_any _ _ _ _).mono ?_; rintro e u ⟨rfl, rfl⟩))
          go_ret2
          exact ⟨tup2 (by first | (simp [wideN, h1, h2, h3]; done) | (simp [wideN, h1, h2, h3]; omega)) (by first | (simp [wideC, h1, h2, h3]; done) | (simp [wideC, h1, h2, h3]; omega)), by repeat (first | exact Below.refl _ _ | assumption | refine bDrewN ?_ _ | refine bAlloc ?_ _ | refine bTrans ?_ hb2 | refine bTrans ?_ hb)⟩
        · have h5 : 1 ≤ r / p - g := by omega
          go_enter Try.func25, Try.ntmps25
          go_wp2_with (first | (go_at_call 42; refine (l07Glue_any _ r h s _ _ (bdNew _ _ _ _)).mono ?_; rintro e u ⟨rfl, rfl⟩) | (go_at_call 47; refine (l07Many_any _ r h s _ _ (bdNew _ _ _ _)).mono ?_; rintro e u ⟨rfl, rfl⟩) | (go_at_call 50; refine (l00In_any _ _ _ _).mono ?_; rintro e u ⟨rfl, rfl⟩))
          go_ret2
          exact ⟨tup2 (by first | (simp [wideN, h1, h2, h3]; done) | (simp [wideN, h1, h2, h3]; omega)) (by first | (simp [wideC, h1, h2, h3]; done) | (simp [wideC, h1, h2, h3]; omega)), by repeat (first | exact Below.refl _ _ | assumption | refine bDrewN ?_ _ | refine bAlloc ?_ _ | refine bTrans ?_ hb2 | refine bTrans ?_ hb)⟩

/-- How many pieces a strip needs, and the code. -/
def pieceN (r h s g l : Int) : Int := if drumB r h s && inB g 0 100 && inB l 1 10000 && decide (g < l) then (r + (l - g) - 1) / (l - g) else 0
def pieceC (r h s g l : Int) : Int := if drumB r h s then (if inB g 0 100 && inB l 1 10000 then (if g < l then 0 else 5) else 2) else 1

/-- impl.PiecesFor. -/
theorem implPieces_any (r h s g l : Int) (w : World) :
    Calls Try.prog 30 #[dr r h s, .int .i64 g, .int .i64 l] w fun e w' => e = .returned (.tuple #[.int .i64 (pieceN r h s g l), .int .i64 (pieceC r h s g l)]) ∧ Below w.heap.size w w' := by
  cases h1 : drumB r h s
  · have hC := code2_bad (k := inB g 0 100) h1
    go_enter Try.func30, Try.ntmps30
    go_wp2_with (first | (go_at_call 15; refine (validDrum_any _ _ _ _).mono ?_; rintro e u ⟨rfl, hb⟩; obtain ⟨hc1, hf1⟩ := bCells hb) | (go_at_call 45; refine (isGlue_any _ _).mono ?_; rintro e u ⟨rfl, rfl⟩) | (go_at_call 41; refine (onDisc_any _ _).mono ?_; rintro e u ⟨rfl, rfl⟩) | (go_at_call 40; refine (isWithin_any _ _ _ _).mono ?_; rintro e u ⟨rfl, rfl⟩) | (go_at_call 52; refine (isPaper_any _ _).mono ?_; rintro e u ⟨rfl, rfl⟩))
    go_ret2
    exact ⟨tup2 (by simp [pieceN, h1]) (by simp [pieceC, h1]), by repeat (first | exact Below.refl _ _ | assumption | refine bDrewN ?_ _ | refine bAlloc ?_ _ | refine bTrans ?_ hb2 | refine bTrans ?_ hb)⟩
  · obtain ⟨⟨r1, r2⟩, ⟨k1, k2⟩, s1, s2⟩ := drumB_yes h1
    cases h2 : inB g 0 100
    · have hC := code2_no h1
      go_enter Try.func30, Try.ntmps30
      go_wp2_with (first | (go_at_call 15; refine (validDrum_any _ _ _ _).mono ?_; rintro e u ⟨rfl, hb⟩; obtain ⟨hc1, hf1⟩ := bCells hb) | (go_at_call 45; refine (isGlue_any _ _).mono ?_; rintro e u ⟨rfl, rfl⟩) | (go_at_call 41; refine (onDisc_any _ _).mono ?_; rintro e u ⟨rfl, rfl⟩) | (go_at_call 40; refine (isWithin_any _ _ _ _).mono ?_; rintro e u ⟨rfl, rfl⟩) | (go_at_call 52; refine (isPaper_any _ _).mono ?_; rintro e u ⟨rfl, rfl⟩))
      go_ret2
      exact ⟨tup2 (by simp [pieceN, h1, h2]) (by simp [pieceC, h1, h2]), by repeat (first | exact Below.refl _ _ | assumption | refine bDrewN ?_ _ | refine bAlloc ?_ _ | refine bTrans ?_ hb2 | refine bTrans ?_ hb)⟩
    · obtain ⟨g1, g2⟩ := inB_iff.1 h2
      have hC := code2_yes h1
      cases h3 : inB l 1 10000
      · go_enter Try.func30, Try.ntmps30
        go_wp2_with (first | (go_at_call 15; refine (validDrum_any _ _ _ _).mono ?_; rintro e u ⟨rfl, hb⟩; obtain ⟨hc1, hf1⟩ := bCells hb) | (go_at_call 45; refine (isGlue_any _ _).mono ?_; rintro e u ⟨rfl, rfl⟩) | (go_at_call 41; refine (onDisc_any _ _).mono ?_; rintro e u ⟨rfl, rfl⟩) | (go_at_call 40; refine (isWithin_any _ _ _ _).mono ?_; rintro e u ⟨rfl, rfl⟩) | (go_at_call 52; refine (isPaper_any _ _).mono ?_; rintro e u ⟨rfl, rfl⟩))
        go_ret2
        exact ⟨tup2 (by simp [pieceN, h1, h2, h3]) (by simp [pieceC, h1, h2, h3]), by repeat (first | exact Below.refl _ _ | assumption | refine bDrewN ?_ _ | refine bAlloc ?_ _ | refine bTrans ?_ hb2 | refine bTrans ?_ hb)⟩
      · obtain ⟨l1, l2⟩ := inB_iff.1 h3
        by_cases h4 : g < l
        · have c1 : ¬ l ≤ g := by omega
          have c2 : ¬ l - g < 1 := by omega
          have c0 : ¬ l - g = 0 := by omega
          obtain ⟨q1, q2⟩ := quo_bd (x := r + (l - g) - 1) (p := l - g) (by omega) (by omega)
          go_enter Try.func30, Try.ntmps30
          go_wp2_with (first | (go_at_call 15; refine (validDrum_any _ _ _ _).mono ?_; rintro e u ⟨rfl, hb⟩; obtain ⟨hc1, hf1⟩ := bCells hb) | (go_at_call 45; refine (isGlue_any _ _).mono ?_; rintro e u ⟨rfl, rfl⟩) | (go_at_call 41; refine (onDisc_any _ _).mono ?_; rintro e u ⟨rfl, rfl⟩) | (go_at_call 40; refine (isWithin_any _ _ _ _).mono ?_; rintro e u ⟨rfl, rfl⟩) | (go_at_call 52; refine (isPaper_any _ _).mono ?_; rintro e u ⟨rfl, rfl⟩))
          go_ret2
          exact ⟨tup2 (by simp only [pieceN, h1, h2, h3, h4, decide_true, Bool.and_true, if_true]) (by simp [pieceC, h1, h2, h3, h4]), by repeat (first | exact Below.refl _ _ | assumption | refine bDrewN ?_ _ | refine bAlloc ?_ _ | refine bTrans ?_ hb2 | refine bTrans ?_ hb)⟩
        · have c1 : l ≤ g := by omega
          have c2 : l - g < 1 := by omega
          go_enter Try.func30, Try.ntmps30
          go_wp2_with (first | (go_at_call 15; refine (validDrum_any _ _ _ _).mono ?_; rintro e u ⟨rfl, hb⟩; obtain ⟨hc1, hf1⟩ := bCells hb) | (go_at_call 45; refine (isGlue_any _ _).mono ?_; rintro e u ⟨rfl, rfl⟩) | (go_at_call 41; refine (onDisc_any _ _).mono ?_; rintro e u ⟨rfl, rfl⟩) | (go_at_call 40; refine (isWithin_any _ _ _ _).mono ?_; rintro e u ⟨rfl, rfl⟩) | (go_at_call 52; refine (isPaper_any _ _).mono ?_; rintro e u ⟨rfl, rfl⟩))
          go_ret2
          exact ⟨tup2 (by first | (simp [pieceN, h1, h2, h3, h4]; done) | (simp [pieceN, h1, h2, h3]; omega)) (by first | (simp [pieceC, h1, h2, h3, h4]; done) | (simp [pieceC, h1, h2, h3]; omega)), by repeat (first | exact Below.refl _ _ | assumption | refine bDrewN ?_ _ | refine bAlloc ?_ _ | refine bTrans ?_ hb2 | refine bTrans ?_ hb)⟩

/-- spec.PiecesFor. -/
theorem specPieces_any (r h s g l : Int) (w : World) :
    Calls Try.prog 29 #[dr r h s, .int .i64 g, .int .i64 l] w fun e w' => e = .returned (.tuple #[.int .i64 (pieceN r h s g l), .int .i64 (pieceC r h s g l)]) ∧ Below w.heap.size w w' := by
  cases h1 : drumB r h s
  · have hC := code2_bad (k := inB g 0 100) h1
    go_enter Try.func29, Try.ntmps29
    go_wp2_with (first | (go_at_call 42; refine (l07Glue_any _ r h s _ _ (bdNew _ _ _ _)).mono ?_; rintro e u ⟨rfl, rfl⟩) | (go_at_call 47; refine (l07Many_any _ r h s _ _ (bdNew _ _ _ _)).mono ?_; rintro e u ⟨rfl, rfl⟩) | (go_at_call 50; refine (l00In_any _ _ _ _).mono ?_; rintro e u ⟨rfl, rfl⟩))
    go_ret2
    exact ⟨tup2 (by simp [pieceN, h1]) (by simp [pieceC, h1]), by repeat (first | exact Below.refl _ _ | assumption | refine bDrewN ?_ _ | refine bAlloc ?_ _ | refine bTrans ?_ hb2 | refine bTrans ?_ hb)⟩
  · obtain ⟨⟨r1, r2⟩, ⟨k1, k2⟩, s1, s2⟩ := drumB_yes h1
    cases h2 : inB g 0 100
    · have hC := code2_no h1
      go_enter Try.func29, Try.ntmps29
      go_wp2_with (first | (go_at_call 42; refine (l07Glue_any _ r h s _ _ (bdNew _ _ _ _)).mono ?_; rintro e u ⟨rfl, rfl⟩) | (go_at_call 47; refine (l07Many_any _ r h s _ _ (bdNew _ _ _ _)).mono ?_; rintro e u ⟨rfl, rfl⟩) | (go_at_call 50; refine (l00In_any _ _ _ _).mono ?_; rintro e u ⟨rfl, rfl⟩))
      go_ret2
      exact ⟨tup2 (by simp [pieceN, h1, h2]) (by simp [pieceC, h1, h2]), by repeat (first | exact Below.refl _ _ | assumption | refine bDrewN ?_ _ | refine bAlloc ?_ _ | refine bTrans ?_ hb2 | refine bTrans ?_ hb)⟩
    · obtain ⟨g1, g2⟩ := inB_iff.1 h2
      have hC := code2_yes h1
      cases h3 : inB l 1 10000
      · go_enter Try.func29, Try.ntmps29
        go_wp2_with (first | (go_at_call 42; refine (l07Glue_any _ r h s _ _ (bdNew _ _ _ _)).mono ?_; rintro e u ⟨rfl, rfl⟩) | (go_at_call 47; refine (l07Many_any _ r h s _ _ (bdNew _ _ _ _)).mono ?_; rintro e u ⟨rfl, rfl⟩) | (go_at_call 50; refine (l00In_any _ _ _ _).mono ?_; rintro e u ⟨rfl, rfl⟩))
        go_ret2
        exact ⟨tup2 (by simp [pieceN, h1, h2, h3]) (by simp [pieceC, h1, h2, h3]), by repeat (first | exact Below.refl _ _ | assumption | refine bDrewN ?_ _ | refine bAlloc ?_ _ | refine bTrans ?_ hb2 | refine bTrans ?_ hb)⟩
      · obtain ⟨l1, l2⟩ := inB_iff.1 h3
        by_cases h4 : g < l
        · have c1 : ¬ l ≤ g := by omega
          have c2 : ¬ l - g < 1 := by omega
          have c0 : ¬ l - g = 0 := by omega
          obtain ⟨q1, q2⟩ := quo_bd (x := r + l - g - 1) (p := l - g) (by omega) (by omega)
          go_enter Try.func29, Try.ntmps29
          go_wp2_with (first | (go_at_call 42; refine (l07Glue_any _ r h s _ _ (bdNew _ _ _ _)).mono ?_; rintro e u ⟨rfl, rfl⟩) | (go_at_call 47; refine (l07Many_any _ r h s _ _ (bdNew _ _ _ _)).mono ?_; rintro e u ⟨rfl, rfl⟩) | (go_at_call 50; refine (l00In_any _ _ _ _).mono ?_; rintro e u ⟨rfl, rfl⟩))
          go_ret2
          exact ⟨tup2 (by simp only [pieceN, h1, h2, h3, h4, decide_true, Bool.and_true, if_true]; rw [show r + (l - g) - 1 = r + l - g - 1 by omega]) (by simp [pieceC, h1, h2, h3, h4]), by repeat (first | exact Below.refl _ _ | assumption | refine bDrewN ?_ _ | refine bAlloc ?_ _ | refine bTrans ?_ hb2 | refine bTrans ?_ hb)⟩
        · have c1 : l ≤ g := by omega
          have c2 : l - g < 1 := by omega
          go_enter Try.func29, Try.ntmps29
          go_wp2_with (first | (go_at_call 42; refine (l07Glue_any _ r h s _ _ (bdNew _ _ _ _)).mono ?_; rintro e u ⟨rfl, rfl⟩) | (go_at_call 47; refine (l07Many_any _ r h s _ _ (bdNew _ _ _ _)).mono ?_; rintro e u ⟨rfl, rfl⟩) | (go_at_call 50; refine (l00In_any _ _ _ _).mono ?_; rintro e u ⟨rfl, rfl⟩))
          go_ret2
          exact ⟨tup2 (by first | (simp [pieceN, h1, h2, h3, h4]; done) | (simp [pieceN, h1, h2, h3]; omega)) (by first | (simp [pieceC, h1, h2, h3, h4]; done) | (simp [pieceC, h1, h2, h3]; omega)), by repeat (first | exact Below.refl _ _ | assumption | refine bDrewN ?_ _ | refine bAlloc ?_ _ | refine bTrans ?_ hb2 | refine bTrans ?_ hb)⟩

end Go.Proofs.Ythphihfcgpoefaa
