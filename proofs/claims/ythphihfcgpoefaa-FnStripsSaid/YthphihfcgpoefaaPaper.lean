/- Strips out of a paper, in the program and in the model. -/
import Derived.Test.YthphihfcgpoefaaProg
import Derived.Test.YthphihfcgpoefaaDrum
import Derived.Test.YthphihfcgpoefaaStrip
import Derived.Test.YthphihfcgpoefaaWide
import Derived.OwnWalk
import Derived.IntWalk
import Derived.Laws.Cover1
import Derived.Deep.RegionWith
import Derived.Deep.DrawnRows
import Derived.Deep.RegionHeld3
import Derived.Tactics
import Derived.Tactics2
import Derived.WalkKit
import Derived.LoopTactic
import Derived.BigQuiet
import Derived.RegionTactic
import Derived.Deep.QuietTactic
import Derived.Outline
import Derived.Lib.Hide
import Derived.Below
import Derived.KernelRfl
namespace Go.Proofs.Ythphihfcgpoefaa
set_option linter.unusedSimpArgs false
set_option linter.unusedVariables false
open Go.RowKit
attribute [local go_sem ↓] Go.wp_at_zero Go.wp_at_succ

/-- spec.l00Max. -/
theorem max_any (a b : Int) (w : World) :
    Calls Try.prog 51 #[.int .i64 a, .int .i64 b] w fun e w' => e = .returned (.int .i64 (max a b)) ∧ w = w' := by
  by_cases h : a > b
  · have h' : b < a := h
    go_enter Try.func51, Try.ntmps51
    go_wp2
    go_ret
    exact ⟨ret_int (by omega), rfl⟩
  · have h' : ¬ b < a := h
    go_enter Try.func51, Try.ntmps51
    go_wp2
    go_ret
    exact ⟨ret_int (by omega), rfl⟩

/-- How many strips are cut from a paper, and the code. -/
def paperN (r h s g x y : Int) : Int := if drumB r h s && inB g 0 100 && (inB x 1 5000 && inB y 1 5000) then max (x / (r + g) * (y / (h / 2))) (y / (r + g) * (x / (h / 2))) else 0
def paperC (r h s g x y : Int) : Int := if drumB r h s then (if inB g 0 100 && (inB x 1 5000 && inB y 1 5000) then 0 else 2) else 1
theorem paperN_yes {r h s g x y : Int} (h1 : drumB r h s = true) (h2 : inB g 0 100 = true) (h3 : inB x 1 5000 = true) (h4 : inB y 1 5000 = true) :
    paperN r h s g x y = max (x / (r + g) * (y / (h / 2))) (y / (r + g) * (x / (h / 2))) := by simp [paperN, h1, h2, h3, h4]
theorem prod_bd {a b : Int} (a0 : 0 ≤ a) (a1 : a ≤ 5000) (b0 : 0 ≤ b) (b1 : b ≤ 5000) : 0 ≤ a * b ∧ a * b ≤ 25000000 := by
  refine ⟨Int.mul_nonneg a0 b0, ?_⟩
  calc a * b ≤ 5000 * b := Int.mul_le_mul_of_nonneg_right a1 b0
    _ ≤ 25000000 := by omega

theorem bdDrew {w : World} {b : Nat} {r h s : Int} (x : Bd w b r h s) (n : Nat) : Bd (w.drewN n) b r h s := ⟨x.c0, x.c1, x.c2, x.lt⟩

/-- impl.StripsFrom. -/
theorem implPaper_any (r h s g x y : Int) (w : World) :
    Calls Try.prog 28 #[dr r h s, .int .i64 g, .int .i64 x, .int .i64 y] w fun e w' => e = .returned (.tuple #[.int .i64 (paperN r h s g x y), .int .i64 (paperC r h s g x y)]) ∧ Below w.heap.size w w' := by
  cases h1 : drumB r h s
  · have hC := code2_bad (k := inB g 0 100) h1
    go_enter Try.func28, Try.ntmps28
    go_wp2_with (first | (go_at_call 15; refine (validDrum_any _ _ _ _).mono ?_; rintro e u ⟨rfl, hb⟩; obtain ⟨hc1, hf1⟩ := bCells hb) | (go_at_call 45; refine (isGlue_any _ _).mono ?_; rintro e u ⟨rfl, rfl⟩) | (go_at_call 41; refine (onDisc_any _ _).mono ?_; rintro e u ⟨rfl, rfl⟩) | (go_at_call 40; refine (isWithin_any _ _ _ _).mono ?_; rintro e u ⟨rfl, rfl⟩) | (go_at_call 52; refine (isPaper_any _ _).mono ?_; rintro e u ⟨rfl, rfl⟩))
    go_ret2
    exact ⟨tup2 (by simp [paperN, h1]) (by simp [paperC, h1]), by repeat (first | exact Below.refl _ _ | assumption | refine bDrewN ?_ _ | refine bAlloc ?_ _ | refine bTrans ?_ hb2 | refine bTrans ?_ hb)⟩
  · obtain ⟨⟨r1, r2⟩, ⟨k1, k2⟩, s1, s2⟩ := drumB_yes h1
    cases h2 : inB g 0 100
    · have hC := code2_no h1
      go_enter Try.func28, Try.ntmps28
      go_wp2_with (first | (go_at_call 15; refine (validDrum_any _ _ _ _).mono ?_; rintro e u ⟨rfl, hb⟩; obtain ⟨hc1, hf1⟩ := bCells hb) | (go_at_call 45; refine (isGlue_any _ _).mono ?_; rintro e u ⟨rfl, rfl⟩) | (go_at_call 41; refine (onDisc_any _ _).mono ?_; rintro e u ⟨rfl, rfl⟩) | (go_at_call 40; refine (isWithin_any _ _ _ _).mono ?_; rintro e u ⟨rfl, rfl⟩) | (go_at_call 52; refine (isPaper_any _ _).mono ?_; rintro e u ⟨rfl, rfl⟩))
      go_ret2
      exact ⟨tup2 (by simp [paperN, h1, h2]) (by simp [paperC, h1, h2]), by repeat (first | exact Below.refl _ _ | assumption | refine bDrewN ?_ _ | refine bAlloc ?_ _ | refine bTrans ?_ hb2 | refine bTrans ?_ hb)⟩
    · obtain ⟨g1, g2⟩ := inB_iff.1 h2
      have hC := code2_yes h1
      cases h3 : inB x 1 5000
      · go_enter Try.func28, Try.ntmps28
        go_wp2_with (first | (go_at_call 15; refine (validDrum_any _ _ _ _).mono ?_; rintro e u ⟨rfl, hb⟩; obtain ⟨hc1, hf1⟩ := bCells hb) | (go_at_call 45; refine (isGlue_any _ _).mono ?_; rintro e u ⟨rfl, rfl⟩) | (go_at_call 41; refine (onDisc_any _ _).mono ?_; rintro e u ⟨rfl, rfl⟩) | (go_at_call 40; refine (isWithin_any _ _ _ _).mono ?_; rintro e u ⟨rfl, rfl⟩) | (go_at_call 52; refine (isPaper_any _ _).mono ?_; rintro e u ⟨rfl, rfl⟩))
        go_ret2
        exact ⟨tup2 (by simp [paperN, h1, h2, h3]) (by simp [paperC, h1, h2, h3]), by repeat (first | exact Below.refl _ _ | assumption | refine bDrewN ?_ _ | refine bAlloc ?_ _ | refine bTrans ?_ hb2 | refine bTrans ?_ hb)⟩
      · obtain ⟨x1, x2⟩ := inB_iff.1 h3
        cases h4 : inB y 1 5000
        · go_enter Try.func28, Try.ntmps28
          go_wp2_with (first | (go_at_call 15; refine (validDrum_any _ _ _ _).mono ?_; rintro e u ⟨rfl, hb⟩; obtain ⟨hc1, hf1⟩ := bCells hb) | (go_at_call 45; refine (isGlue_any _ _).mono ?_; rintro e u ⟨rfl, rfl⟩) | (go_at_call 41; refine (onDisc_any _ _).mono ?_; rintro e u ⟨rfl, rfl⟩) | (go_at_call 40; refine (isWithin_any _ _ _ _).mono ?_; rintro e u ⟨rfl, rfl⟩) | (go_at_call 52; refine (isPaper_any _ _).mono ?_; rintro e u ⟨rfl, rfl⟩))
          go_ret2
          exact ⟨tup2 (by simp [paperN, h1, h2, h3, h4]) (by simp [paperC, h1, h2, h3, h4]), by repeat (first | exact Below.refl _ _ | assumption | refine bDrewN ?_ _ | refine bAlloc ?_ _ | refine bTrans ?_ hb2 | refine bTrans ?_ hb)⟩
        · obtain ⟨y1, y2⟩ := inB_iff.1 h4
          rw [paperN_yes h1 h2 h3 h4, show paperC r h s g x y = 0 by simp [paperC, h1, h2, h3, h4]]
          have hS := Lib.hid (fun w : World => strip_any r h s g w (by omega) (by omega) (by omega))
          have hL := Lib.hid (fun (b : Nat) (w : World) (B : Bd w b r h s) => l07Long_any b r h s g w B (by omega) (by omega))
          have hH := Lib.hid (fun (b : Nat) (w : World) (B : Bd w b r h s) => l07High_any b r h s w B (by omega))
          have L1 : 1 ≤ r + g := by omega
          have H1 : 1 ≤ h / 2 := by omega
          generalize r + g = L at *
          generalize h / 2 = H at *
          have L0 : ¬ L = 0 := by omega
          have H0 : ¬ H = 0 := by omega
          obtain ⟨a1, a2⟩ := quo_bd (x := x) (p := L) (by omega) L1
          obtain ⟨b1, b2⟩ := quo_bd (x := y) (p := L) (by omega) L1
          obtain ⟨c1, c2⟩ := quo_bd (x := x) (p := H) (by omega) H1
          obtain ⟨d1, d2⟩ := quo_bd (x := y) (p := H) (by omega) H1
          have y0 : 0 ≤ y := by omega
          have x0 : 0 ≤ x := by omega
          obtain ⟨m1, m2⟩ := prod_bd a1 (by omega) d1 (by omega)
          obtain ⟨n1, n2⟩ := prod_bd b1 (by omega) c1 (by omega)
          go_enter Try.func28, Try.ntmps28
          go_wp2_with (first | (go_at_call 15; refine (validDrum_any _ _ _ _).mono ?_; rintro e u ⟨rfl, hb⟩; obtain ⟨hc1, hf1⟩ := bCells hb) | (go_at_call 45; refine (isGlue_any _ _).mono ?_; rintro e u ⟨rfl, rfl⟩) | (go_at_call 41; refine (onDisc_any _ _).mono ?_; rintro e u ⟨rfl, rfl⟩) | (go_at_call 40; refine (isWithin_any _ _ _ _).mono ?_; rintro e u ⟨rfl, rfl⟩) | (go_at_call 52; refine (isPaper_any _ _).mono ?_; rintro e u ⟨rfl, rfl⟩) | (go_at_call 46; refine (hS.out _).mono ?_; rintro e u2 ⟨rfl, hb2⟩))
          go_quiet (fail)
          go_wp2
          go_quiet (fail)
          go_wp2
          all_goals go_ret2
          all_goals exact ⟨tup2 (by omega) rfl, by repeat (first | exact Below.refl _ _ | assumption | refine bDrewN ?_ _ | refine bAlloc ?_ _ | refine bTrans ?_ hb2 | refine bTrans ?_ hb)⟩

/-- spec.StripsFrom. -/
theorem specPaper_any (r h s g x y : Int) (w : World) :
    Calls Try.prog 27 #[dr r h s, .int .i64 g, .int .i64 x, .int .i64 y] w fun e w' => e = .returned (.tuple #[.int .i64 (paperN r h s g x y), .int .i64 (paperC r h s g x y)]) ∧ Below w.heap.size w w' := by
  cases h1 : drumB r h s
  · have hC := code2_bad (k := inB g 0 100) h1
    go_enter Try.func27, Try.ntmps27
    go_wp2_with (first | (go_at_call 42; refine (l07Glue_any _ r h s _ _ (bdNew _ _ _ _)).mono ?_; rintro e u ⟨rfl, rfl⟩) | (go_at_call 47; refine (l07Many_any _ r h s _ _ (bdNew _ _ _ _)).mono ?_; rintro e u ⟨rfl, rfl⟩) | (go_at_call 50; refine (l00In_any _ _ _ _).mono ?_; rintro e u ⟨rfl, rfl⟩))
    go_ret2
    exact ⟨tup2 (by simp [paperN, h1]) (by simp [paperC, h1]), by repeat (first | exact Below.refl _ _ | assumption | refine bDrewN ?_ _ | refine bAlloc ?_ _ | refine bTrans ?_ hb2 | refine bTrans ?_ hb)⟩
  · obtain ⟨⟨r1, r2⟩, ⟨k1, k2⟩, s1, s2⟩ := drumB_yes h1
    cases h2 : inB g 0 100
    · have hC := code2_no h1
      go_enter Try.func27, Try.ntmps27
      go_wp2_with (first | (go_at_call 42; refine (l07Glue_any _ r h s _ _ (bdNew _ _ _ _)).mono ?_; rintro e u ⟨rfl, rfl⟩) | (go_at_call 47; refine (l07Many_any _ r h s _ _ (bdNew _ _ _ _)).mono ?_; rintro e u ⟨rfl, rfl⟩) | (go_at_call 50; refine (l00In_any _ _ _ _).mono ?_; rintro e u ⟨rfl, rfl⟩))
      go_ret2
      exact ⟨tup2 (by simp [paperN, h1, h2]) (by simp [paperC, h1, h2]), by repeat (first | exact Below.refl _ _ | assumption | refine bDrewN ?_ _ | refine bAlloc ?_ _ | refine bTrans ?_ hb2 | refine bTrans ?_ hb)⟩
    · obtain ⟨g1, g2⟩ := inB_iff.1 h2
      have hC := code2_yes h1
      cases h3 : inB x 1 5000
      · go_enter Try.func27, Try.ntmps27
        go_wp2_with (first | (go_at_call 42; refine (l07Glue_any _ r h s _ _ (bdNew _ _ _ _)).mono ?_; rintro e u ⟨rfl, rfl⟩) | (go_at_call 47; refine (l07Many_any _ r h s _ _ (bdNew _ _ _ _)).mono ?_; rintro e u ⟨rfl, rfl⟩) | (go_at_call 50; refine (l00In_any _ _ _ _).mono ?_; rintro e u ⟨rfl, rfl⟩))
        go_ret2
        exact ⟨tup2 (by simp [paperN, h1, h2, h3]) (by simp [paperC, h1, h2, h3]), by repeat (first | exact Below.refl _ _ | assumption | refine bDrewN ?_ _ | refine bAlloc ?_ _ | refine bTrans ?_ hb2 | refine bTrans ?_ hb)⟩
      · obtain ⟨x1, x2⟩ := inB_iff.1 h3
        cases h4 : inB y 1 5000
        · go_enter Try.func27, Try.ntmps27
          go_wp2_with (first | (go_at_call 42; refine (l07Glue_any _ r h s _ _ (bdNew _ _ _ _)).mono ?_; rintro e u ⟨rfl, rfl⟩) | (go_at_call 47; refine (l07Many_any _ r h s _ _ (bdNew _ _ _ _)).mono ?_; rintro e u ⟨rfl, rfl⟩) | (go_at_call 50; refine (l00In_any _ _ _ _).mono ?_; rintro e u ⟨rfl, rfl⟩))
          go_ret2
          exact ⟨tup2 (by simp [paperN, h1, h2, h3, h4]) (by simp [paperC, h1, h2, h3, h4]), by repeat (first | exact Below.refl _ _ | assumption | refine bDrewN ?_ _ | refine bAlloc ?_ _ | refine bTrans ?_ hb2 | refine bTrans ?_ hb)⟩
        · obtain ⟨y1, y2⟩ := inB_iff.1 h4
          rw [paperN_yes h1 h2 h3 h4, show paperC r h s g x y = 0 by simp [paperC, h1, h2, h3, h4]]
          have hS := Lib.hid (fun w : World => strip_any r h s g w (by omega) (by omega) (by omega))
          have hL := Lib.hid (fun (b : Nat) (w : World) (B : Bd w b r h s) => l07Long_any b r h s g w B (by omega) (by omega))
          have hH := Lib.hid (fun (b : Nat) (w : World) (B : Bd w b r h s) => l07High_any b r h s w B (by omega))
          have L1 : 1 ≤ r + g := by omega
          have H1 : 1 ≤ h / 2 := by omega
          generalize r + g = L at *
          generalize h / 2 = H at *
          have L0 : ¬ L = 0 := by omega
          have H0 : ¬ H = 0 := by omega
          obtain ⟨a1, a2⟩ := quo_bd (x := x) (p := L) (by omega) L1
          obtain ⟨b1, b2⟩ := quo_bd (x := y) (p := L) (by omega) L1
          obtain ⟨c1, c2⟩ := quo_bd (x := x) (p := H) (by omega) H1
          obtain ⟨d1, d2⟩ := quo_bd (x := y) (p := H) (by omega) H1
          have y0 : 0 ≤ y := by omega
          have x0 : 0 ≤ x := by omega
          obtain ⟨m1, m2⟩ := prod_bd a1 (by omega) d1 (by omega)
          obtain ⟨n1, n2⟩ := prod_bd b1 (by omega) c1 (by omega)
          go_enter Try.func27, Try.ntmps27
          go_wp2_with (first | (go_at_call 42; refine (l07Glue_any _ r h s _ _ (bdNew _ _ _ _)).mono ?_; rintro e u ⟨rfl, rfl⟩) | (go_at_call 47; refine (l07Many_any _ r h s _ _ (bdNew _ _ _ _)).mono ?_; rintro e u ⟨rfl, rfl⟩) | (go_at_call 50; refine (l00In_any _ _ _ _).mono ?_; rintro e u ⟨rfl, rfl⟩) | (go_at_call 43; refine (hL.out _ _ (bdNew _ _ _ _)).mono ?_; rintro e u ⟨rfl, rfl⟩) | (go_at_call 51; refine (max_any _ _ _).mono ?_; rintro e u ⟨rfl, rfl⟩))
          go_quiet ((go_at_call 44; exact quietEq (hH.out _ _ (bdDrew (bdNew _ _ _ _) _))))
          go_wp2
          have BB := bdDrew (bdNew w r h s) nq
          generalize hW : (w.alloc (.cells #[.int .i64 r, .int .i64 h, .int .i64 s] 25)).drewN nq = wa at *
          go_quiet ((go_at_call 44; exact quietEq (hH.out _ _ (bdDrew BB _))))
          subst hW
          go_wp2_with (go_at_call 51; refine (max_any _ _ _).mono ?_; rintro e u ⟨rfl, rfl⟩)
          go_ret2
          exact ⟨rfl, by repeat (first | exact Below.refl _ _ | assumption | refine bDrewN ?_ _ | refine bAlloc ?_ _ | refine bTrans ?_ hb2 | refine bTrans ?_ hb)⟩

end Go.Proofs.Ythphihfcgpoefaa
