/- The statements on drums whose functions make no memory: their own walks. -/
import Derived.Test.YthphihfcgpoefaaProg
import Derived.Test.YthphihfcgpoefaaDrum
import Derived.Test.YthphihfcgpoefaaStrip
import Derived.Test.YthphihfcgpoefaaWide
import Derived.Test.YthphihfcgpoefaaPaper
import Derived.OwnWalk
import Derived.IntWalk
import Derived.Laws.Cover1
import Derived.Deep.RegionWith
import Derived.Deep.DrawnRows
import Derived.Deep.RegionHeld3
import Derived.Tactics
import Derived.Tactics2
import Derived.WalkKit
import Derived.LoopTactic
import Derived.BigQuiet
import Derived.RegionTactic
import Derived.Deep.QuietTactic
import Derived.Outline
import Derived.Lib.Hide
import Derived.Below
import Derived.KernelRfl
namespace Go.Proofs.Ythphihfcgpoefaa
set_option linter.unusedSimpArgs false
set_option linter.unusedVariables false
open Go.RowKit

theorem lawValidDrum_of (r h s : Int) (t : Bool) (w : World)
    (hs : ∀ w : World, Calls Try.prog 13 #[dr r h s] w fun e w' => e = .returned (.bool t) ∧ Below w.heap.size w w')
    (hi : ∀ w : World, Calls Try.prog 15 #[dr r h s] w fun e w' => e = .returned (.bool t) ∧ Below w.heap.size w w') :
    Calls Try.prog 3 #[dr r h s] w fun e w' => e = .returned (.bool true) ∧ Below w.heap.size w w' := by
  have S := Lib.hid hs
  have I := Lib.hid hi
  clear hs hi
  go_enter Try.func3, Try.ntmps3
  go_wp2_with fail
  refine (toDrum_any _ _ _ _).mono ?_
  rintro e u1 ⟨rfl, hb1⟩
  obtain ⟨hc1, hf1⟩ := bCells hb1
  go_wp2_with fail
  refine (S.out _).mono ?_
  rintro e u2 ⟨rfl, hb2⟩
  obtain ⟨hc2, hf2⟩ := bCells hb2
  have hz1 : w.heap.size < u1.heap.size := by have := hb1.size; simp at this; omega
  go_wp2_with fail
  refine (toDrum_any _ _ _ _).mono ?_
  rintro e u3 ⟨rfl, hb3⟩
  obtain ⟨hc3, hf3⟩ := bCells hb3
  go_wp2_with fail
  refine (I.out _).mono ?_
  rintro e u4 ⟨rfl, hb4⟩
  go_wp2_with fail
  go_ret
  exact ⟨rfl, bTrans (bTrans (bTrans (bTrans (bAlloc (Below.refl _ _) _) hb1) hb2) hb3) hb4⟩

/-- laws.FnExactValidDrum. -/
theorem law_ValidDrum (r h s : Int) (w : World) :
    Calls Try.prog 3 #[dr r h s] w fun e w' => e = .returned (.bool true) ∧ Below w.heap.size w w' :=
  lawValidDrum_of r h s _ w (fun w => specValidDrum_any r h s w) (fun w => validDrum_any r h s w)

theorem lawStripFor_of (r h s g : Int) (z0 z1 z2 : Int) (w : World)
    (hs : ∀ w : World, Calls Try.prog 16 #[dr r h s, .int .i64 g] w fun e w' => e = .returned (.tuple #[.int .i64 z0, .int .i64 z1, .int .i64 z2]) ∧ Below w.heap.size w w')
    (hi : ∀ w : World, Calls Try.prog 17 #[dr r h s, .int .i64 g] w fun e w' => e = .returned (.tuple #[.int .i64 z0, .int .i64 z1, .int .i64 z2]) ∧ Below w.heap.size w w') :
    Calls Try.prog 4 #[dr r h s, .int .i64 g] w fun e w' => e = .returned (.bool true) ∧ Below w.heap.size w w' := by
  have S := Lib.hid hs
  have I := Lib.hid hi
  clear hs hi
  go_enter Try.func4, Try.ntmps4
  go_wp2_with fail
  refine (toDrum_any _ _ _ _).mono ?_
  rintro e u1 ⟨rfl, hb1⟩
  obtain ⟨hc1, hf1⟩ := bCells hb1
  go_wp2_with fail
  refine (S.out _).mono ?_
  rintro e u2 ⟨rfl, hb2⟩
  obtain ⟨hc2, hf2⟩ := bCells hb2
  have hz1 : w.heap.size < u1.heap.size := by have := hb1.size; simp at this; omega
  go_wp2_with fail
  refine (toDrum_any _ _ _ _).mono ?_
  rintro e u3 ⟨rfl, hb3⟩
  obtain ⟨hc3, hf3⟩ := bCells hb3
  go_wp2_with fail
  refine (I.out _).mono ?_
  rintro e u4 ⟨rfl, hb4⟩
  go_wp2_with fail
  go_ret
  exact ⟨rfl, bTrans (bTrans (bTrans (bTrans (bAlloc (Below.refl _ _) _) hb1) hb2) hb3) hb4⟩

/-- laws.FnExactStripFor. -/
theorem law_StripFor (r h s g : Int) (w : World) (_ig : I64 g) :
    Calls Try.prog 4 #[dr r h s, .int .i64 g] w fun e w' => e = .returned (.bool true) ∧ Below w.heap.size w w' :=
  lawStripFor_of r h s g _ _ _ w (fun w => specStripFor_any r h s g w) (fun w => implStripFor_any r h s g w)

theorem lawWidestPicture_of (r h s p g : Int) (z0 z1 : Int) (w : World)
    (hs : ∀ w : World, Calls Try.prog 25 #[dr r h s, .int .i64 p, .int .i64 g] w fun e w' => e = .returned (.tuple #[.int .i64 z0, .int .i64 z1]) ∧ Below w.heap.size w w')
    (hi : ∀ w : World, Calls Try.prog 26 #[dr r h s, .int .i64 p, .int .i64 g] w fun e w' => e = .returned (.tuple #[.int .i64 z0, .int .i64 z1]) ∧ Below w.heap.size w w') :
    Calls Try.prog 7 #[dr r h s, .int .i64 p, .int .i64 g] w fun e w' => e = .returned (.bool true) ∧ Below w.heap.size w w' := by
  have S := Lib.hid hs
  have I := Lib.hid hi
  clear hs hi
  go_enter Try.func7, Try.ntmps7
  go_wp2_with fail
  refine (toDrum_any _ _ _ _).mono ?_
  rintro e u1 ⟨rfl, hb1⟩
  obtain ⟨hc1, hf1⟩ := bCells hb1
  go_wp2_with fail
  refine (S.out _).mono ?_
  rintro e u2 ⟨rfl, hb2⟩
  obtain ⟨hc2, hf2⟩ := bCells hb2
  have hz1 : w.heap.size < u1.heap.size := by have := hb1.size; simp at this; omega
  go_wp2_with fail
  refine (toDrum_any _ _ _ _).mono ?_
  rintro e u3 ⟨rfl, hb3⟩
  obtain ⟨hc3, hf3⟩ := bCells hb3
  go_wp2_with fail
  refine (I.out _).mono ?_
  rintro e u4 ⟨rfl, hb4⟩
  go_wp2_with fail
  go_ret
  exact ⟨rfl, bTrans (bTrans (bTrans (bTrans (bAlloc (Below.refl _ _) _) hb1) hb2) hb3) hb4⟩

/-- laws.FnExactWidestPicture. -/
theorem law_WidestPicture (r h s p g : Int) (w : World) (_ip : I64 p) (_ig : I64 g) :
    Calls Try.prog 7 #[dr r h s, .int .i64 p, .int .i64 g] w fun e w' => e = .returned (.bool true) ∧ Below w.heap.size w w' :=
  lawWidestPicture_of r h s p g _ _ w (fun w => specWide_any r h s p g w) (fun w => implWide_any r h s p g w)

theorem lawStripsFrom_of (r h s g x y : Int) (z0 z1 : Int) (w : World)
    (hs : ∀ w : World, Calls Try.prog 27 #[dr r h s, .int .i64 g, .int .i64 x, .int .i64 y] w fun e w' => e = .returned (.tuple #[.int .i64 z0, .int .i64 z1]) ∧ Below w.heap.size w w')
    (hi : ∀ w : World, Calls Try.prog 28 #[dr r h s, .int .i64 g, .int .i64 x, .int .i64 y] w fun e w' => e = .returned (.tuple #[.int .i64 z0, .int .i64 z1]) ∧ Below w.heap.size w w') :
    Calls Try.prog 8 #[dr r h s, .int .i64 g, .int .i64 x, .int .i64 y] w fun e w' => e = .returned (.bool true) ∧ Below w.heap.size w w' := by
  have S := Lib.hid hs
  have I := Lib.hid hi
  clear hs hi
  go_enter Try.func8, Try.ntmps8
  go_wp2_with fail
  refine (toDrum_any _ _ _ _).mono ?_
  rintro e u1 ⟨rfl, hb1⟩
  obtain ⟨hc1, hf1⟩ := bCells hb1
  go_wp2_with fail
  refine (S.out _).mono ?_
  rintro e u2 ⟨rfl, hb2⟩
  obtain ⟨hc2, hf2⟩ := bCells hb2
  have hz1 : w.heap.size < u1.heap.size := by have := hb1.size; simp at this; omega
  go_wp2_with fail
  refine (toDrum_any _ _ _ _).mono ?_
  rintro e u3 ⟨rfl, hb3⟩
  obtain ⟨hc3, hf3⟩ := bCells hb3
  go_wp2_with fail
  refine (I.out _).mono ?_
  rintro e u4 ⟨rfl, hb4⟩
  go_wp2_with fail
  go_ret
  exact ⟨rfl, bTrans (bTrans (bTrans (bTrans (bAlloc (Below.refl _ _) _) hb1) hb2) hb3) hb4⟩

/-- laws.FnExactStripsFrom. -/
theorem law_StripsFrom (r h s g x y : Int) (w : World) (_ig : I64 g) (_ix : I64 x) (_iy : I64 y) :
    Calls Try.prog 8 #[dr r h s, .int .i64 g, .int .i64 x, .int .i64 y] w fun e w' => e = .returned (.bool true) ∧ Below w.heap.size w w' :=
  lawStripsFrom_of r h s g x y _ _ w (fun w => specPaper_any r h s g x y w) (fun w => implPaper_any r h s g x y w)

theorem lawPiecesFor_of (r h s g l : Int) (z0 z1 : Int) (w : World)
    (hs : ∀ w : World, Calls Try.prog 29 #[dr r h s, .int .i64 g, .int .i64 l] w fun e w' => e = .returned (.tuple #[.int .i64 z0, .int .i64 z1]) ∧ Below w.heap.size w w')
    (hi : ∀ w : World, Calls Try.prog 30 #[dr r h s, .int .i64 g, .int .i64 l] w fun e w' => e = .returned (.tuple #[.int .i64 z0, .int .i64 z1]) ∧ Below w.heap.size w w') :
    Calls Try.prog 9 #[dr r h s, .int .i64 g, .int .i64 l] w fun e w' => e = .returned (.bool true) ∧ Below w.heap.size w w' := by
  have S := Lib.hid hs
  have I := Lib.hid hi
  clear hs hi
  go_enter Try.func9, Try.ntmps9
  go_wp2_with fail
  refine (toDrum_any _ _ _ _).mono ?_
  rintro e u1 ⟨rfl, hb1⟩
  obtain ⟨hc1, hf1⟩ := bCells hb1
  go_wp2_with fail
  refine (S.out _).mono ?_
  rintro e u2 ⟨rfl, hb2⟩
  obtain ⟨hc2, hf2⟩ := bCells hb2
  have hz1 : w.heap.size < u1.heap.size := by have := hb1.size; simp at this; omega
  go_wp2_with fail
  refine (toDrum_any _ _ _ _).mono ?_
  rintro e u3 ⟨rfl, hb3⟩
  obtain ⟨hc3, hf3⟩ := bCells hb3
  go_wp2_with fail
  refine (I.out _).mono ?_
  rintro e u4 ⟨rfl, hb4⟩
  go_wp2_with fail
  go_ret
  exact ⟨rfl, bTrans (bTrans (bTrans (bTrans (bAlloc (Below.refl _ _) _) hb1) hb2) hb3) hb4⟩

/-- laws.FnExactPiecesFor. -/
theorem law_PiecesFor (r h s g l : Int) (w : World) (_ig : I64 g) (_il : I64 l) :
    Calls Try.prog 9 #[dr r h s, .int .i64 g, .int .i64 l] w fun e w' => e = .returned (.bool true) ∧ Below w.heap.size w w' :=
  lawPiecesFor_of r h s g l _ _ w (fun w => specPieces_any r h s g l w) (fun w => implPieces_any r h s g l w)

end Go.Proofs.Ythphihfcgpoefaa
