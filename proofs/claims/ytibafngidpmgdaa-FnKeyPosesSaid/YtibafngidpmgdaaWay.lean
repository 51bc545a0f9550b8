/- The joints between two poses: the program's iterator. -/
import Derived.Test.YtibafngidpmgdaaProg
import Derived.Test.YtibafngidpmgdaaMix
import Derived.Test.YtibafngidpmgdaaNear
import Derived.OwnWalk
import Derived.Deep.RegionWith
import Derived.Deep.DrawnRows
import Derived.Deep.RegionHeld3
import Derived.Tactics
import Derived.Tactics2
import Derived.WalkKit
import Derived.LoopTactic
import Derived.BigQuiet
import Derived.BigRegion
import Derived.RegionTactic
import Derived.Deep.QuietTactic
import Derived.IntWalk
import Derived.Outline
import Derived.Lib.Hide
import Derived.Below
import Derived.KernelRfl
namespace Go.Proofs.Ytibafngidpmgdaa
set_option linter.unusedSimpArgs false
set_option linter.unusedVariables false
open Go.RowKit

/-- impl.weighed. -/
theorem weighed_any (a b m N : Int) (w : World) (a0 : 0 ≤ a) (a1 : a ≤ 1000) (b0 : 0 ≤ b) (b1 : b ≤ 1000) (m0 : 0 ≤ m) (m1 : m ≤ N) (n0 : 1 ≤ N) (n1 : N ≤ 10000) :
    Calls Try.prog 159 #[.int .i64 a, .int .i64 b, .int .i64 m, .int .i64 N] w fun e w' => e = .returned (.int .i64 (mixN a b m N)) ∧ w = w' := by
  obtain ⟨h1, h2, h3, h4, h5⟩ := weigh_bd a0 a1 b0 b1 m0 m1 n1
  have W := Lib.hid (nearestWhole_any (a * (N - m) + b * m) N w n0 (by omega) (by omega) (by omega))
  have w0 : IntKind.i64.wrap (N - m) = N - m := IntWalk.i64_in _ (by omega)
  have w1 : IntKind.i64.wrap (a * (N - m)) = a * (N - m) := IntWalk.i64_in _ (by omega)
  have w2 : IntKind.i64.wrap (b * m) = b * m := IntWalk.i64_in _ (by omega)
  have w3 : IntKind.i64.wrap (a * (N - m) + b * m) = a * (N - m) + b * m := IntWalk.i64_in _ (by omega)
  go_enter Try.func159, Try.ntmps159
  go_wp2_with fail
  refine W.out.mono ?_
  rintro e u ⟨rfl, rfl⟩
  go_wp2
  go_ret
  exact ⟨rfl, rfl⟩

set_option maxHeartbeats 2000000 in
/-- impl.Point.towards. -/
theorem towards_any (x y x' y' m N : Int) (w : World) (x0 : 0 ≤ x) (x1 : x ≤ 1000) (y0 : 0 ≤ y) (y1 : y ≤ 1000) (x0' : 0 ≤ x') (x1' : x' ≤ 1000) (y0' : 0 ≤ y') (y1' : y' ≤ 1000) (m0 : 0 ≤ m) (m1 : m ≤ N) (n0 : 1 ≤ N) (n1 : N ≤ 10000) :
    Calls Try.prog 146 #[fr x y, fr x' y', .int .i64 m, .int .i64 N] w fun e w' => e = .returned (fr (mixN x x' m N) (mixN y y' m N)) ∧ Below w.heap.size w w' := by
  have W1 := Lib.hid (fun w => weighed_any x x' m N w x0 x1 x0' x1' m0 m1 n0 n1)
  have W2 := Lib.hid (fun w => weighed_any y y' m N w y0 y1 y0' y1' m0 m1 n0 n1)
  go_enter Try.func146, Try.ntmps146
  go_wp2
  have c0 : (((w.alloc (.cells #[.int .i64 x, .int .i64 y] 57)).alloc (.cells #[.int .i64 x', .int .i64 y'] 57)).alloc (.cells #[.int .i64 0, .int .i64 0] 57)).cell? ⟨w.heap.size, 0, none⟩ = some (.int .i64 x) := by go_simp
  have c1 : (((w.alloc (.cells #[.int .i64 x, .int .i64 y] 57)).alloc (.cells #[.int .i64 x', .int .i64 y'] 57)).alloc (.cells #[.int .i64 0, .int .i64 0] 57)).cell? ⟨w.heap.size, 1, none⟩ = some (.int .i64 y) := by go_simp
  have c2 : (((w.alloc (.cells #[.int .i64 x, .int .i64 y] 57)).alloc (.cells #[.int .i64 x', .int .i64 y'] 57)).alloc (.cells #[.int .i64 0, .int .i64 0] 57)).cell? ⟨w.heap.size + 1, 0, none⟩ = some (.int .i64 x') := by go_simp
  have c3 : (((w.alloc (.cells #[.int .i64 x, .int .i64 y] 57)).alloc (.cells #[.int .i64 x', .int .i64 y'] 57)).alloc (.cells #[.int .i64 0, .int .i64 0] 57)).cell? ⟨w.heap.size + 1, 1, none⟩ = some (.int .i64 y') := by go_simp
  have f0 : (((w.alloc (.cells #[.int .i64 x, .int .i64 y] 57)).alloc (.cells #[.int .i64 x', .int .i64 y'] 57)).alloc (.cells #[.int .i64 0, .int .i64 0] 57)).frozen? ⟨w.heap.size + 1 + 1, 0, none⟩ = false := by go_simp
  have f1 : (((w.alloc (.cells #[.int .i64 x, .int .i64 y] 57)).alloc (.cells #[.int .i64 x', .int .i64 y'] 57)).alloc (.cells #[.int .i64 0, .int .i64 0] 57)).frozen? ⟨w.heap.size + 1 + 1, 1, none⟩ = false := by go_simp
  have c4 : (((w.alloc (.cells #[.int .i64 x, .int .i64 y] 57)).alloc (.cells #[.int .i64 x', .int .i64 y'] 57)).alloc (.cells #[.int .i64 0, .int .i64 0] 57)).cell? ⟨w.heap.size + 1 + 1, 0, none⟩ = some (.int .i64 0) := by go_simp
  have c5 : (((w.alloc (.cells #[.int .i64 x, .int .i64 y] 57)).alloc (.cells #[.int .i64 x', .int .i64 y'] 57)).alloc (.cells #[.int .i64 0, .int .i64 0] 57)).cell? ⟨w.heap.size + 1 + 1, 1, none⟩ = some (.int .i64 0) := by go_simp
  have hz : (((w.alloc (.cells #[.int .i64 x, .int .i64 y] 57)).alloc (.cells #[.int .i64 x', .int .i64 y'] 57)).alloc (.cells #[.int .i64 0, .int .i64 0] 57)).heap.size = w.heap.size + 3 := by simp
  have HB := Lib.hid (show Below w.heap.size w (((w.alloc (.cells #[.int .i64 x, .int .i64 y] 57)).alloc (.cells #[.int .i64 x', .int .i64 y'] 57)).alloc (.cells #[.int .i64 0, .int .i64 0] 57)) by repeat (first | exact Below.refl _ _ | refine bAlloc ?_ _))
  generalize ((w.alloc (.cells #[.int .i64 x, .int .i64 y] 57)).alloc (.cells #[.int .i64 x', .int .i64 y'] 57)).alloc (.cells #[.int .i64 0, .int .i64 0] 57) = W at *
  have hz2 : w.heap.size + 1 + 1 < W.heap.size := by omega
  clear hz
  generalize hb2 : w.heap.size + 1 + 1 = b2 at *
  generalize hb1 : w.heap.size + 1 = b1 at *
  have n0 : ¬ w.heap.size = b2 := by omega
  have n1 : ¬ b1 = b2 := by omega
  have n2 : ¬ b2 = w.heap.size := by omega
  have n3 : ¬ b2 = b1 := by omega
  have HB2 := Lib.hid hb2
  have HB1 := Lib.hid hb1
  clear hb1 hb2
  go_region_held3 (fun w' => w'.cell? ⟨w.heap.size, 0, none⟩ = some (.int .i64 x) ∧ w'.cell? ⟨w.heap.size, 1, none⟩ = some (.int .i64 y) ∧ w'.cell? ⟨b1, 0, none⟩ = some (.int .i64 x') ∧ w'.cell? ⟨b1, 1, none⟩ = some (.int .i64 y')) (go_keep)
    (first | (go_at_call 159; (first | (with_reducible refine (W1.out _).mono ?_) | (with_reducible refine (W2.out _).mono ?_)); rintro e w1 ⟨rfl, rfl⟩))
  go_wp2
  refine bodyPost_ret (v := fr (mixN x x' m N) (mixN y y' m N)) (by simp [results, Try.results146, go_sem, c4, c5, hz2]) rfl ⟨rfl, ?_⟩
  have hge : w.heap.size ≤ b2 := by
    have := HB2.out
    have := HB1.out
    omega
  first
    | exact bSet (bSet HB.out hge _) hge _
    | exact bSet (bSet (Below.drew HB.out) hge _) hge _
    | exact Below.drew (bSet (bSet HB.out hge _) hge _)

end Go.Proofs.Ytibafngidpmgdaa
