/- What the laws on flicker draw: the laws' own draws. -/
import Derived.Test.YtflgjohknjgdcaaProg
import Derived.Test.YtflgjohknjgdcaaBldDraw2
import Derived.Test.YtflgjohknjgdcaaFull
import Derived.Test.YtflgjohknjgdcaaWithin
import Derived.Laws.Cover1
import Derived.Deep.RegionWith
import Derived.Deep.DrawnRows
import Derived.Deep.RegionHeld3
import Derived.Deep.DeepCutAuto
import Derived.Tactics
import Derived.Tactics2
import Derived.WalkKit
import Derived.LoopTactic
import Derived.BigQuiet
import Derived.RegionTactic
import Derived.Deep.QuietTactic
import Derived.Outline
import Derived.Lib.Hide
import Derived.Below
import Derived.KernelRfl
namespace Go.Proofs.Ytflgjohknjgdcaa
set_option linter.unusedSimpArgs false
set_option linter.unusedVariables false
open Go.RowKit

set_option maxHeartbeats 4000000 in
set_option maxRecDepth 100000 in
/-- spec.DrawTwoWheels. -/
theorem DrawTwoWheels_any (a : Option Addr) (len cap : Nat) (zs : List Int) (w : World) (hr : Row w a len cap zs) :
    Calls Try.prog 35 #[.slice a len cap] w fun e w' => ∃ x0 y0 x1 y1 p : Int, e = .returned (.tuple #[fr x0 y0, fr x1 y1, .int .i64 p]) ∧ (I64 x0 ∧ I64 y0 ∧ I64 x1 ∧ I64 y1 ∧ I64 p) ∧ Below w.heap.size w w' := by
  have hb0 : Below w.heap.size w ((w.alloc (.cells #[.int .i64 0, .int .i64 0] 25)).alloc (.cells #[.int .i64 0, .int .i64 0] 25)) := by repeat (first | exact Below.refl _ _ | refine bAlloc ?_ _)
  have F := fromS a len cap zs ((w.alloc (.cells #[.int .i64 0, .int .i64 0] 25)).alloc (.cells #[.int .i64 0, .int .i64 0] 25)) (hr.below hb0)
  simp only [World.size_alloc] at F
  have R0 : Bk ((w.alloc (.cells #[.int .i64 0, .int .i64 0] 25)).alloc (.cells #[.int .i64 0, .int .i64 0] 25)) (w.heap.size) 0 0 := by refine ⟨?_, ?_, ?_, ?_, ?_⟩ <;> go_simp
  have R1 : Bk ((w.alloc (.cells #[.int .i64 0, .int .i64 0] 25)).alloc (.cells #[.int .i64 0, .int .i64 0] 25)) (w.heap.size + 1) 0 0 := by refine ⟨?_, ?_, ?_, ?_, ?_⟩ <;> go_simp
  go_enter Try.func35, Try.ntmps35
  go_wp2_with fail
  refine F.mono ?_
  clear F
  rintro e u1 ⟨rfl, hs1, hb1, hz1⟩
  replace R0 := bkOf (W := ((w.alloc (.cells #[.int .i64 0, .int .i64 0] 25)).alloc (.cells #[.int .i64 0, .int .i64 0] 25))) (by simp only [World.size_alloc]; exact hb1) R0
  replace R1 := bkOf (W := ((w.alloc (.cells #[.int .i64 0, .int .i64 0] 25)).alloc (.cells #[.int .i64 0, .int .i64 0] 25))) (by simp only [World.size_alloc]; exact hb1) R1
  have HB1 := Lib.hid (hb0.trans (hb1.mono (by omega)))
  have HS1 := Lib.hid hs1
  clear hs1 hb1 hb0 hr
  obtain ⟨s, hs⟩ : ∃ s, s = w.heap.size + 1 + 1 := ⟨_, rfl⟩
  rw [← hs] at HS1 hz1 ⊢
  have hsl : w.heap.size + 1 + 1 ≤ s := by omega
  have hsu : s ≤ w.heap.size + 1 + 1 := by omega
  replace hz1 : s + 1 ≤ u1.heap.size := by omega
  clear hs
  go_wp2_with fail
  refine (l09Draw_any s _ _ HS1.out (by omega)).mono ?_
  rintro e u2 ⟨x0, y0, rfl, hx0, hy0, hs2, ho2⟩
  replace R0 := bkOnly ho2 (by omega) R0
  replace R1 := bkOnly ho2 (by omega) R1
  have HB2 := Lib.hid (HB1.out.trans (ho2.below (by omega) HB1.out.size))
  have hz2 := ho2.size
  have C0 : Bk (u2.alloc (.cells #[.int .i64 x0, .int .i64 y0] 25)) u2.heap.size x0 y0 := bkNew0 _ _ _ _
  replace R0 := bkOf (bAlloc (Below.refl _ _) (.cells #[.int .i64 x0, .int .i64 y0] 25)) R0
  replace R1 := bkOf (bAlloc (Below.refl _ _) (.cells #[.int .i64 x0, .int .i64 y0] 25)) R1
  have HS2 := Lib.hid (hs2.below (bAlloc (Below.refl _ _) (.cells #[.int .i64 x0, .int .i64 y0] 25)))
  replace HB2 := Lib.hid (bAlloc HB2.out (.cells #[.int .i64 x0, .int .i64 y0] 25))
  clear hs2 ho2 HS1 HB1
  have hl0 := C0.2.2.2.2
  obtain ⟨c0, hc0⟩ : ∃ c, c = u2.heap.size := ⟨_, rfl⟩
  rw [← hc0] at C0
  have hcl0 : u2.heap.size ≤ c0 := by omega
  have hcu0 : c0 ≤ u2.heap.size := by omega
  have HE0 := Lib.hid hc0
  clear hc0
  go_wp2_with fail
  refine (l09Draw_any s _ _ HS2.out (by omega)).mono ?_
  rintro e u3 ⟨x1, y1, rfl, hx1, hy1, hs3, ho3⟩
  replace R0 := bkOnly ho3 (by omega) R0
  replace R1 := bkOnly ho3 (by omega) R1
  replace C0 := bkOnly ho3 (by omega) C0
  have HB3 := Lib.hid (HB2.out.trans (ho3.below (by omega) HB2.out.size))
  have hz3 := ho3.size
  have C1 : Bk (u3.alloc (.cells #[.int .i64 x1, .int .i64 y1] 25)) u3.heap.size x1 y1 := bkNew0 _ _ _ _
  replace R0 := bkOf (bAlloc (Below.refl _ _) (.cells #[.int .i64 x1, .int .i64 y1] 25)) R0
  replace R1 := bkOf (bAlloc (Below.refl _ _) (.cells #[.int .i64 x1, .int .i64 y1] 25)) R1
  replace C0 := bkOf (bAlloc (Below.refl _ _) (.cells #[.int .i64 x1, .int .i64 y1] 25)) C0
  have HS3 := Lib.hid (hs3.below (bAlloc (Below.refl _ _) (.cells #[.int .i64 x1, .int .i64 y1] 25)))
  replace HB3 := Lib.hid (bAlloc HB3.out (.cells #[.int .i64 x1, .int .i64 y1] 25))
  clear hs3 ho3 HS2 HB2
  have hl1 := C1.2.2.2.2
  simp only [World.size_alloc] at hz3
  go_upto_region 4 with fail
  obtain ⟨c1, hc1⟩ : ∃ c, c = u3.heap.size := ⟨_, rfl⟩
  rw [← hc1] at C1 ⊢
  have hcl1 : u3.heap.size ≤ c1 := by omega
  have hcu1 : c1 ≤ u3.heap.size := by omega
  rw [← HE0.out]
  generalize hW : u3.alloc (.cells #[.int .i64 x1, .int .i64 y1] 25) = v at *
  have hzv : u3.heap.size + 1 ≤ v.heap.size := by rw [← hW]; simp
  clear hW hc1
  have ne0 : ¬ w.heap.size = s := by omega
  have ne1 : ¬ w.heap.size = c0 := by omega
  have ne2 : ¬ w.heap.size = c1 := by omega
  have ne3 : ¬ w.heap.size + 1 = s := by omega
  have ne4 : ¬ w.heap.size + 1 = c0 := by omega
  have ne5 : ¬ w.heap.size + 1 = c1 := by omega
  have ne6 : ¬ s = w.heap.size := by omega
  have ne7 : ¬ s = w.heap.size + 1 := by omega
  have ne8 : ¬ s = c0 := by omega
  have ne9 : ¬ s = c1 := by omega
  have ne10 : ¬ c0 = w.heap.size := by omega
  have ne11 : ¬ c0 = w.heap.size + 1 := by omega
  have ne12 : ¬ c0 = s := by omega
  have ne13 : ¬ c0 = c1 := by omega
  have ne14 : ¬ c1 = w.heap.size := by omega
  have ne15 : ¬ c1 = w.heap.size + 1 := by omega
  have ne16 : ¬ c1 = s := by omega
  have ne17 : ¬ c1 = c0 := by omega
  have D0 := C0
  obtain ⟨a0a, a0b, a0c, a0d, a0e⟩ := D0
  have D1 := C1
  obtain ⟨a1a, a1b, a1c, a1d, a1e⟩ := D1
  go_region_held3 (fun v' => v'.cell? ⟨c0, 0, none⟩ = some (.int .i64 x0) ∧ v'.cell? ⟨c0, 1, none⟩ = some (.int .i64 y0) ∧ v'.cell? ⟨c1, 0, none⟩ = some (.int .i64 x1) ∧ v'.cell? ⟨c1, 1, none⟩ = some (.int .i64 y1)) (go_keep) ((go_at_call 70; (with_reducible refine (l09Part_any s _ _ (HS3.out.below (Below.drew (Below.refl _ _))) (by omega)).mono ?_); rintro e u9 ⟨p, rfl, hp, hs9, ho9⟩; obtain ⟨e0a, e0b, e0c, e0d, e0e⟩ := bkOnly ho9 (by omega) (bkOf (Below.drew (Below.refl _ _)) C0); obtain ⟨e1a, e1b, e1c, e1d, e1e⟩ := bkOnly ho9 (by omega) (bkOf (Below.drew (Below.refl _ _)) C1); have T0 := bkOnly ho9 (by omega) (bkOf (Below.drew (Below.refl _ _)) R0); obtain ⟨g0a, g0b, g0c, g0d, g0e⟩ := T0; have T1 := bkOnly ho9 (by omega) (bkOf (Below.drew (Below.refl _ _)) R1); obtain ⟨g1a, g1b, g1c, g1d, g1e⟩ := T1; have HB9 := Lib.hid ((Below.drew HB3.out).trans ((ho9.below (B := w.heap.size) (by omega) (by simp; omega))))))
  all_goals go_wp2
  all_goals refine bodyPost_ret (v := .tuple #[fr x0 y0, fr x1 y1, .int .i64 p]) (by simp [results, Try.results35, go_sem, g0a, g0b, g0e, Nat.ne_of_lt g0e, g1a, g1b, g1e, Nat.ne_of_lt g1e]) rfl ⟨_, _, _, _, _, rfl, ⟨hx0, hy0, hx1, hy1, i64_of (by omega) (by omega)⟩, ?_⟩
  all_goals (repeat (first | exact HB9.out | refine bSet ?_ (by first | (simp; done) | (simp; omega)) _))

set_option maxHeartbeats 4000000 in
set_option maxRecDepth 100000 in
/-- spec.DrawIsSteady. -/
theorem DrawIsSteady_any (a : Option Addr) (len cap : Nat) (zs : List Int) (w : World) (hr : Row w a len cap zs) :
    Calls Try.prog 18 #[.slice a len cap] w fun e w' => ∃ x0 y0 x1 y1 p : Int, e = .returned (.tuple #[fr x0 y0, fr x1 y1, .int .i64 p]) ∧ (I64 x0 ∧ I64 y0 ∧ I64 x1 ∧ I64 y1 ∧ I64 p) ∧ Below w.heap.size w w' := by
  have hb0 : Below w.heap.size w ((w.alloc (.cells #[.int .i64 0, .int .i64 0] 25)).alloc (.cells #[.int .i64 0, .int .i64 0] 27)) := by repeat (first | exact Below.refl _ _ | refine bAlloc ?_ _)
  have F := fromS a len cap zs ((w.alloc (.cells #[.int .i64 0, .int .i64 0] 25)).alloc (.cells #[.int .i64 0, .int .i64 0] 27)) (hr.below hb0)
  simp only [World.size_alloc] at F
  have R0 : Bk ((w.alloc (.cells #[.int .i64 0, .int .i64 0] 25)).alloc (.cells #[.int .i64 0, .int .i64 0] 27)) (w.heap.size) 0 0 := by refine ⟨?_, ?_, ?_, ?_, ?_⟩ <;> go_simp
  have R1 : Bk ((w.alloc (.cells #[.int .i64 0, .int .i64 0] 25)).alloc (.cells #[.int .i64 0, .int .i64 0] 27)) (w.heap.size + 1) 0 0 := by refine ⟨?_, ?_, ?_, ?_, ?_⟩ <;> go_simp
  go_enter Try.func18, Try.ntmps18
  go_wp2_with fail
  refine F.mono ?_
  clear F
  rintro e u1 ⟨rfl, hs1, hb1, hz1⟩
  replace R0 := bkOf (W := ((w.alloc (.cells #[.int .i64 0, .int .i64 0] 25)).alloc (.cells #[.int .i64 0, .int .i64 0] 27))) (by simp only [World.size_alloc]; exact hb1) R0
  replace R1 := bkOf (W := ((w.alloc (.cells #[.int .i64 0, .int .i64 0] 25)).alloc (.cells #[.int .i64 0, .int .i64 0] 27))) (by simp only [World.size_alloc]; exact hb1) R1
  have HB1 := Lib.hid (hb0.trans (hb1.mono (by omega)))
  have HS1 := Lib.hid hs1
  clear hs1 hb1 hb0 hr
  obtain ⟨s, hs⟩ : ∃ s, s = w.heap.size + 1 + 1 := ⟨_, rfl⟩
  rw [← hs] at HS1 hz1 ⊢
  have hsl : w.heap.size + 1 + 1 ≤ s := by omega
  have hsu : s ≤ w.heap.size + 1 + 1 := by omega
  replace hz1 : s + 1 ≤ u1.heap.size := by omega
  clear hs
  go_wp2_with fail
  refine (l09Draw_any s _ _ HS1.out (by omega)).mono ?_
  rintro e u2 ⟨x0, y0, rfl, hx0, hy0, hs2, ho2⟩
  replace R0 := bkOnly ho2 (by omega) R0
  replace R1 := bkOnly ho2 (by omega) R1
  have HB2 := Lib.hid (HB1.out.trans (ho2.below (by omega) HB1.out.size))
  have hz2 := ho2.size
  have C0 : Bk (u2.alloc (.cells #[.int .i64 x0, .int .i64 y0] 25)) u2.heap.size x0 y0 := bkNew0 _ _ _ _
  replace R0 := bkOf (bAlloc (Below.refl _ _) (.cells #[.int .i64 x0, .int .i64 y0] 25)) R0
  replace R1 := bkOf (bAlloc (Below.refl _ _) (.cells #[.int .i64 x0, .int .i64 y0] 25)) R1
  have HS2 := Lib.hid (hs2.below (bAlloc (Below.refl _ _) (.cells #[.int .i64 x0, .int .i64 y0] 25)))
  replace HB2 := Lib.hid (bAlloc HB2.out (.cells #[.int .i64 x0, .int .i64 y0] 25))
  clear hs2 ho2 HS1 HB1
  have hl0 := C0.2.2.2.2
  obtain ⟨c0, hc0⟩ : ∃ c, c = u2.heap.size := ⟨_, rfl⟩
  rw [← hc0] at C0
  have hcl0 : u2.heap.size ≤ c0 := by omega
  have hcu0 : c0 ≤ u2.heap.size := by omega
  have HE0 := Lib.hid hc0
  clear hc0
  go_wp2_with fail
  refine (l09DrawRate_any s _ _ HS2.out (by omega)).mono ?_
  rintro e u3 ⟨x1, y1, rfl, hx1, hy1, hs3, ho3⟩
  replace R0 := bkOnly ho3 (by omega) R0
  replace R1 := bkOnly ho3 (by omega) R1
  replace C0 := bkOnly ho3 (by omega) C0
  have HB3 := Lib.hid (HB2.out.trans (ho3.below (by omega) HB2.out.size))
  have hz3 := ho3.size
  have C1 : Bk (u3.alloc (.cells #[.int .i64 x1, .int .i64 y1] 27)) u3.heap.size x1 y1 := bkNew0 _ _ _ _
  replace R0 := bkOf (bAlloc (Below.refl _ _) (.cells #[.int .i64 x1, .int .i64 y1] 27)) R0
  replace R1 := bkOf (bAlloc (Below.refl _ _) (.cells #[.int .i64 x1, .int .i64 y1] 27)) R1
  replace C0 := bkOf (bAlloc (Below.refl _ _) (.cells #[.int .i64 x1, .int .i64 y1] 27)) C0
  have HS3 := Lib.hid (hs3.below (bAlloc (Below.refl _ _) (.cells #[.int .i64 x1, .int .i64 y1] 27)))
  replace HB3 := Lib.hid (bAlloc HB3.out (.cells #[.int .i64 x1, .int .i64 y1] 27))
  clear hs3 ho3 HS2 HB2
  have hl1 := C1.2.2.2.2
  simp only [World.size_alloc] at hz3
  go_upto_region 4 with fail
  obtain ⟨c1, hc1⟩ : ∃ c, c = u3.heap.size := ⟨_, rfl⟩
  rw [← hc1] at C1 ⊢
  have hcl1 : u3.heap.size ≤ c1 := by omega
  have hcu1 : c1 ≤ u3.heap.size := by omega
  rw [← HE0.out]
  generalize hW : u3.alloc (.cells #[.int .i64 x1, .int .i64 y1] 27) = v at *
  have hzv : u3.heap.size + 1 ≤ v.heap.size := by rw [← hW]; simp
  clear hW hc1
  have ne0 : ¬ w.heap.size = s := by omega
  have ne1 : ¬ w.heap.size = c0 := by omega
  have ne2 : ¬ w.heap.size = c1 := by omega
  have ne3 : ¬ w.heap.size + 1 = s := by omega
  have ne4 : ¬ w.heap.size + 1 = c0 := by omega
  have ne5 : ¬ w.heap.size + 1 = c1 := by omega
  have ne6 : ¬ s = w.heap.size := by omega
  have ne7 : ¬ s = w.heap.size + 1 := by omega
  have ne8 : ¬ s = c0 := by omega
  have ne9 : ¬ s = c1 := by omega
  have ne10 : ¬ c0 = w.heap.size := by omega
  have ne11 : ¬ c0 = w.heap.size + 1 := by omega
  have ne12 : ¬ c0 = s := by omega
  have ne13 : ¬ c0 = c1 := by omega
  have ne14 : ¬ c1 = w.heap.size := by omega
  have ne15 : ¬ c1 = w.heap.size + 1 := by omega
  have ne16 : ¬ c1 = s := by omega
  have ne17 : ¬ c1 = c0 := by omega
  have D0 := C0
  obtain ⟨a0a, a0b, a0c, a0d, a0e⟩ := D0
  have D1 := C1
  obtain ⟨a1a, a1b, a1c, a1d, a1e⟩ := D1
  go_region_held3 (fun v' => v'.cell? ⟨c0, 0, none⟩ = some (.int .i64 x0) ∧ v'.cell? ⟨c0, 1, none⟩ = some (.int .i64 y0) ∧ v'.cell? ⟨c1, 0, none⟩ = some (.int .i64 x1) ∧ v'.cell? ⟨c1, 1, none⟩ = some (.int .i64 y1)) (go_keep) ((go_at_call 55; (with_reducible refine (l09DrawLeast_any s _ _ (HS3.out.below (Below.drew (Below.refl _ _))) (by omega)).mono ?_); rintro e u9 ⟨p, rfl, hp, hs9, ho9⟩; obtain ⟨e0a, e0b, e0c, e0d, e0e⟩ := bkOnly ho9 (by omega) (bkOf (Below.drew (Below.refl _ _)) C0); obtain ⟨e1a, e1b, e1c, e1d, e1e⟩ := bkOnly ho9 (by omega) (bkOf (Below.drew (Below.refl _ _)) C1); have T0 := bkOnly ho9 (by omega) (bkOf (Below.drew (Below.refl _ _)) R0); obtain ⟨g0a, g0b, g0c, g0d, g0e⟩ := T0; have T1 := bkOnly ho9 (by omega) (bkOf (Below.drew (Below.refl _ _)) R1); obtain ⟨g1a, g1b, g1c, g1d, g1e⟩ := T1; have HB9 := Lib.hid ((Below.drew HB3.out).trans ((ho9.below (B := w.heap.size) (by omega) (by simp; omega))))))
  all_goals go_wp2
  all_goals refine bodyPost_ret (v := .tuple #[fr x0 y0, fr x1 y1, .int .i64 p]) (by simp [results, Try.results18, go_sem, g0a, g0b, g0e, Nat.ne_of_lt g0e, g1a, g1b, g1e, Nat.ne_of_lt g1e]) rfl ⟨_, _, _, _, _, rfl, ⟨hx0, hy0, hx1, hy1, hp⟩, ?_⟩
  all_goals (repeat (first | exact HB9.out | refine bSet ?_ (by first | (simp; done) | (simp; omega)) _))

end Go.Proofs.Ytflgjohknjgdcaa
