/- What the laws on flicker draw: the laws' own draws. -/
import Derived.Test.YtflgjohknjgdcaaProg
import Derived.Test.YtflgjohknjgdcaaBldDraw2
import Derived.Test.YtflgjohknjgdcaaFull
import Derived.Test.YtflgjohknjgdcaaWithin
import Derived.Laws.Cover1
import Derived.Deep.RegionWith
import Derived.Deep.DrawnRows
import Derived.Deep.RegionHeld3
import Derived.Deep.DeepCutAuto
import Derived.Tactics
import Derived.Tactics2
import Derived.WalkKit
import Derived.LoopTactic
import Derived.BigQuiet
import Derived.RegionTactic
import Derived.Deep.QuietTactic
import Derived.Outline
import Derived.Lib.Hide
import Derived.Below
import Derived.KernelRfl
namespace Go.Proofs.Ytflgjohknjgdcaa
set_option linter.unusedSimpArgs false
set_option linter.unusedVariables false
open Go.RowKit

set_option maxHeartbeats 4000000 in
set_option maxRecDepth 100000 in
/-- spec.DrawBestOffset. -/
theorem DrawBestOffset_any (a : Option Addr) (len cap : Nat) (zs : List Int) (w : World) (hr : Row w a len cap zs) :
    Calls Try.prog 46 #[.slice a len cap] w fun e w' => ∃ x0 y0 p q : Int, e = .returned (.tuple #[fr x0 y0, fr p q]) ∧ (I64 x0 ∧ I64 y0 ∧ I64 p ∧ I64 q) ∧ Below w.heap.size w w' := by
  have hb0 : Below w.heap.size w ((w.alloc (.cells #[.int .i64 0, .int .i64 0] 25)).alloc (.cells #[.int .i64 0, .int .i64 0] 25)) := by repeat (first | exact Below.refl _ _ | refine bAlloc ?_ _)
  have F := fromS a len cap zs ((w.alloc (.cells #[.int .i64 0, .int .i64 0] 25)).alloc (.cells #[.int .i64 0, .int .i64 0] 25)) (hr.below hb0)
  simp only [World.size_alloc] at F
  have R0 : Bk ((w.alloc (.cells #[.int .i64 0, .int .i64 0] 25)).alloc (.cells #[.int .i64 0, .int .i64 0] 25)) (w.heap.size) 0 0 := by refine ⟨?_, ?_, ?_, ?_, ?_⟩ <;> go_simp
  have R1 : Bk ((w.alloc (.cells #[.int .i64 0, .int .i64 0] 25)).alloc (.cells #[.int .i64 0, .int .i64 0] 25)) (w.heap.size + 1) 0 0 := by refine ⟨?_, ?_, ?_, ?_, ?_⟩ <;> go_simp
  go_enter Try.func46, Try.ntmps46
  go_wp2_with fail
  refine F.mono ?_
  clear F
  rintro e u1 ⟨rfl, hs1, hb1, hz1⟩
  replace R0 := bkOf (W := ((w.alloc (.cells #[.int .i64 0, .int .i64 0] 25)).alloc (.cells #[.int .i64 0, .int .i64 0] 25))) (by simp only [World.size_alloc]; exact hb1) R0
  replace R1 := bkOf (W := ((w.alloc (.cells #[.int .i64 0, .int .i64 0] 25)).alloc (.cells #[.int .i64 0, .int .i64 0] 25))) (by simp only [World.size_alloc]; exact hb1) R1
  have HB1 := Lib.hid (hb0.trans (hb1.mono (by omega)))
  have HS1 := Lib.hid hs1
  clear hs1 hb1 hb0 hr
  obtain ⟨s, hs⟩ : ∃ s, s = w.heap.size + 1 + 1 := ⟨_, rfl⟩
  rw [← hs] at HS1 hz1 ⊢
  have hsl : w.heap.size + 1 + 1 ≤ s := by omega
  have hsu : s ≤ w.heap.size + 1 + 1 := by omega
  replace hz1 : s + 1 ≤ u1.heap.size := by omega
  clear hs
  go_wp2_with fail
  refine (l09Draw_any s _ _ HS1.out (by omega)).mono ?_
  rintro e u2 ⟨x0, y0, rfl, hx0, hy0, hs2, ho2⟩
  replace R0 := bkOnly ho2 (by omega) R0
  replace R1 := bkOnly ho2 (by omega) R1
  have HB2 := Lib.hid (HB1.out.trans (ho2.below (by omega) HB1.out.size))
  have hz2 := ho2.size
  have C0 : Bk (u2.alloc (.cells #[.int .i64 x0, .int .i64 y0] 25)) u2.heap.size x0 y0 := bkNew0 _ _ _ _
  replace R0 := bkOf (bAlloc (Below.refl _ _) (.cells #[.int .i64 x0, .int .i64 y0] 25)) R0
  replace R1 := bkOf (bAlloc (Below.refl _ _) (.cells #[.int .i64 x0, .int .i64 y0] 25)) R1
  have HS2 := Lib.hid (hs2.below (bAlloc (Below.refl _ _) (.cells #[.int .i64 x0, .int .i64 y0] 25)))
  replace HB2 := Lib.hid (bAlloc HB2.out (.cells #[.int .i64 x0, .int .i64 y0] 25))
  clear hs2 ho2 HS1 HB1
  have hl0 := C0.2.2.2.2
  go_upto_region 3 with fail
  obtain ⟨c0, hc0⟩ : ∃ c, c = u2.heap.size := ⟨_, rfl⟩
  rw [← hc0] at C0 ⊢
  have hcl0 : u2.heap.size ≤ c0 := by omega
  have hcu0 : c0 ≤ u2.heap.size := by omega
  generalize hW : u2.alloc (.cells #[.int .i64 x0, .int .i64 y0] 25) = v at *
  have hzv : u2.heap.size + 1 ≤ v.heap.size := by rw [← hW]; simp
  clear hW hc0
  have ne0 : ¬ w.heap.size = s := by omega
  have ne1 : ¬ w.heap.size = c0 := by omega
  have ne2 : ¬ w.heap.size + 1 = s := by omega
  have ne3 : ¬ w.heap.size + 1 = c0 := by omega
  have ne4 : ¬ s = w.heap.size := by omega
  have ne5 : ¬ s = w.heap.size + 1 := by omega
  have ne6 : ¬ s = c0 := by omega
  have ne7 : ¬ c0 = w.heap.size := by omega
  have ne8 : ¬ c0 = w.heap.size + 1 := by omega
  have ne9 : ¬ c0 = s := by omega
  have D0 := C0
  obtain ⟨a0a, a0b, a0c, a0d, a0e⟩ := D0
  go_region_held3 (fun v' => v'.cell? ⟨c0, 0, none⟩ = some (.int .i64 x0) ∧ v'.cell? ⟨c0, 1, none⟩ = some (.int .i64 y0)) (go_keep) ((go_at_call 53; (with_reducible refine (l09Draw_any s _ _ (HS2.out.below (Below.drew (Below.refl _ _))) (by omega)).mono ?_); rintro e u9 ⟨p, q, rfl, hp, hq, hs9, ho9⟩; obtain ⟨e0a, e0b, e0c, e0d, e0e⟩ := bkOnly ho9 (by omega) (bkOf (Below.drew (Below.refl _ _)) C0); have T0 := bkOnly ho9 (by omega) (bkOf (Below.drew (Below.refl _ _)) R0); obtain ⟨g0a, g0b, g0c, g0d, g0e⟩ := T0; have T1 := bkOnly ho9 (by omega) (bkOf (Below.drew (Below.refl _ _)) R1); obtain ⟨g1a, g1b, g1c, g1d, g1e⟩ := T1; have HB9 := Lib.hid ((Below.drew HB2.out).trans ((ho9.below (B := w.heap.size) (by omega) (by simp; omega))))))
  all_goals go_wp2
  all_goals refine bodyPost_ret (v := .tuple #[fr x0 y0, fr p q]) (by simp [results, Try.results46, go_sem, g0a, g0b, g0e, Nat.ne_of_lt g0e, g1a, g1b, g1e, Nat.ne_of_lt g1e]) rfl ⟨_, _, _, _, rfl, ⟨hx0, hy0, hp, hq⟩, ?_⟩
  all_goals (repeat (first | exact HB9.out | refine bSet ?_ (by first | (simp; done) | (simp; omega)) _))

set_option maxHeartbeats 4000000 in
set_option maxRecDepth 100000 in
/-- spec.l09With. -/
theorem l09With_any (a : Option Addr) (len cap : Nat) (zs : List Int) (w : World) (hr : Row w a len cap zs) :
    Calls Try.prog 83 #[.slice a len cap] w fun e w' => ∃ x0 y0 p q : Int, e = .returned (.tuple #[fr x0 y0, fr p q]) ∧ (I64 x0 ∧ I64 y0 ∧ I64 p ∧ I64 q) ∧ Below w.heap.size w w' := by
  have hb0 : Below w.heap.size w ((w.alloc (.cells #[.int .i64 0, .int .i64 0] 25)).alloc (.cells #[.int .i64 0, .int .i64 0] 27)) := by repeat (first | exact Below.refl _ _ | refine bAlloc ?_ _)
  have F := fromS a len cap zs ((w.alloc (.cells #[.int .i64 0, .int .i64 0] 25)).alloc (.cells #[.int .i64 0, .int .i64 0] 27)) (hr.below hb0)
  simp only [World.size_alloc] at F
  have R0 : Bk ((w.alloc (.cells #[.int .i64 0, .int .i64 0] 25)).alloc (.cells #[.int .i64 0, .int .i64 0] 27)) (w.heap.size) 0 0 := by refine ⟨?_, ?_, ?_, ?_, ?_⟩ <;> go_simp
  have R1 : Bk ((w.alloc (.cells #[.int .i64 0, .int .i64 0] 25)).alloc (.cells #[.int .i64 0, .int .i64 0] 27)) (w.heap.size + 1) 0 0 := by refine ⟨?_, ?_, ?_, ?_, ?_⟩ <;> go_simp
  go_enter Try.func83, Try.ntmps83
  go_wp2_with fail
  refine F.mono ?_
  clear F
  rintro e u1 ⟨rfl, hs1, hb1, hz1⟩
  replace R0 := bkOf (W := ((w.alloc (.cells #[.int .i64 0, .int .i64 0] 25)).alloc (.cells #[.int .i64 0, .int .i64 0] 27))) (by simp only [World.size_alloc]; exact hb1) R0
  replace R1 := bkOf (W := ((w.alloc (.cells #[.int .i64 0, .int .i64 0] 25)).alloc (.cells #[.int .i64 0, .int .i64 0] 27))) (by simp only [World.size_alloc]; exact hb1) R1
  have HB1 := Lib.hid (hb0.trans (hb1.mono (by omega)))
  have HS1 := Lib.hid hs1
  clear hs1 hb1 hb0 hr
  obtain ⟨s, hs⟩ : ∃ s, s = w.heap.size + 1 + 1 := ⟨_, rfl⟩
  rw [← hs] at HS1 hz1 ⊢
  have hsl : w.heap.size + 1 + 1 ≤ s := by omega
  have hsu : s ≤ w.heap.size + 1 + 1 := by omega
  replace hz1 : s + 1 ≤ u1.heap.size := by omega
  clear hs
  go_wp2_with fail
  refine (l09Draw_any s _ _ HS1.out (by omega)).mono ?_
  rintro e u2 ⟨x0, y0, rfl, hx0, hy0, hs2, ho2⟩
  replace R0 := bkOnly ho2 (by omega) R0
  replace R1 := bkOnly ho2 (by omega) R1
  have HB2 := Lib.hid (HB1.out.trans (ho2.below (by omega) HB1.out.size))
  have hz2 := ho2.size
  have C0 : Bk (u2.alloc (.cells #[.int .i64 x0, .int .i64 y0] 25)) u2.heap.size x0 y0 := bkNew0 _ _ _ _
  replace R0 := bkOf (bAlloc (Below.refl _ _) (.cells #[.int .i64 x0, .int .i64 y0] 25)) R0
  replace R1 := bkOf (bAlloc (Below.refl _ _) (.cells #[.int .i64 x0, .int .i64 y0] 25)) R1
  have HS2 := Lib.hid (hs2.below (bAlloc (Below.refl _ _) (.cells #[.int .i64 x0, .int .i64 y0] 25)))
  replace HB2 := Lib.hid (bAlloc HB2.out (.cells #[.int .i64 x0, .int .i64 y0] 25))
  clear hs2 ho2 HS1 HB1
  have hl0 := C0.2.2.2.2
  go_upto_region 3 with fail
  obtain ⟨c0, hc0⟩ : ∃ c, c = u2.heap.size := ⟨_, rfl⟩
  rw [← hc0] at C0 ⊢
  have hcl0 : u2.heap.size ≤ c0 := by omega
  have hcu0 : c0 ≤ u2.heap.size := by omega
  generalize hW : u2.alloc (.cells #[.int .i64 x0, .int .i64 y0] 25) = v at *
  have hzv : u2.heap.size + 1 ≤ v.heap.size := by rw [← hW]; simp
  clear hW hc0
  have ne0 : ¬ w.heap.size = s := by omega
  have ne1 : ¬ w.heap.size = c0 := by omega
  have ne2 : ¬ w.heap.size + 1 = s := by omega
  have ne3 : ¬ w.heap.size + 1 = c0 := by omega
  have ne4 : ¬ s = w.heap.size := by omega
  have ne5 : ¬ s = w.heap.size + 1 := by omega
  have ne6 : ¬ s = c0 := by omega
  have ne7 : ¬ c0 = w.heap.size := by omega
  have ne8 : ¬ c0 = w.heap.size + 1 := by omega
  have ne9 : ¬ c0 = s := by omega
  have D0 := C0
  obtain ⟨a0a, a0b, a0c, a0d, a0e⟩ := D0
  go_region_held3 (fun v' => v'.cell? ⟨c0, 0, none⟩ = some (.int .i64 x0) ∧ v'.cell? ⟨c0, 1, none⟩ = some (.int .i64 y0)) (go_keep) ((go_at_call 54; (with_reducible refine (l09DrawRate_any s _ _ (HS2.out.below (Below.drew (Below.refl _ _))) (by omega)).mono ?_); rintro e u9 ⟨p, q, rfl, hp, hq, hs9, ho9⟩; obtain ⟨e0a, e0b, e0c, e0d, e0e⟩ := bkOnly ho9 (by omega) (bkOf (Below.drew (Below.refl _ _)) C0); have T0 := bkOnly ho9 (by omega) (bkOf (Below.drew (Below.refl _ _)) R0); obtain ⟨g0a, g0b, g0c, g0d, g0e⟩ := T0; have T1 := bkOnly ho9 (by omega) (bkOf (Below.drew (Below.refl _ _)) R1); obtain ⟨g1a, g1b, g1c, g1d, g1e⟩ := T1; have HB9 := Lib.hid ((Below.drew HB2.out).trans ((ho9.below (B := w.heap.size) (by omega) (by simp; omega))))))
  all_goals go_wp2
  all_goals refine bodyPost_ret (v := .tuple #[fr x0 y0, fr p q]) (by simp [results, Try.results83, go_sem, g0a, g0b, g0e, Nat.ne_of_lt g0e, g1a, g1b, g1e, Nat.ne_of_lt g1e]) rfl ⟨_, _, _, _, rfl, ⟨hx0, hy0, hp, hq⟩, ?_⟩
  all_goals (repeat (first | exact HB9.out | refine bSet ?_ (by first | (simp; done) | (simp; omega)) _))

set_option maxHeartbeats 4000000 in
set_option maxRecDepth 100000 in
/-- spec.DrawIsOpenAt. -/
theorem DrawIsOpenAt_any (a : Option Addr) (len cap : Nat) (zs : List Int) (w : World) (hr : Row w a len cap zs) :
    Calls Try.prog 44 #[.slice a len cap] w fun e w' => ∃ x0 y0 p : Int, e = .returned (.tuple #[fr x0 y0, .int .i64 p]) ∧ (I64 x0 ∧ I64 y0 ∧ I64 p) ∧ Below w.heap.size w w' := by
  have hb0 : Below w.heap.size w (w.alloc (.cells #[.int .i64 0, .int .i64 0] 25)) := by repeat (first | exact Below.refl _ _ | refine bAlloc ?_ _)
  have F := fromS a len cap zs (w.alloc (.cells #[.int .i64 0, .int .i64 0] 25)) (hr.below hb0)
  simp only [World.size_alloc] at F
  have R0 : Bk (w.alloc (.cells #[.int .i64 0, .int .i64 0] 25)) (w.heap.size) 0 0 := by refine ⟨?_, ?_, ?_, ?_, ?_⟩ <;> go_simp
  go_enter Try.func44, Try.ntmps44
  go_wp2_with fail
  refine F.mono ?_
  clear F
  rintro e u1 ⟨rfl, hs1, hb1, hz1⟩
  replace R0 := bkOf (W := (w.alloc (.cells #[.int .i64 0, .int .i64 0] 25))) (by simp only [World.size_alloc]; exact hb1) R0
  have HB1 := Lib.hid (hb0.trans (hb1.mono (by omega)))
  have HS1 := Lib.hid hs1
  clear hs1 hb1 hb0 hr
  obtain ⟨s, hs⟩ : ∃ s, s = w.heap.size + 1 := ⟨_, rfl⟩
  rw [← hs] at HS1 hz1 ⊢
  have hsl : w.heap.size + 1 ≤ s := by omega
  have hsu : s ≤ w.heap.size + 1 := by omega
  replace hz1 : s + 1 ≤ u1.heap.size := by omega
  clear hs
  go_wp2_with fail
  refine (l09Draw_any s _ _ HS1.out (by omega)).mono ?_
  rintro e u2 ⟨x0, y0, rfl, hx0, hy0, hs2, ho2⟩
  replace R0 := bkOnly ho2 (by omega) R0
  have HB2 := Lib.hid (HB1.out.trans (ho2.below (by omega) HB1.out.size))
  have hz2 := ho2.size
  have C0 : Bk (u2.alloc (.cells #[.int .i64 x0, .int .i64 y0] 25)) u2.heap.size x0 y0 := bkNew0 _ _ _ _
  replace R0 := bkOf (bAlloc (Below.refl _ _) (.cells #[.int .i64 x0, .int .i64 y0] 25)) R0
  have HS2 := Lib.hid (hs2.below (bAlloc (Below.refl _ _) (.cells #[.int .i64 x0, .int .i64 y0] 25)))
  replace HB2 := Lib.hid (bAlloc HB2.out (.cells #[.int .i64 x0, .int .i64 y0] 25))
  clear hs2 ho2 HS1 HB1
  have hl0 := C0.2.2.2.2
  go_upto_region 3 with fail
  obtain ⟨c0, hc0⟩ : ∃ c, c = u2.heap.size := ⟨_, rfl⟩
  rw [← hc0] at C0 ⊢
  have hcl0 : u2.heap.size ≤ c0 := by omega
  have hcu0 : c0 ≤ u2.heap.size := by omega
  generalize hW : u2.alloc (.cells #[.int .i64 x0, .int .i64 y0] 25) = v at *
  have hzv : u2.heap.size + 1 ≤ v.heap.size := by rw [← hW]; simp
  clear hW hc0
  have ne0 : ¬ w.heap.size = s := by omega
  have ne1 : ¬ w.heap.size = c0 := by omega
  have ne2 : ¬ s = w.heap.size := by omega
  have ne3 : ¬ s = c0 := by omega
  have ne4 : ¬ c0 = w.heap.size := by omega
  have ne5 : ¬ c0 = s := by omega
  have D0 := C0
  obtain ⟨a0a, a0b, a0c, a0d, a0e⟩ := D0
  go_region_held3 (fun v' => v'.cell? ⟨c0, 0, none⟩ = some (.int .i64 x0) ∧ v'.cell? ⟨c0, 1, none⟩ = some (.int .i64 y0)) (go_keep) ((go_at_call 70; (with_reducible refine (l09Part_any s _ _ (HS2.out.below (Below.drew (Below.refl _ _))) (by omega)).mono ?_); rintro e u9 ⟨p, rfl, hp, hs9, ho9⟩; obtain ⟨e0a, e0b, e0c, e0d, e0e⟩ := bkOnly ho9 (by omega) (bkOf (Below.drew (Below.refl _ _)) C0); have T0 := bkOnly ho9 (by omega) (bkOf (Below.drew (Below.refl _ _)) R0); obtain ⟨g0a, g0b, g0c, g0d, g0e⟩ := T0; have HB9 := Lib.hid ((Below.drew HB2.out).trans ((ho9.below (B := w.heap.size) (by omega) (by simp; omega))))))
  all_goals go_wp2
  all_goals refine bodyPost_ret (v := .tuple #[fr x0 y0, .int .i64 p]) (by simp [results, Try.results44, go_sem, g0a, g0b, g0e, Nat.ne_of_lt g0e]) rfl ⟨_, _, _, rfl, ⟨hx0, hy0, i64_of (by omega) (by omega)⟩, ?_⟩
  all_goals (repeat (first | exact HB9.out | refine bSet ?_ (by first | (simp; done) | (simp; omega)) _))

set_option maxHeartbeats 4000000 in
set_option maxRecDepth 100000 in
/-- spec.DrawSlowestSteady. -/
theorem DrawSlowestSteady_any (a : Option Addr) (len cap : Nat) (zs : List Int) (w : World) (hr : Row w a len cap zs) :
    Calls Try.prog 24 #[.slice a len cap] w fun e w' => ∃ x0 y0 p : Int, e = .returned (.tuple #[fr x0 y0, .int .i64 p]) ∧ (I64 x0 ∧ I64 y0 ∧ I64 p) ∧ Below w.heap.size w w' := by
  have hb0 : Below w.heap.size w (w.alloc (.cells #[.int .i64 0, .int .i64 0] 25)) := by repeat (first | exact Below.refl _ _ | refine bAlloc ?_ _)
  have F := fromS a len cap zs (w.alloc (.cells #[.int .i64 0, .int .i64 0] 25)) (hr.below hb0)
  simp only [World.size_alloc] at F
  have R0 : Bk (w.alloc (.cells #[.int .i64 0, .int .i64 0] 25)) (w.heap.size) 0 0 := by refine ⟨?_, ?_, ?_, ?_, ?_⟩ <;> go_simp
  go_enter Try.func24, Try.ntmps24
  go_wp2_with fail
  refine F.mono ?_
  clear F
  rintro e u1 ⟨rfl, hs1, hb1, hz1⟩
  replace R0 := bkOf (W := (w.alloc (.cells #[.int .i64 0, .int .i64 0] 25))) (by simp only [World.size_alloc]; exact hb1) R0
  have HB1 := Lib.hid (hb0.trans (hb1.mono (by omega)))
  have HS1 := Lib.hid hs1
  clear hs1 hb1 hb0 hr
  obtain ⟨s, hs⟩ : ∃ s, s = w.heap.size + 1 := ⟨_, rfl⟩
  rw [← hs] at HS1 hz1 ⊢
  have hsl : w.heap.size + 1 ≤ s := by omega
  have hsu : s ≤ w.heap.size + 1 := by omega
  replace hz1 : s + 1 ≤ u1.heap.size := by omega
  clear hs
  go_wp2_with fail
  refine (l09Draw_any s _ _ HS1.out (by omega)).mono ?_
  rintro e u2 ⟨x0, y0, rfl, hx0, hy0, hs2, ho2⟩
  replace R0 := bkOnly ho2 (by omega) R0
  have HB2 := Lib.hid (HB1.out.trans (ho2.below (by omega) HB1.out.size))
  have hz2 := ho2.size
  have C0 : Bk (u2.alloc (.cells #[.int .i64 x0, .int .i64 y0] 25)) u2.heap.size x0 y0 := bkNew0 _ _ _ _
  replace R0 := bkOf (bAlloc (Below.refl _ _) (.cells #[.int .i64 x0, .int .i64 y0] 25)) R0
  have HS2 := Lib.hid (hs2.below (bAlloc (Below.refl _ _) (.cells #[.int .i64 x0, .int .i64 y0] 25)))
  replace HB2 := Lib.hid (bAlloc HB2.out (.cells #[.int .i64 x0, .int .i64 y0] 25))
  clear hs2 ho2 HS1 HB1
  have hl0 := C0.2.2.2.2
  go_upto_region 3 with fail
  obtain ⟨c0, hc0⟩ : ∃ c, c = u2.heap.size := ⟨_, rfl⟩
  rw [← hc0] at C0 ⊢
  have hcl0 : u2.heap.size ≤ c0 := by omega
  have hcu0 : c0 ≤ u2.heap.size := by omega
  generalize hW : u2.alloc (.cells #[.int .i64 x0, .int .i64 y0] 25) = v at *
  have hzv : u2.heap.size + 1 ≤ v.heap.size := by rw [← hW]; simp
  clear hW hc0
  have ne0 : ¬ w.heap.size = s := by omega
  have ne1 : ¬ w.heap.size = c0 := by omega
  have ne2 : ¬ s = w.heap.size := by omega
  have ne3 : ¬ s = c0 := by omega
  have ne4 : ¬ c0 = w.heap.size := by omega
  have ne5 : ¬ c0 = s := by omega
  have D0 := C0
  obtain ⟨a0a, a0b, a0c, a0d, a0e⟩ := D0
  go_region_held3 (fun v' => v'.cell? ⟨c0, 0, none⟩ = some (.int .i64 x0) ∧ v'.cell? ⟨c0, 1, none⟩ = some (.int .i64 y0)) (go_keep) ((go_at_call 55; (with_reducible refine (l09DrawLeast_any s _ _ (HS2.out.below (Below.drew (Below.refl _ _))) (by omega)).mono ?_); rintro e u9 ⟨p, rfl, hp, hs9, ho9⟩; obtain ⟨e0a, e0b, e0c, e0d, e0e⟩ := bkOnly ho9 (by omega) (bkOf (Below.drew (Below.refl _ _)) C0); have T0 := bkOnly ho9 (by omega) (bkOf (Below.drew (Below.refl _ _)) R0); obtain ⟨g0a, g0b, g0c, g0d, g0e⟩ := T0; have HB9 := Lib.hid ((Below.drew HB2.out).trans ((ho9.below (B := w.heap.size) (by omega) (by simp; omega))))))
  all_goals go_wp2
  all_goals refine bodyPost_ret (v := .tuple #[fr x0 y0, .int .i64 p]) (by simp [results, Try.results24, go_sem, g0a, g0b, g0e, Nat.ne_of_lt g0e]) rfl ⟨_, _, _, rfl, ⟨hx0, hy0, hp⟩, ?_⟩
  all_goals (repeat (first | exact HB9.out | refine bSet ?_ (by first | (simp; done) | (simp; omega)) _))

set_option maxHeartbeats 4000000 in
set_option maxRecDepth 100000 in
/-- spec.DrawFewestBlades. -/
theorem DrawFewestBlades_any (a : Option Addr) (len cap : Nat) (zs : List Int) (w : World) (hr : Row w a len cap zs) :
    Calls Try.prog 21 #[.slice a len cap] w fun e w' => ∃ x0 y0 p : Int, e = .returned (.tuple #[fr x0 y0, .int .i64 p]) ∧ (I64 x0 ∧ I64 y0 ∧ I64 p) ∧ Below w.heap.size w w' := by
  have hb0 : Below w.heap.size w (w.alloc (.cells #[.int .i64 0, .int .i64 0] 27)) := by repeat (first | exact Below.refl _ _ | refine bAlloc ?_ _)
  have F := fromS a len cap zs (w.alloc (.cells #[.int .i64 0, .int .i64 0] 27)) (hr.below hb0)
  simp only [World.size_alloc] at F
  have R0 : Bk (w.alloc (.cells #[.int .i64 0, .int .i64 0] 27)) (w.heap.size) 0 0 := by refine ⟨?_, ?_, ?_, ?_, ?_⟩ <;> go_simp
  go_enter Try.func21, Try.ntmps21
  go_wp2_with fail
  refine F.mono ?_
  clear F
  rintro e u1 ⟨rfl, hs1, hb1, hz1⟩
  replace R0 := bkOf (W := (w.alloc (.cells #[.int .i64 0, .int .i64 0] 27))) (by simp only [World.size_alloc]; exact hb1) R0
  have HB1 := Lib.hid (hb0.trans (hb1.mono (by omega)))
  have HS1 := Lib.hid hs1
  clear hs1 hb1 hb0 hr
  obtain ⟨s, hs⟩ : ∃ s, s = w.heap.size + 1 := ⟨_, rfl⟩
  rw [← hs] at HS1 hz1 ⊢
  have hsl : w.heap.size + 1 ≤ s := by omega
  have hsu : s ≤ w.heap.size + 1 := by omega
  replace hz1 : s + 1 ≤ u1.heap.size := by omega
  clear hs
  go_wp2_with fail
  refine (l09DrawRate_any s _ _ HS1.out (by omega)).mono ?_
  rintro e u2 ⟨x0, y0, rfl, hx0, hy0, hs2, ho2⟩
  replace R0 := bkOnly ho2 (by omega) R0
  have HB2 := Lib.hid (HB1.out.trans (ho2.below (by omega) HB1.out.size))
  have hz2 := ho2.size
  have C0 : Bk (u2.alloc (.cells #[.int .i64 x0, .int .i64 y0] 27)) u2.heap.size x0 y0 := bkNew0 _ _ _ _
  replace R0 := bkOf (bAlloc (Below.refl _ _) (.cells #[.int .i64 x0, .int .i64 y0] 27)) R0
  have HS2 := Lib.hid (hs2.below (bAlloc (Below.refl _ _) (.cells #[.int .i64 x0, .int .i64 y0] 27)))
  replace HB2 := Lib.hid (bAlloc HB2.out (.cells #[.int .i64 x0, .int .i64 y0] 27))
  clear hs2 ho2 HS1 HB1
  have hl0 := C0.2.2.2.2
  go_upto_region 3 with fail
  obtain ⟨c0, hc0⟩ : ∃ c, c = u2.heap.size := ⟨_, rfl⟩
  rw [← hc0] at C0 ⊢
  have hcl0 : u2.heap.size ≤ c0 := by omega
  have hcu0 : c0 ≤ u2.heap.size := by omega
  generalize hW : u2.alloc (.cells #[.int .i64 x0, .int .i64 y0] 27) = v at *
  have hzv : u2.heap.size + 1 ≤ v.heap.size := by rw [← hW]; simp
  clear hW hc0
  have ne0 : ¬ w.heap.size = s := by omega
  have ne1 : ¬ w.heap.size = c0 := by omega
  have ne2 : ¬ s = w.heap.size := by omega
  have ne3 : ¬ s = c0 := by omega
  have ne4 : ¬ c0 = w.heap.size := by omega
  have ne5 : ¬ c0 = s := by omega
  have D0 := C0
  obtain ⟨a0a, a0b, a0c, a0d, a0e⟩ := D0
  go_region_held3 (fun v' => v'.cell? ⟨c0, 0, none⟩ = some (.int .i64 x0) ∧ v'.cell? ⟨c0, 1, none⟩ = some (.int .i64 y0)) (go_keep) ((go_at_call 55; (with_reducible refine (l09DrawLeast_any s _ _ (HS2.out.below (Below.drew (Below.refl _ _))) (by omega)).mono ?_); rintro e u9 ⟨p, rfl, hp, hs9, ho9⟩; obtain ⟨e0a, e0b, e0c, e0d, e0e⟩ := bkOnly ho9 (by omega) (bkOf (Below.drew (Below.refl _ _)) C0); have T0 := bkOnly ho9 (by omega) (bkOf (Below.drew (Below.refl _ _)) R0); obtain ⟨g0a, g0b, g0c, g0d, g0e⟩ := T0; have HB9 := Lib.hid ((Below.drew HB2.out).trans ((ho9.below (B := w.heap.size) (by omega) (by simp; omega))))))
  all_goals go_wp2
  all_goals refine bodyPost_ret (v := .tuple #[fr x0 y0, .int .i64 p]) (by simp [results, Try.results21, go_sem, g0a, g0b, g0e, Nat.ne_of_lt g0e]) rfl ⟨_, _, _, rfl, ⟨hx0, hy0, hp⟩, ?_⟩
  all_goals (repeat (first | exact HB9.out | refine bSet ?_ (by first | (simp; done) | (simp; omega)) _))

end Go.Proofs.Ytflgjohknjgdcaa
