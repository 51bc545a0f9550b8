/- What the law on steady wheels draws of open parts. -/
import Derived.Test.YtflgjohknjgdcaaProg
import Derived.Test.YtflgjohknjgdcaaBldDraw4
import Derived.Test.YtflgjohknjgdcaaBldDraw3
import Derived.Laws.Cover1
import Derived.Deep.RegionWith
import Derived.Deep.DrawnRows
import Derived.Deep.RegionHeld3
import Derived.Deep.DeepCutAuto
import Derived.Laws.StructEq
import Derived.Tactics
import Derived.Tactics2
import Derived.WalkKit
import Derived.LoopTactic
import Derived.BigQuiet
import Derived.RegionTactic
import Derived.Deep.QuietTactic
import Derived.Outline
import Derived.Lib.Hide
import Derived.Below
import Derived.KernelRfl
namespace Go.Proofs.Ytflgjohknjgdcaa
set_option linter.unusedSimpArgs false
set_option linter.unusedVariables false
open Go.RowKit


/-- spec.l00Min. -/
theorem l00Min9_any (a b : Int) (w : World) :
    Calls Try.prog 72 #[.int .i64 a, .int .i64 b] w fun e w' => e = .returned (.int .i64 (min a b)) ∧ w = w' := by
  by_cases h : a < b
  · have h2 : min a b = a := by omega
    rw [h2]
    go_enter Try.func72, Try.ntmps72
    go_wp2
    go_ret
    exact ⟨rfl, rfl⟩
  · have h2 : min a b = b := by omega
    rw [h2]
    go_enter Try.func72, Try.ntmps72
    go_wp2
    go_ret
    exact ⟨rfl, rfl⟩

set_option maxHeartbeats 4000000 in
set_option maxRecDepth 100000 in
/-- spec.DrawOpenParts. -/
theorem DrawOpenParts_any (a : Option Addr) (len cap : Nat) (zs : List Int) (w : World) (hr : Row w a len cap zs) :
    Calls Try.prog 27 #[.slice a len cap] w fun e w' => ∃ x0 y0 p q : Int, e = .returned (.tuple #[fr x0 y0, .int .i64 p, .int .i64 q]) ∧ (I64 x0 ∧ I64 y0 ∧ I64 p ∧ I64 q) ∧ Below w.heap.size w w' := by
  have hb0 : Below w.heap.size w (w.alloc (.cells #[.int .i64 0, .int .i64 0] 25)) := by repeat (first | exact Below.refl _ _ | refine bAlloc ?_ _)
  have F := fromS a len cap zs (w.alloc (.cells #[.int .i64 0, .int .i64 0] 25)) (hr.below hb0)
  simp only [World.size_alloc] at F
  have R0 : Bk (w.alloc (.cells #[.int .i64 0, .int .i64 0] 25)) (w.heap.size) 0 0 := by refine ⟨?_, ?_, ?_, ?_, ?_⟩ <;> go_simp
  go_enter Try.func27, Try.ntmps27
  go_wp2_with fail
  refine F.mono ?_
  clear F
  rintro e u1 ⟨rfl, hs1, hb1, hz1⟩
  replace R0 := bkOf (W := (w.alloc (.cells #[.int .i64 0, .int .i64 0] 25))) (by simp only [World.size_alloc]; exact hb1) R0
  have HB1 := Lib.hid (hb0.trans (hb1.mono (by omega)))
  have HS1 := Lib.hid hs1
  clear hs1 hb1 hb0 hr
  obtain ⟨s, hs⟩ : ∃ s, s = w.heap.size + 1 := ⟨_, rfl⟩
  rw [← hs] at HS1 hz1 ⊢
  have hsl : w.heap.size + 1 ≤ s := by omega
  have hsu : s ≤ w.heap.size + 1 := by omega
  replace hz1 : s + 1 ≤ u1.heap.size := by omega
  clear hs
  go_wp2_with fail
  refine (l09Draw_any s _ _ HS1.out (by omega)).mono ?_
  rintro e u2 ⟨x0, y0, rfl, hx0, hy0, hs2, ho2⟩
  replace R0 := bkOnly ho2 (by omega) R0
  have HB2 := Lib.hid (HB1.out.trans (ho2.below (by omega) HB1.out.size))
  have hz2 := ho2.size
  have C0 : Bk (u2.alloc (.cells #[.int .i64 x0, .int .i64 y0] 25)) u2.heap.size x0 y0 := bkNew0 _ _ _ _
  replace R0 := bkOf (bAlloc (Below.refl _ _) (.cells #[.int .i64 x0, .int .i64 y0] 25)) R0
  have HS2 := Lib.hid (hs2.below (bAlloc (Below.refl _ _) (.cells #[.int .i64 x0, .int .i64 y0] 25)))
  replace HB2 := Lib.hid (bAlloc HB2.out (.cells #[.int .i64 x0, .int .i64 y0] 25))
  clear hs2 ho2 HS1 HB1
  have hl0 := C0.2.2.2.2
  go_upto_region 3 with fail
  obtain ⟨c0, hc0⟩ : ∃ c, c = u2.heap.size := ⟨_, rfl⟩
  rw [← hc0] at C0 ⊢
  have hcl0 : u2.heap.size ≤ c0 := by omega
  have hcu0 : c0 ≤ u2.heap.size := by omega
  generalize hW : u2.alloc (.cells #[.int .i64 x0, .int .i64 y0] 25) = v at *
  have hzv : u2.heap.size + 1 ≤ v.heap.size := by rw [← hW]; simp
  clear hW hc0
  go_wp2_with fail
  refine (l09Part_any s _ _ HS2.out (by omega)).mono ?_
  rintro e u3 ⟨p, rfl, hp, hs3, ho3⟩
  have R3 := bkOnly ho3 (by omega) R0
  have C3 := bkOnly ho3 (by omega) C0
  have HB3 := Lib.hid (HB2.out.trans (ho3.below (B := w.heap.size) (by omega) (by omega)))
  have HS3 := Lib.hid hs3
  have hz3 := ho3.size
  clear hs3 ho3 HS2 HB2 R0 C0
  go_wp2_with fail
  refine (oneS 8 s _ _ (by omega) (by omega) HS3.out (by omega)).mono ?_
  rintro e u4 ⟨t, rfl, hs4, ho4⟩
  have R4 := bkOnly ho4 (by omega) R3
  have C4 := bkOnly ho4 (by omega) C3
  have HB4 := Lib.hid (HB3.out.trans (ho4.below (B := w.heap.size) (by omega) (by omega)))
  have HS4 := Lib.hid hs4
  have hz4 := ho4.size
  clear hs4 ho4 HS3 HB3 R3 C3
  have ne0 : ¬ w.heap.size = s := by omega
  have ne1 : ¬ w.heap.size = c0 := by omega
  have ne2 : ¬ s = w.heap.size := by omega
  have ne3 : ¬ s = c0 := by omega
  have ne4 : ¬ c0 = w.heap.size := by omega
  have ne5 : ¬ c0 = s := by omega
  have D4 := C4
  obtain ⟨a0, a1, a2, a3, a4⟩ := D4
  cases t
  · go_upto_region 6 with fail
    go_region_held3 (fun v' => v'.cell? ⟨c0, 0, none⟩ = some (.int .i64 x0) ∧ v'.cell? ⟨c0, 1, none⟩ = some (.int .i64 y0)) (go_keep) ((first | (go_at_call 73; (with_reducible refine (pickS 300 s _ _ (by omega) (by omega) (HS4.out.below (Below.drew (Below.refl _ _))) (by omega)).mono ?_); rintro e u9 ⟨z, z0, z1, rfl, hs9, ho9⟩; have w1 : IntKind.i64.wrap (p + z) = p + z := IntWalk.i64_in _ (by omega); obtain ⟨e0, e1, e2, e3, e4⟩ := bkOnly ho9 (by omega) (bkOf (Below.drew (Below.refl _ _)) C4); obtain ⟨g0, g1, g2, g3, g4⟩ := bkOnly ho9 (by omega) (bkOf (Below.drew (Below.refl _ _)) R4); have HB9 := Lib.hid ((Below.drew HB4.out).trans (ho9.below (B := w.heap.size) (by omega) (by simp; omega)))) | (go_at_call 72; (with_reducible refine (l00Min9_any _ _ _).mono ?_); rintro e u10 ⟨rfl, rfl⟩)))
    all_goals go_wp2
    all_goals refine bodyPost_ret (v := .tuple #[fr x0 y0, .int .i64 p, .int .i64 (min 1000 (p + z))]) (by simp [results, Try.results27, go_sem, g0, g1, g4, Nat.ne_of_lt g4]) rfl ⟨_, _, _, _, rfl, ⟨hx0, hy0, i64_of (by omega) (by omega), i64_of (by omega) (by omega)⟩, ?_⟩
    all_goals (repeat (first | exact HB9.out | refine bSet ?_ (by first | (simp; done) | (simp; omega)) _ | refine Below.drew ?_ | refine bDrewN ?_ _))
  · go_upto_region 5 with fail
    go_region_held3 (fun v' => v'.cell? ⟨c0, 0, none⟩ = some (.int .i64 x0) ∧ v'.cell? ⟨c0, 1, none⟩ = some (.int .i64 y0)) (go_keep) ((go_at_call 70; (with_reducible refine (l09Part_any s _ _ (HS4.out.below (Below.drew (Below.refl _ _))) (by omega)).mono ?_); rintro e u9 ⟨q, rfl, hq, hs9, ho9⟩; obtain ⟨e0, e1, e2, e3, e4⟩ := bkOnly ho9 (by omega) (bkOf (Below.drew (Below.refl _ _)) C4); obtain ⟨g0, g1, g2, g3, g4⟩ := bkOnly ho9 (by omega) (bkOf (Below.drew (Below.refl _ _)) R4); have HB9 := Lib.hid ((Below.drew HB4.out).trans (ho9.below (B := w.heap.size) (by omega) (by simp; omega)))))
    all_goals go_wp2
    all_goals refine bodyPost_ret (v := .tuple #[fr x0 y0, .int .i64 p, .int .i64 (q)]) (by simp [results, Try.results27, go_sem, g0, g1, g4, Nat.ne_of_lt g4]) rfl ⟨_, _, _, _, rfl, ⟨hx0, hy0, i64_of (by omega) (by omega), i64_of (by omega) (by omega)⟩, ?_⟩
    all_goals (repeat (first | exact HB9.out | refine bSet ?_ (by first | (simp; done) | (simp; omega)) _ | refine Below.drew ?_ | refine bDrewN ?_ _))

end Go.Proofs.Ytflgjohknjgdcaa
