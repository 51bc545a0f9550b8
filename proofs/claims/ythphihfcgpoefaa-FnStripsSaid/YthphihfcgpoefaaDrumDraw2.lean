/- Drums with numbers of pictures, and gaps, that are drawn. -/
import Derived.Test.YthphihfcgpoefaaProg
import Derived.Test.YthphihfcgpoefaaDrum
import Derived.Test.YthphihfcgpoefaaDrumDraw
import Derived.Test.YthphihfcgpoefaaLists
import Derived.Test.YthphihfcgpoefaaHold
import Derived.Test.YthphihfcgpoefaaSrc
import Derived.Test.YthphihfcgpoefaaPick
import Derived.IntWalk
import Derived.WalkSpells
import Derived.OwnWalk
import Derived.Laws.AppendOwn
import Derived.Laws.OwnMore
import Derived.Laws.Cover1
import Derived.Deep.RegionWith
import Derived.Deep.DrawnRows
import Derived.Deep.RegionHeld3
import Derived.Tactics
import Derived.Tactics2
import Derived.WalkKit
import Derived.LoopTactic
import Derived.BigQuiet
import Derived.RegionTactic
import Derived.Deep.QuietTactic
import Derived.Outline
import Derived.Lib.Hide
import Derived.Below
import Derived.KernelRfl
namespace Go.Proofs.Ythphihfcgpoefaa
set_option linter.unusedSimpArgs false
set_option linter.unusedVariables false
open Go.RowKit

set_option maxHeartbeats 4000000 in
/-- spec.l07With. -/
theorem l07With_any (a : Option Addr) (len cap : Nat) (zs : List Int) (w : World) (hr : Row w a len cap zs) :
    Calls Try.prog 64 #[.slice a len cap] w fun e w' => ∃ r h s p : Int, e = .returned (.tuple #[dr r h s, .int .i64 p]) ∧ Below w.heap.size w w' := by
  have HR := Lib.hid (hr.below (bAlloc (Below.refl _ _) (.cells #[.int .i64 0, .int .i64 0, .int .i64 0] 25)))
  clear hr
  go_enter Try.func64, Try.ntmps64
  go_wp2_with fail
  refine (fromS a len cap zs _ HR.out).mono ?_
  rintro e u1 ⟨rfl, hs1, hb1, hz1⟩
  have hz0 : (w.alloc (.cells #[.int .i64 0, .int .i64 0, .int .i64 0] 25)).heap.size = w.heap.size + 1 := by simp
  rw [hz0] at hs1 hz1
  rw [hz0]
  have B1 : Bs u1 w.heap.size 0 0 0 := Bs.below (by refine ⟨?_, ?_, ?_, ?_, ?_, ?_, ?_⟩ <;> go_simp) hb1
  have HS1 := Lib.hid hs1
  have HB1 := Lib.hid (bTrans (bAlloc (Below.refl _ w) (.cells #[.int .i64 0, .int .i64 0, .int .i64 0] 25)) hb1)
  clear hs1 hb1 hz0 HR
  go_wp2_with fail
  refine (l07Bent_any _ 0 _ HS1.out (by omega)).mono ?_
  rintro e u2 ⟨r, h, s, rfl, hs2, ho2⟩
  have B2 := B1.only ho2 (by omega)
  have HS2 := Lib.hid (hs2.below (bAlloc (Below.refl _ _) (.cells #[.int .i64 r, .int .i64 h, .int .i64 s] 25)))
  have HB2 := Lib.hid (bAlloc (HB1.out.trans (ho2.below (by omega) HB1.out.size)) (.cells #[.int .i64 r, .int .i64 h, .int .i64 s] 25))
  have hlt2 := B2.lt
  have hz2 := ho2.size
  have C2 : Bs (u2.alloc (.cells #[.int .i64 r, .int .i64 h, .int .i64 s] 25)) u2.heap.size r h s := by refine ⟨?_, ?_, ?_, ?_, ?_, ?_, ?_⟩ <;> go_simp
  have B2 := B2.below (bAlloc (Below.refl _ _) (.cells #[.int .i64 r, .int .i64 h, .int .i64 s] 25))
  clear hs2 ho2 HS1 HB1 B1
  have ne1 : ¬ w.heap.size = u2.heap.size := by omega
  have ne2 : ¬ u2.heap.size = w.heap.size := by omega
  go_wp2_with fail
  generalize u2.alloc (.cells #[.int .i64 r, .int .i64 h, .int .i64 s] 25) = v at *
  generalize u2.heap.size = c at *
  refine (oneS 8 _ _ _ (by omega) (by omega) HS2.out (by omega)).mono ?_
  rintro e u3 ⟨t, rfl, hs3, ho3⟩
  have C3 := C2.only ho3 (by omega)
  have B3 := B2.only ho3 (by omega)
  have HS3 := Lib.hid hs3
  have HB3 := Lib.hid (HB2.out.trans (ho3.below (by omega) HB2.out.size))
  have hzz3 := ho3.size
  clear hs3 ho3
  cases t
  · obtain ⟨q0, q1, q2, q3, q4, q5, q6⟩ := C3
    obtain ⟨p0, p1, p2, p3, p4, p5, p6⟩ := B3
    have BB : Bs u3 w.heap.size 0 0 0 := ⟨p0, p1, p2, p3, p4, p5, p6⟩
    have CC : Bs u3 c r h s := ⟨q0, q1, q2, q3, q4, q5, q6⟩
    go_wp2_with fail
    go_region_held3 (fun w' => w'.cell? ⟨c, 0, none⟩ = some (.int .i64 r) ∧ w'.cell? ⟨c, 1, none⟩ = some (.int .i64 h) ∧ w'.cell? ⟨c, 2, none⟩ = some (.int .i64 s)) (go_keep)
      ((go_at_call 61; refine (pickS 20 _ _ _ (by omega) (by omega) (HS3.out.below (bDrewN (Below.refl _ _) _)) (by omega)).mono ?_; rintro e u9 ⟨y0, y1, y2, rfl, hs9, ho9⟩; obtain ⟨q0, q1, q2, q3, q4, q5, q6⟩ := (CC.below (bDrewN (Below.refl _ _) _)).only ho9 (by omega); obtain ⟨p0, p1, p2, p3, p4, p5, p6⟩ := (BB.below (bDrewN (Below.refl _ _) _)).only ho9 (by omega)))
    have w4 : IntKind.i64.wrap (1 + y0) = 1 + y0 := IntWalk.i64_in _ (by omega)
    have HB9 := Lib.hid ((bDrewN HB3.out _).trans (ho9.below (by omega) HB3.out.size))
    go_wp2
    refine bodyPost_ret (v := .tuple #[dr r h s, .int .i64 (1 + y0)]) (by simp [results, Try.results64, go_sem, p0, p1, p2, p3, p4, p5, p6, Nat.ne_of_lt p6, w4]) rfl ⟨_, _, _, _, rfl, ?_⟩
    repeat (first | exact HB9.out | refine bSet ?_ (by first | (simp; done) | (simp; omega)) _)
  · obtain ⟨q0, q1, q2, q3, q4, q5, q6⟩ := C3
    obtain ⟨p0, p1, p2, p3, p4, p5, p6⟩ := B3
    have BB : Bs u3 w.heap.size 0 0 0 := ⟨p0, p1, p2, p3, p4, p5, p6⟩
    have CC : Bs u3 c r h s := ⟨q0, q1, q2, q3, q4, q5, q6⟩
    go_wp2_with fail
    go_region_held3 (fun w' => w'.cell? ⟨c, 0, none⟩ = some (.int .i64 r) ∧ w'.cell? ⟨c, 1, none⟩ = some (.int .i64 h) ∧ w'.cell? ⟨c, 2, none⟩ = some (.int .i64 s)) (go_keep)
      ((go_at_call 63; refine (amongS _ _ u3.heap.size _ [-1, 0, 1, 48, 49] _ (oneLit (u3.drewN _) [-1, 0, 1, 48, 49] _ rfl (by simp) (by simp)) (by simp) (by simp) (by omega) (HS3.out.below (bAlloc (bDrewN (Below.refl _ _) _) _)) (by omega)).mono ?_; rintro e u9 ⟨j, hj, rfl, hs9, ho9⟩; obtain ⟨q0, q1, q2, q3, q4, q5, q6⟩ := (CC.below (bAlloc (bDrewN (Below.refl _ _) _) (.cells #[.int .i64 (-1), .int .i64 0, .int .i64 1, .int .i64 48, .int .i64 49] 2))).only ho9 (by omega); obtain ⟨p0, p1, p2, p3, p4, p5, p6⟩ := (BB.below (bAlloc (bDrewN (Below.refl _ _) _) (.cells #[.int .i64 (-1), .int .i64 0, .int .i64 1, .int .i64 48, .int .i64 49] 2))).only ho9 (by omega)))
    have HB9 := Lib.hid ((bAlloc (bDrewN HB3.out _) (.cells #[.int .i64 (-1), .int .i64 0, .int .i64 1, .int .i64 48, .int .i64 49] 2)).trans (ho9.below (by omega) (by have := HB3.out.size; simp; omega)))
    go_wp2
    refine bodyPost_ret (v := .tuple #[dr r h s, .int .i64 (([-1, 0, 1, 48, 49] : List Int).getD j 0)]) (by simp [results, Try.results64, go_sem, p0, p1, p2, p3, p4, p5, p6, Nat.ne_of_lt p6]) rfl ⟨_, _, _, _, rfl, ?_⟩
    repeat (first | exact HB9.out | refine bSet ?_ (by first | (simp; done) | (simp; omega)) _)

set_option maxHeartbeats 4000000 in
/-- spec.DrawWidestPicture. -/
theorem drawWidest_any (a : Option Addr) (len cap : Nat) (zs : List Int) (w : World) (hr : Row w a len cap zs) :
    Calls Try.prog 38 #[.slice a len cap] w fun e w' => ∃ r h s p g : Int, e = .returned (.tuple #[dr r h s, .int .i64 p, .int .i64 g]) ∧ Below w.heap.size w w' := by
  have HR := Lib.hid (hr.below (bAlloc (Below.refl _ _) (.cells #[.int .i64 0, .int .i64 0, .int .i64 0] 25)))
  clear hr
  go_enter Try.func38, Try.ntmps38
  go_wp2_with fail
  refine (l07With_any a len cap zs _ HR.out).mono ?_
  rintro e u1 ⟨r, h, s, p, rfl, hb1⟩
  have HR1 := Lib.hid ((HR.out.below hb1).below (bAlloc (Below.refl _ _) (.cells #[.int .i64 r, .int .i64 h, .int .i64 s] 25)))
  have B1 : Bs u1 w.heap.size 0 0 0 := Bs.below (by refine ⟨?_, ?_, ?_, ?_, ?_, ?_, ?_⟩ <;> go_simp) hb1
  have HB1 := Lib.hid (bAlloc (bTrans (bAlloc (Below.refl _ w) (.cells #[.int .i64 0, .int .i64 0, .int .i64 0] 25)) hb1) (.cells #[.int .i64 r, .int .i64 h, .int .i64 s] 25))
  have hlt2 := B1.lt
  have C1 : Bs (u1.alloc (.cells #[.int .i64 r, .int .i64 h, .int .i64 s] 25)) u1.heap.size r h s := by refine ⟨?_, ?_, ?_, ?_, ?_, ?_, ?_⟩ <;> go_simp
  have B1 := B1.below (bAlloc (Below.refl _ _) (.cells #[.int .i64 r, .int .i64 h, .int .i64 s] 25))
  have ne1 : ¬ w.heap.size = u1.heap.size := by omega
  have ne2 : ¬ u1.heap.size = w.heap.size := by omega
  clear hb1
  go_wp2_with fail
  refine (fromS a len cap zs _ HR1.out).mono ?_
  have hzc : (u1.alloc (.cells #[.int .i64 r, .int .i64 h, .int .i64 s] 25)).heap.size = u1.heap.size + 1 := by simp
  rw [hzc]
  generalize u1.alloc (.cells #[.int .i64 r, .int .i64 h, .int .i64 s] 25) = v at *
  generalize u1.heap.size = c at *
  rintro e u2 ⟨rfl, hs2, hb2, hz2⟩
  rw [← hzc] at hb2
  have C2 := C1.below hb2
  have B2 := B1.below hb2
  have HS2 := Lib.hid hs2
  have HB2 := Lib.hid (bTrans HB1.out hb2)
  clear hs2 hb2 HB1 B1 C1 HR HR1
  go_wp2_with fail
  refine (oneS 8 _ _ _ (by omega) (by omega) HS2.out (by omega)).mono ?_
  rintro e u3 ⟨t, rfl, hs3, ho3⟩
  have C3 := C2.only ho3 (by omega)
  have B3 := B2.only ho3 (by omega)
  have HS3 := Lib.hid hs3
  have HB3 := Lib.hid (HB2.out.trans (ho3.below (by omega) HB2.out.size))
  have hzz3 := ho3.size
  clear hs3 ho3
  cases t
  · obtain ⟨q0, q1, q2, q3, q4, q5, q6⟩ := C3
    obtain ⟨p0, p1, p2, p3, p4, p5, p6⟩ := B3
    have BB : Bs u3 w.heap.size 0 0 0 := ⟨p0, p1, p2, p3, p4, p5, p6⟩
    have CC : Bs u3 c r h s := ⟨q0, q1, q2, q3, q4, q5, q6⟩
    go_wp2_with fail
    go_region_held3 (fun w' => w'.cell? ⟨c, 0, none⟩ = some (.int .i64 r) ∧ w'.cell? ⟨c, 1, none⟩ = some (.int .i64 h) ∧ w'.cell? ⟨c, 2, none⟩ = some (.int .i64 s)) (go_keep)
      ((go_at_call 61; refine (pickS 50 _ _ _ (by omega) (by omega) (HS3.out.below (bDrewN (Below.refl _ _) _)) (by omega)).mono ?_; rintro e u9 ⟨y0, y1, y2, rfl, hs9, ho9⟩; obtain ⟨q0, q1, q2, q3, q4, q5, q6⟩ := (CC.below (bDrewN (Below.refl _ _) _)).only ho9 (by omega); obtain ⟨p0, p1, p2, p3, p4, p5, p6⟩ := (BB.below (bDrewN (Below.refl _ _) _)).only ho9 (by omega)))
    have HB9 := Lib.hid ((bDrewN HB3.out _).trans (ho9.below (by omega) HB3.out.size))
    go_wp2
    refine bodyPost_ret (v := .tuple #[dr r h s, .int .i64 p, .int .i64 y0]) (by simp [results, Try.results38, go_sem, p0, p1, p2, p3, p4, p5, p6, Nat.ne_of_lt p6]) rfl ⟨_, _, _, _, _, rfl, ?_⟩
    repeat (first | exact HB9.out | refine bSet ?_ (by first | (simp; done) | (simp; omega)) _)
  · obtain ⟨q0, q1, q2, q3, q4, q5, q6⟩ := C3
    obtain ⟨p0, p1, p2, p3, p4, p5, p6⟩ := B3
    have BB : Bs u3 w.heap.size 0 0 0 := ⟨p0, p1, p2, p3, p4, p5, p6⟩
    have CC : Bs u3 c r h s := ⟨q0, q1, q2, q3, q4, q5, q6⟩
    go_wp2_with fail
    go_region_held3 (fun w' => w'.cell? ⟨c, 0, none⟩ = some (.int .i64 r) ∧ w'.cell? ⟨c, 1, none⟩ = some (.int .i64 h) ∧ w'.cell? ⟨c, 2, none⟩ = some (.int .i64 s)) (go_keep)
      ((go_at_call 63; refine (amongS _ _ u3.heap.size _ [-1, 0, 10000, 10001] _ (oneLit (u3.drewN _) [-1, 0, 10000, 10001] _ rfl (by simp) (by simp)) (by simp) (by simp) (by omega) (HS3.out.below (bAlloc (bDrewN (Below.refl _ _) _) _)) (by omega)).mono ?_; rintro e u9 ⟨j, hj, rfl, hs9, ho9⟩; obtain ⟨q0, q1, q2, q3, q4, q5, q6⟩ := (CC.below (bAlloc (bDrewN (Below.refl _ _) _) (.cells #[.int .i64 (-1), .int .i64 0, .int .i64 10000, .int .i64 10001] 2))).only ho9 (by omega); obtain ⟨p0, p1, p2, p3, p4, p5, p6⟩ := (BB.below (bAlloc (bDrewN (Below.refl _ _) _) (.cells #[.int .i64 (-1), .int .i64 0, .int .i64 10000, .int .i64 10001] 2))).only ho9 (by omega)))
    have HB9 := Lib.hid ((bAlloc (bDrewN HB3.out _) (.cells #[.int .i64 (-1), .int .i64 0, .int .i64 10000, .int .i64 10001] 2)).trans (ho9.below (by omega) (by have := HB3.out.size; simp; omega)))
    go_wp2
    refine bodyPost_ret (v := .tuple #[dr r h s, .int .i64 p, .int .i64 (([-1, 0, 10000, 10001] : List Int).getD j 0)]) (by simp [results, Try.results38, go_sem, p0, p1, p2, p3, p4, p5, p6, Nat.ne_of_lt p6]) rfl ⟨_, _, _, _, _, rfl, ?_⟩
    repeat (first | exact HB9.out | refine bSet ?_ (by first | (simp; done) | (simp; omega)) _)

end Go.Proofs.Ythphihfcgpoefaa
