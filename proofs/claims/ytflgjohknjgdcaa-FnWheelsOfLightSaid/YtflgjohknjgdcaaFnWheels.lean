/- The statement on wheels of light: its own walk. -/
import Derived.Test.YtflgjohknjgdcaaProg
import Derived.Test.YtflgjohknjgdcaaWheelF
import Derived.Test.YtflgjohknjgdcaaFnOffsets
import Derived.Test.YtflgjohknjgdcaaBldLaws1
import Derived.Laws.Cover1
import Derived.Deep.RegionWith
import Derived.Deep.DrawnRows
import Derived.Deep.RegionHeld3
import Derived.Deep.DeepCutAuto
import Derived.Laws.StructEq
import Derived.Tactics
import Derived.Tactics2
import Derived.WalkKit
import Derived.LoopTactic
import Derived.BigQuiet
import Derived.RegionTactic
import Derived.Deep.QuietTactic
import Derived.Outline
import Derived.Lib.Hide
import Derived.Below
import Derived.KernelRfl
namespace Go.Proofs.Ytflgjohknjgdcaa
set_option linter.unusedSimpArgs false
set_option linter.unusedVariables false
open Go.RowKit

@[local go_sem high] theorem run_min_8 {P : Program} (w : World) (ts : Array TypeId) (t : TypeId) (k k' : IntKind) (x y : Int) : (Builtin.min_ ts t #[.int k x, .int k' y]).run P w = .ok (.int k (lo9 x y)) w := by
  simp [Builtin.min_, Builtin.min2, lo9]

set_option maxHeartbeats 8000000 in
set_option maxRecDepth 100000 in
theorem lawFnWheels_ok (pa : Option Addr) (len cap : Nat) (cs : List Int) (w : World) (hr : Row w pa len cap cs) (hlen : ¬ 4096 < (len : Int)) :
    Calls Try.prog 4 #[.slice pa len cap] w fun e w' => e = .returned (.bool true) ∧ Below w.heap.size w w' := by
  have HR := Lib.hid hr
  have HB0 := Lib.hid (Below.refl w.heap.size w)
  have hz := decide_eq_false hlen
  clear hr
  go_enter Try.func4, Try.ntmps4
  go_wp2_with fail
  refine (f6bigO_any _ _ _ _).mono ?_
  rintro e u0 ⟨rfl, rfl⟩
  rw [hz]
  clear hz
  go_wp2_with fail
  refine (DrawTwoWheels_any pa len cap cs _ HR.out).mono ?_
  rintro e u1 ⟨a, b, c, d, y, rfl, -, hb1⟩
  have HB1 := Lib.hid (bTrans HB0.out hb1)
  have HR1 := Lib.hid (HR.out.below hb1)
  clear hb1 HB0
  clear HR
  have HR := HR1
  clear HR1
  replace HB1 := Lib.hid (bAlloc HB1.out (.cells #[.int .i64 a, .int .i64 b] 25))
  replace HR := Lib.hid (HR.out.below (bAlloc (Below.refl _ _) (.cells #[.int .i64 a, .int .i64 b] 25)))
  have XA : Bk (u1.alloc (.cells #[.int .i64 a, .int .i64 b] 25)) (u1.heap.size) a b := by refine ⟨?_, ?_, ?_, ?_, ?_⟩ <;> go_simp
  replace HB1 := Lib.hid (bAlloc HB1.out (.cells #[.int .i64 c, .int .i64 d] 25))
  replace HR := Lib.hid (HR.out.below (bAlloc (Below.refl _ _) (.cells #[.int .i64 c, .int .i64 d] 25)))
  replace XA := bkOf (bAlloc (Below.refl _ _) (.cells #[.int .i64 c, .int .i64 d] 25)) XA
  have XB : Bk ((u1.alloc (.cells #[.int .i64 a, .int .i64 b] 25)).alloc (.cells #[.int .i64 c, .int .i64 d] 25)) (u1.heap.size + 1) c d := by refine ⟨?_, ?_, ?_, ?_, ?_⟩ <;> go_simp
  go_upto_region 4 with fail
  generalize ((u1.alloc (.cells #[.int .i64 a, .int .i64 b] 25)).alloc (.cells #[.int .i64 c, .int .i64 d] 25)) = v1 at *
  generalize u1.heap.size = k1 at *
  obtain ⟨x, z, hs1, hi1, T1⟩ := two_facts a b c d y
  have S1 := Lib.hid hs1
  have I1 := Lib.hid hi1
  clear hs1 hi1
  have UXA := XA
  obtain ⟨iXA0, iXA1, iXA2, iXA3, iXA4⟩ := UXA
  have UXB := XB
  obtain ⟨iXB0, iXB1, iXB2, iXB3, iXB4⟩ := UXB
  go_wp2_with fail
  refine (I1.out _).mono ?_
  rintro e u2 ⟨rfl, hb2⟩
  clear iXA0 iXA1 iXA2 iXA3 iXA4
  clear iXB0 iXB1 iXB2 iXB3 iXB4
  replace XA := bkOf hb2 XA
  replace XB := bkOf hb2 XB
  have HB2 := Lib.hid (bTrans HB1.out hb2)
  have HR2 := Lib.hid (HR.out.below hb2)
  clear hb2 HB1
  clear HR
  have HR := HR2
  clear HR2
  have UXA := XA
  obtain ⟨iXA0, iXA1, iXA2, iXA3, iXA4⟩ := UXA
  have UXB := XB
  obtain ⟨iXB0, iXB1, iXB2, iXB3, iXB4⟩ := UXB
  go_wp2_with fail
  refine (S1.out _).mono ?_
  rintro e u3 ⟨rfl, hb3⟩
  clear iXA0 iXA1 iXA2 iXA3 iXA4
  clear iXB0 iXB1 iXB2 iXB3 iXB4
  replace XA := bkOf hb3 XA
  replace XB := bkOf hb3 XB
  have HB3 := Lib.hid (bTrans HB2.out hb3)
  have HR3 := Lib.hid (HR.out.below hb3)
  clear hb3 HB2
  clear HR
  have HR := HR3
  clear HR3
  go_wp2_with fail
  refine (DrawLitShare_any pa len cap cs _ HR.out).mono ?_
  rintro e u4 ⟨m, o, rfl, hb4⟩
  replace XA := bkOf hb4 XA
  replace XB := bkOf hb4 XB
  have HB4 := Lib.hid (bTrans HB3.out hb4)
  have HR4 := Lib.hid (HR.out.below hb4)
  clear hb4 HB3
  clear HR
  have HR := HR4
  clear HR4
  replace XA := bkOf (bAlloc (Below.refl _ _) (.cells #[.int .i64 m, .int .i64 o] 25)) XA
  replace XB := bkOf (bAlloc (Below.refl _ _) (.cells #[.int .i64 m, .int .i64 o] 25)) XB
  replace HB4 := Lib.hid (bAlloc HB4.out (.cells #[.int .i64 m, .int .i64 o] 25))
  replace HR := Lib.hid (HR.out.below (bAlloc (Below.refl _ _) (.cells #[.int .i64 m, .int .i64 o] 25)))
  have XC : Bk (u4.alloc (.cells #[.int .i64 m, .int .i64 o] 25)) (u4.heap.size) m o := by refine ⟨?_, ?_, ?_, ?_, ?_⟩ <;> go_simp
  go_upto_region 7 with fail
  generalize (u4.alloc (.cells #[.int .i64 m, .int .i64 o] 25)) = v4 at *
  generalize u4.heap.size = k4 at *
  obtain ⟨p, q, z2, hs1, hi1, T2⟩ := lit_facts m o
  have S2 := Lib.hid hs1
  have I2 := Lib.hid hi1
  clear hs1 hi1
  have UXC := XC
  obtain ⟨iXC0, iXC1, iXC2, iXC3, iXC4⟩ := UXC
  go_wp2_with fail
  refine (I2.out _).mono ?_
  rintro e u5 ⟨rfl, hb5⟩
  clear iXC0 iXC1 iXC2 iXC3 iXC4
  replace XA := bkOf hb5 XA
  replace XB := bkOf hb5 XB
  replace XC := bkOf hb5 XC
  have HB5 := Lib.hid (bTrans HB4.out hb5)
  have HR5 := Lib.hid (HR.out.below hb5)
  clear hb5 HB4
  clear HR
  have HR := HR5
  clear HR5
  replace XA := bkOf (bAlloc (Below.refl _ _) (.cells #[.int .i64 p, .int .i64 q] 27)) XA
  replace XB := bkOf (bAlloc (Below.refl _ _) (.cells #[.int .i64 p, .int .i64 q] 27)) XB
  replace XC := bkOf (bAlloc (Below.refl _ _) (.cells #[.int .i64 p, .int .i64 q] 27)) XC
  replace HB5 := Lib.hid (bAlloc HB5.out (.cells #[.int .i64 p, .int .i64 q] 27))
  replace HR := Lib.hid (HR.out.below (bAlloc (Below.refl _ _) (.cells #[.int .i64 p, .int .i64 q] 27)))
  have XF : Bk (u5.alloc (.cells #[.int .i64 p, .int .i64 q] 27)) (u5.heap.size) p q := by refine ⟨?_, ?_, ?_, ?_, ?_⟩ <;> go_simp
  go_upto_region 8 with fail
  generalize (u5.alloc (.cells #[.int .i64 p, .int .i64 q] 27)) = v5 at *
  generalize u5.heap.size = k5 at *
  have UXC := XC
  obtain ⟨iXC0, iXC1, iXC2, iXC3, iXC4⟩ := UXC
  go_wp2_with fail
  refine (S2.out _).mono ?_
  rintro e u6 ⟨rfl, hb6⟩
  clear iXC0 iXC1 iXC2 iXC3 iXC4
  replace XA := bkOf hb6 XA
  replace XB := bkOf hb6 XB
  replace XC := bkOf hb6 XC
  replace XF := bkOf hb6 XF
  have HB6 := Lib.hid (bTrans HB5.out hb6)
  have HR6 := Lib.hid (HR.out.below hb6)
  clear hb6 HB5
  clear HR
  have HR := HR6
  clear HR6
  replace XA := bkOf (bAlloc (Below.refl _ _) (.cells #[.int .i64 p, .int .i64 q] 27)) XA
  replace XB := bkOf (bAlloc (Below.refl _ _) (.cells #[.int .i64 p, .int .i64 q] 27)) XB
  replace XC := bkOf (bAlloc (Below.refl _ _) (.cells #[.int .i64 p, .int .i64 q] 27)) XC
  replace XF := bkOf (bAlloc (Below.refl _ _) (.cells #[.int .i64 p, .int .i64 q] 27)) XF
  replace HB6 := Lib.hid (bAlloc HB6.out (.cells #[.int .i64 p, .int .i64 q] 27))
  replace HR := Lib.hid (HR.out.below (bAlloc (Below.refl _ _) (.cells #[.int .i64 p, .int .i64 q] 27)))
  have XG : Bk (u6.alloc (.cells #[.int .i64 p, .int .i64 q] 27)) (u6.heap.size) p q := by refine ⟨?_, ?_, ?_, ?_, ?_⟩ <;> go_simp
  go_upto_region 9 with fail
  generalize (u6.alloc (.cells #[.int .i64 p, .int .i64 q] 27)) = v6 at *
  generalize u6.heap.size = k6 at *
  go_wp2_with fail
  refine (DrawLongestDark_any pa len cap cs _ HR.out).mono ?_
  rintro e u7 ⟨m2, o2, n, d2, rfl, ⟨-, -, hn, -⟩, hb7⟩
  replace XA := bkOf hb7 XA
  replace XB := bkOf hb7 XB
  replace XC := bkOf hb7 XC
  replace XF := bkOf hb7 XF
  replace XG := bkOf hb7 XG
  have HB7 := Lib.hid (bTrans HB6.out hb7)
  have HR7 := Lib.hid (HR.out.below hb7)
  clear hb7 HB6
  clear HR
  have HR := HR7
  clear HR7
  replace XA := bkOf (bAlloc (Below.refl _ _) (.cells #[.int .i64 m2, .int .i64 o2] 25)) XA
  replace XB := bkOf (bAlloc (Below.refl _ _) (.cells #[.int .i64 m2, .int .i64 o2] 25)) XB
  replace XC := bkOf (bAlloc (Below.refl _ _) (.cells #[.int .i64 m2, .int .i64 o2] 25)) XC
  replace XF := bkOf (bAlloc (Below.refl _ _) (.cells #[.int .i64 m2, .int .i64 o2] 25)) XF
  replace XG := bkOf (bAlloc (Below.refl _ _) (.cells #[.int .i64 m2, .int .i64 o2] 25)) XG
  replace HB7 := Lib.hid (bAlloc HB7.out (.cells #[.int .i64 m2, .int .i64 o2] 25))
  replace HR := Lib.hid (HR.out.below (bAlloc (Below.refl _ _) (.cells #[.int .i64 m2, .int .i64 o2] 25)))
  have XD : Bk (u7.alloc (.cells #[.int .i64 m2, .int .i64 o2] 25)) (u7.heap.size) m2 o2 := by refine ⟨?_, ?_, ?_, ?_, ?_⟩ <;> go_simp
  replace XA := bkOf (bAlloc (Below.refl _ _) (.cells #[.int .i64 n, .int .i64 d2] 27)) XA
  replace XB := bkOf (bAlloc (Below.refl _ _) (.cells #[.int .i64 n, .int .i64 d2] 27)) XB
  replace XC := bkOf (bAlloc (Below.refl _ _) (.cells #[.int .i64 n, .int .i64 d2] 27)) XC
  replace XF := bkOf (bAlloc (Below.refl _ _) (.cells #[.int .i64 n, .int .i64 d2] 27)) XF
  replace XG := bkOf (bAlloc (Below.refl _ _) (.cells #[.int .i64 n, .int .i64 d2] 27)) XG
  replace HB7 := Lib.hid (bAlloc HB7.out (.cells #[.int .i64 n, .int .i64 d2] 27))
  replace HR := Lib.hid (HR.out.below (bAlloc (Below.refl _ _) (.cells #[.int .i64 n, .int .i64 d2] 27)))
  replace XD := bkOf (bAlloc (Below.refl _ _) (.cells #[.int .i64 n, .int .i64 d2] 27)) XD
  have XR : Bk ((u7.alloc (.cells #[.int .i64 m2, .int .i64 o2] 25)).alloc (.cells #[.int .i64 n, .int .i64 d2] 27)) (u7.heap.size + 1) n d2 := by refine ⟨?_, ?_, ?_, ?_, ?_⟩ <;> go_simp
  go_upto_region 10 with fail
  generalize ((u7.alloc (.cells #[.int .i64 m2, .int .i64 o2] 25)).alloc (.cells #[.int .i64 n, .int .i64 d2] 27)) = v7 at *
  generalize u7.heap.size = k7 at *
  obtain ⟨p2, q2, z3, hs1, hi1, T3⟩ := dark_facts m2 o2 n d2 hn
  have S3 := Lib.hid hs1
  have I3 := Lib.hid hi1
  clear hs1 hi1
  have UXD := XD
  obtain ⟨iXD0, iXD1, iXD2, iXD3, iXD4⟩ := UXD
  have UXR := XR
  obtain ⟨iXR0, iXR1, iXR2, iXR3, iXR4⟩ := UXR
  go_wp2_with fail
  refine (I3.out _).mono ?_
  rintro e u8 ⟨rfl, hb8⟩
  clear iXD0 iXD1 iXD2 iXD3 iXD4
  clear iXR0 iXR1 iXR2 iXR3 iXR4
  replace XA := bkOf hb8 XA
  replace XB := bkOf hb8 XB
  replace XC := bkOf hb8 XC
  replace XF := bkOf hb8 XF
  replace XG := bkOf hb8 XG
  replace XD := bkOf hb8 XD
  replace XR := bkOf hb8 XR
  have HB8 := Lib.hid (bTrans HB7.out hb8)
  have HR8 := Lib.hid (HR.out.below hb8)
  clear hb8 HB7
  clear HR
  have HR := HR8
  clear HR8
  replace XA := bkOf (bAlloc (Below.refl _ _) (.cells #[.int .i64 p2, .int .i64 q2] 27)) XA
  replace XB := bkOf (bAlloc (Below.refl _ _) (.cells #[.int .i64 p2, .int .i64 q2] 27)) XB
  replace XC := bkOf (bAlloc (Below.refl _ _) (.cells #[.int .i64 p2, .int .i64 q2] 27)) XC
  replace XF := bkOf (bAlloc (Below.refl _ _) (.cells #[.int .i64 p2, .int .i64 q2] 27)) XF
  replace XG := bkOf (bAlloc (Below.refl _ _) (.cells #[.int .i64 p2, .int .i64 q2] 27)) XG
  replace XD := bkOf (bAlloc (Below.refl _ _) (.cells #[.int .i64 p2, .int .i64 q2] 27)) XD
  replace XR := bkOf (bAlloc (Below.refl _ _) (.cells #[.int .i64 p2, .int .i64 q2] 27)) XR
  replace HB8 := Lib.hid (bAlloc HB8.out (.cells #[.int .i64 p2, .int .i64 q2] 27))
  replace HR := Lib.hid (HR.out.below (bAlloc (Below.refl _ _) (.cells #[.int .i64 p2, .int .i64 q2] 27)))
  have XH : Bk (u8.alloc (.cells #[.int .i64 p2, .int .i64 q2] 27)) (u8.heap.size) p2 q2 := by refine ⟨?_, ?_, ?_, ?_, ?_⟩ <;> go_simp
  go_upto_region 11 with fail
  generalize (u8.alloc (.cells #[.int .i64 p2, .int .i64 q2] 27)) = v8 at *
  generalize u8.heap.size = k8 at *
  have UXD := XD
  obtain ⟨iXD0, iXD1, iXD2, iXD3, iXD4⟩ := UXD
  have UXR := XR
  obtain ⟨iXR0, iXR1, iXR2, iXR3, iXR4⟩ := UXR
  go_wp2_with fail
  refine (S3.out _).mono ?_
  rintro e u9 ⟨rfl, hb9⟩
  clear iXD0 iXD1 iXD2 iXD3 iXD4
  clear iXR0 iXR1 iXR2 iXR3 iXR4
  replace XA := bkOf hb9 XA
  replace XB := bkOf hb9 XB
  replace XC := bkOf hb9 XC
  replace XF := bkOf hb9 XF
  replace XG := bkOf hb9 XG
  replace XD := bkOf hb9 XD
  replace XR := bkOf hb9 XR
  replace XH := bkOf hb9 XH
  have HB9 := Lib.hid (bTrans HB8.out hb9)
  have HR9 := Lib.hid (HR.out.below hb9)
  clear hb9 HB8
  clear HR
  have HR := HR9
  clear HR9
  replace XA := bkOf (bAlloc (Below.refl _ _) (.cells #[.int .i64 p2, .int .i64 q2] 27)) XA
  replace XB := bkOf (bAlloc (Below.refl _ _) (.cells #[.int .i64 p2, .int .i64 q2] 27)) XB
  replace XC := bkOf (bAlloc (Below.refl _ _) (.cells #[.int .i64 p2, .int .i64 q2] 27)) XC
  replace XF := bkOf (bAlloc (Below.refl _ _) (.cells #[.int .i64 p2, .int .i64 q2] 27)) XF
  replace XG := bkOf (bAlloc (Below.refl _ _) (.cells #[.int .i64 p2, .int .i64 q2] 27)) XG
  replace XD := bkOf (bAlloc (Below.refl _ _) (.cells #[.int .i64 p2, .int .i64 q2] 27)) XD
  replace XR := bkOf (bAlloc (Below.refl _ _) (.cells #[.int .i64 p2, .int .i64 q2] 27)) XR
  replace XH := bkOf (bAlloc (Below.refl _ _) (.cells #[.int .i64 p2, .int .i64 q2] 27)) XH
  replace HB9 := Lib.hid (bAlloc HB9.out (.cells #[.int .i64 p2, .int .i64 q2] 27))
  replace HR := Lib.hid (HR.out.below (bAlloc (Below.refl _ _) (.cells #[.int .i64 p2, .int .i64 q2] 27)))
  have XI : Bk (u9.alloc (.cells #[.int .i64 p2, .int .i64 q2] 27)) (u9.heap.size) p2 q2 := by refine ⟨?_, ?_, ?_, ?_, ?_⟩ <;> go_simp
  go_upto_region 12 with fail
  generalize (u9.alloc (.cells #[.int .i64 p2, .int .i64 q2] 27)) = v9 at *
  generalize u9.heap.size = k9 at *
  clear XD XR
  go_wp2_with fail
  refine (DrawIsOpenAt_any pa len cap cs _ HR.out).mono ?_
  rintro e u10 ⟨m3, o3, p3, rfl, -, hb10⟩
  replace XA := bkOf hb10 XA
  replace XB := bkOf hb10 XB
  replace XC := bkOf hb10 XC
  replace XF := bkOf hb10 XF
  replace XG := bkOf hb10 XG
  replace XH := bkOf hb10 XH
  replace XI := bkOf hb10 XI
  have HB10 := Lib.hid (bTrans HB9.out hb10)
  have HR10 := Lib.hid (HR.out.below hb10)
  clear hb10 HB9
  clear HR
  have HR := HR10
  clear HR10
  replace XA := bkOf (bAlloc (Below.refl _ _) (.cells #[.int .i64 m3, .int .i64 o3] 25)) XA
  replace XB := bkOf (bAlloc (Below.refl _ _) (.cells #[.int .i64 m3, .int .i64 o3] 25)) XB
  replace XC := bkOf (bAlloc (Below.refl _ _) (.cells #[.int .i64 m3, .int .i64 o3] 25)) XC
  replace XF := bkOf (bAlloc (Below.refl _ _) (.cells #[.int .i64 m3, .int .i64 o3] 25)) XF
  replace XG := bkOf (bAlloc (Below.refl _ _) (.cells #[.int .i64 m3, .int .i64 o3] 25)) XG
  replace XH := bkOf (bAlloc (Below.refl _ _) (.cells #[.int .i64 m3, .int .i64 o3] 25)) XH
  replace XI := bkOf (bAlloc (Below.refl _ _) (.cells #[.int .i64 m3, .int .i64 o3] 25)) XI
  replace HB10 := Lib.hid (bAlloc HB10.out (.cells #[.int .i64 m3, .int .i64 o3] 25))
  replace HR := Lib.hid (HR.out.below (bAlloc (Below.refl _ _) (.cells #[.int .i64 m3, .int .i64 o3] 25)))
  have XE : Bk (u10.alloc (.cells #[.int .i64 m3, .int .i64 o3] 25)) (u10.heap.size) m3 o3 := by refine ⟨?_, ?_, ?_, ?_, ?_⟩ <;> go_simp
  go_upto_region 13 with fail
  generalize (u10.alloc (.cells #[.int .i64 m3, .int .i64 o3] 25)) = v10 at *
  generalize u10.heap.size = k10 at *
  obtain ⟨t, z4, hs1, hi1⟩ := open_facts m3 o3 p3
  have S4 := Lib.hid hs1
  have I4 := Lib.hid hi1
  clear hs1 hi1
  have UXE := XE
  obtain ⟨iXE0, iXE1, iXE2, iXE3, iXE4⟩ := UXE
  go_wp2_with fail
  refine (I4.out _).mono ?_
  rintro e u11 ⟨rfl, hb11⟩
  clear iXE0 iXE1 iXE2 iXE3 iXE4
  replace XA := bkOf hb11 XA
  replace XB := bkOf hb11 XB
  replace XC := bkOf hb11 XC
  replace XF := bkOf hb11 XF
  replace XG := bkOf hb11 XG
  replace XH := bkOf hb11 XH
  replace XI := bkOf hb11 XI
  replace XE := bkOf hb11 XE
  have HB11 := Lib.hid (bTrans HB10.out hb11)
  clear hb11 HB10
  have UXE := XE
  obtain ⟨iXE0, iXE1, iXE2, iXE3, iXE4⟩ := UXE
  go_wp2_with fail
  refine (S4.out _).mono ?_
  rintro e u12 ⟨rfl, hb12⟩
  clear iXE0 iXE1 iXE2 iXE3 iXE4
  replace XA := bkOf hb12 XA
  replace XB := bkOf hb12 XB
  replace XC := bkOf hb12 XC
  replace XF := bkOf hb12 XF
  replace XG := bkOf hb12 XG
  replace XH := bkOf hb12 XH
  replace XI := bkOf hb12 XI
  replace XE := bkOf hb12 XE
  have HB12 := Lib.hid (bTrans HB11.out hb12)
  clear hb12 HB11
  clear XE
  go_upto_region 15 with fail
  clear S1 I1 S2 I2 S3 I3 S4 I4 HR
  rcases T2 with T2 | ⟨rfl, hP, hq, h5, h6⟩ <;> rcases T3 with T3 | ⟨rfl, T3⟩ <;> rcases T1 with T1 | ⟨rfl, ⟨t0, t1, t2, t3⟩, ⟨t4, t5⟩, t6, t7⟩
  · have UXC := XC
    obtain ⟨iXC0, iXC1, iXC2, iXC3, iXC4⟩ := UXC
    have UXF := XF
    obtain ⟨iXF0, iXF1, iXF2, iXF3, iXF4⟩ := UXF
    have UXG := XG
    obtain ⟨iXG0, iXG1, iXG2, iXG3, iXG4⟩ := UXG
    have UXH := XH
    obtain ⟨iXH0, iXH1, iXH2, iXH3, iXH4⟩ := UXH
    have UXI := XI
    obtain ⟨iXI0, iXI1, iXI2, iXI3, iXI4⟩ := UXI
    have UXA := XA
    obtain ⟨iXA0, iXA1, iXA2, iXA3, iXA4⟩ := UXA
    have UXB := XB
    obtain ⟨iXB0, iXB1, iXB2, iXB3, iXB4⟩ := UXB
    go_wp2_with fail
    go_ret
    exact ⟨rfl, HB12.out⟩
  · have q4 : IntKind.i64.wrap (b + d) = b + d := IntWalk.i64_in _ (by omega)
    have q5 : IntKind.i64.wrap (b + d - 1000) = b + d - 1000 := IntWalk.i64_in _ (by omega)
    have q6 : x ≤ lo9 b d := by rw [lo9_eq]; omega
    have UXC := XC
    obtain ⟨iXC0, iXC1, iXC2, iXC3, iXC4⟩ := UXC
    have UXF := XF
    obtain ⟨iXF0, iXF1, iXF2, iXF3, iXF4⟩ := UXF
    have UXG := XG
    obtain ⟨iXG0, iXG1, iXG2, iXG3, iXG4⟩ := UXG
    have UXH := XH
    obtain ⟨iXH0, iXH1, iXH2, iXH3, iXH4⟩ := UXH
    have UXI := XI
    obtain ⟨iXI0, iXI1, iXI2, iXI3, iXI4⟩ := UXI
    have UXA := XA
    obtain ⟨iXA0, iXA1, iXA2, iXA3, iXA4⟩ := UXA
    have UXB := XB
    obtain ⟨iXB0, iXB1, iXB2, iXB3, iXB4⟩ := UXB
    go_wp2_with fail
    go_ret
    exact ⟨rfl, HB12.out⟩
  · have q3 : ¬ p2 < 0 := by omega
    have UXC := XC
    obtain ⟨iXC0, iXC1, iXC2, iXC3, iXC4⟩ := UXC
    have UXF := XF
    obtain ⟨iXF0, iXF1, iXF2, iXF3, iXF4⟩ := UXF
    have UXG := XG
    obtain ⟨iXG0, iXG1, iXG2, iXG3, iXG4⟩ := UXG
    have UXH := XH
    obtain ⟨iXH0, iXH1, iXH2, iXH3, iXH4⟩ := UXH
    have UXI := XI
    obtain ⟨iXI0, iXI1, iXI2, iXI3, iXI4⟩ := UXI
    have UXA := XA
    obtain ⟨iXA0, iXA1, iXA2, iXA3, iXA4⟩ := UXA
    have UXB := XB
    obtain ⟨iXB0, iXB1, iXB2, iXB3, iXB4⟩ := UXB
    go_wp2_with fail
    go_ret
    exact ⟨rfl, HB12.out⟩
  · have q3 : ¬ p2 < 0 := by omega
    have q4 : IntKind.i64.wrap (b + d) = b + d := IntWalk.i64_in _ (by omega)
    have q5 : IntKind.i64.wrap (b + d - 1000) = b + d - 1000 := IntWalk.i64_in _ (by omega)
    have q6 : x ≤ lo9 b d := by rw [lo9_eq]; omega
    have UXC := XC
    obtain ⟨iXC0, iXC1, iXC2, iXC3, iXC4⟩ := UXC
    have UXF := XF
    obtain ⟨iXF0, iXF1, iXF2, iXF3, iXF4⟩ := UXF
    have UXG := XG
    obtain ⟨iXG0, iXG1, iXG2, iXG3, iXG4⟩ := UXG
    have UXH := XH
    obtain ⟨iXH0, iXH1, iXH2, iXH3, iXH4⟩ := UXH
    have UXI := XI
    obtain ⟨iXI0, iXI1, iXI2, iXI3, iXI4⟩ := UXI
    have UXA := XA
    obtain ⟨iXA0, iXA1, iXA2, iXA3, iXA4⟩ := UXA
    have UXB := XB
    obtain ⟨iXB0, iXB1, iXB2, iXB3, iXB4⟩ := UXB
    go_wp2_with fail
    go_ret
    exact ⟨rfl, HB12.out⟩
  · have PP := Lib.hid hP
    clear hP
    have w1 : IntKind.i64.wrap (p * 1000) = p * 1000 := IntWalk.i64_in _ (by omega)
    have w2 : IntKind.i64.wrap (o * q) = o * q := IntWalk.i64_in _ (by omega)
    have w3 : o * q = p * 1000 := hq.symm
    clear hq
    have UXC := XC
    obtain ⟨iXC0, iXC1, iXC2, iXC3, iXC4⟩ := UXC
    have UXF := XF
    obtain ⟨iXF0, iXF1, iXF2, iXF3, iXF4⟩ := UXF
    have UXG := XG
    obtain ⟨iXG0, iXG1, iXG2, iXG3, iXG4⟩ := UXG
    have UXH := XH
    obtain ⟨iXH0, iXH1, iXH2, iXH3, iXH4⟩ := UXH
    have UXI := XI
    obtain ⟨iXI0, iXI1, iXI2, iXI3, iXI4⟩ := UXI
    have UXA := XA
    obtain ⟨iXA0, iXA1, iXA2, iXA3, iXA4⟩ := UXA
    have UXB := XB
    obtain ⟨iXB0, iXB1, iXB2, iXB3, iXB4⟩ := UXB
    go_wp2_with fail
    refine (PP.out _).mono ?_
    rintro e u13 ⟨rfl, hb13⟩
    clear iXC0 iXC1 iXC2 iXC3 iXC4
    clear iXF0 iXF1 iXF2 iXF3 iXF4
    clear iXG0 iXG1 iXG2 iXG3 iXG4
    clear iXH0 iXH1 iXH2 iXH3 iXH4
    clear iXI0 iXI1 iXI2 iXI3 iXI4
    clear iXA0 iXA1 iXA2 iXA3 iXA4
    clear iXB0 iXB1 iXB2 iXB3 iXB4
    replace XC := bkOf hb13 XC
    replace XG := bkOf hb13 XG
    replace XI := bkOf hb13 XI
    replace XA := bkOf hb13 XA
    replace XB := bkOf hb13 XB
    have HB13 := Lib.hid (bTrans HB12.out hb13)
    clear hb13
    have UXC := XC
    obtain ⟨iXC0, iXC1, iXC2, iXC3, iXC4⟩ := UXC
    have UXG := XG
    obtain ⟨iXG0, iXG1, iXG2, iXG3, iXG4⟩ := UXG
    have UXI := XI
    obtain ⟨iXI0, iXI1, iXI2, iXI3, iXI4⟩ := UXI
    have UXA := XA
    obtain ⟨iXA0, iXA1, iXA2, iXA3, iXA4⟩ := UXA
    have UXB := XB
    obtain ⟨iXB0, iXB1, iXB2, iXB3, iXB4⟩ := UXB
    go_wp2_with fail
    go_ret
    exact ⟨rfl, HB13.out⟩
  · have PP := Lib.hid hP
    clear hP
    have w1 : IntKind.i64.wrap (p * 1000) = p * 1000 := IntWalk.i64_in _ (by omega)
    have w2 : IntKind.i64.wrap (o * q) = o * q := IntWalk.i64_in _ (by omega)
    have w3 : o * q = p * 1000 := hq.symm
    clear hq
    have q4 : IntKind.i64.wrap (b + d) = b + d := IntWalk.i64_in _ (by omega)
    have q5 : IntKind.i64.wrap (b + d - 1000) = b + d - 1000 := IntWalk.i64_in _ (by omega)
    have q6 : x ≤ lo9 b d := by rw [lo9_eq]; omega
    have UXC := XC
    obtain ⟨iXC0, iXC1, iXC2, iXC3, iXC4⟩ := UXC
    have UXF := XF
    obtain ⟨iXF0, iXF1, iXF2, iXF3, iXF4⟩ := UXF
    have UXG := XG
    obtain ⟨iXG0, iXG1, iXG2, iXG3, iXG4⟩ := UXG
    have UXH := XH
    obtain ⟨iXH0, iXH1, iXH2, iXH3, iXH4⟩ := UXH
    have UXI := XI
    obtain ⟨iXI0, iXI1, iXI2, iXI3, iXI4⟩ := UXI
    have UXA := XA
    obtain ⟨iXA0, iXA1, iXA2, iXA3, iXA4⟩ := UXA
    have UXB := XB
    obtain ⟨iXB0, iXB1, iXB2, iXB3, iXB4⟩ := UXB
    go_wp2_with fail
    refine (PP.out _).mono ?_
    rintro e u13 ⟨rfl, hb13⟩
    clear iXC0 iXC1 iXC2 iXC3 iXC4
    clear iXF0 iXF1 iXF2 iXF3 iXF4
    clear iXG0 iXG1 iXG2 iXG3 iXG4
    clear iXH0 iXH1 iXH2 iXH3 iXH4
    clear iXI0 iXI1 iXI2 iXI3 iXI4
    clear iXA0 iXA1 iXA2 iXA3 iXA4
    clear iXB0 iXB1 iXB2 iXB3 iXB4
    replace XC := bkOf hb13 XC
    replace XG := bkOf hb13 XG
    replace XI := bkOf hb13 XI
    replace XA := bkOf hb13 XA
    replace XB := bkOf hb13 XB
    have HB13 := Lib.hid (bTrans HB12.out hb13)
    clear hb13
    have UXC := XC
    obtain ⟨iXC0, iXC1, iXC2, iXC3, iXC4⟩ := UXC
    have UXG := XG
    obtain ⟨iXG0, iXG1, iXG2, iXG3, iXG4⟩ := UXG
    have UXI := XI
    obtain ⟨iXI0, iXI1, iXI2, iXI3, iXI4⟩ := UXI
    have UXA := XA
    obtain ⟨iXA0, iXA1, iXA2, iXA3, iXA4⟩ := UXA
    have UXB := XB
    obtain ⟨iXB0, iXB1, iXB2, iXB3, iXB4⟩ := UXB
    go_wp2_with fail
    go_ret
    exact ⟨rfl, HB13.out⟩
  · have PP := Lib.hid hP
    clear hP
    have w1 : IntKind.i64.wrap (p * 1000) = p * 1000 := IntWalk.i64_in _ (by omega)
    have w2 : IntKind.i64.wrap (o * q) = o * q := IntWalk.i64_in _ (by omega)
    have w3 : o * q = p * 1000 := hq.symm
    clear hq
    have q3 : ¬ p2 < 0 := by omega
    have UXC := XC
    obtain ⟨iXC0, iXC1, iXC2, iXC3, iXC4⟩ := UXC
    have UXF := XF
    obtain ⟨iXF0, iXF1, iXF2, iXF3, iXF4⟩ := UXF
    have UXG := XG
    obtain ⟨iXG0, iXG1, iXG2, iXG3, iXG4⟩ := UXG
    have UXH := XH
    obtain ⟨iXH0, iXH1, iXH2, iXH3, iXH4⟩ := UXH
    have UXI := XI
    obtain ⟨iXI0, iXI1, iXI2, iXI3, iXI4⟩ := UXI
    have UXA := XA
    obtain ⟨iXA0, iXA1, iXA2, iXA3, iXA4⟩ := UXA
    have UXB := XB
    obtain ⟨iXB0, iXB1, iXB2, iXB3, iXB4⟩ := UXB
    go_wp2_with fail
    refine (PP.out _).mono ?_
    rintro e u13 ⟨rfl, hb13⟩
    clear iXC0 iXC1 iXC2 iXC3 iXC4
    clear iXF0 iXF1 iXF2 iXF3 iXF4
    clear iXG0 iXG1 iXG2 iXG3 iXG4
    clear iXH0 iXH1 iXH2 iXH3 iXH4
    clear iXI0 iXI1 iXI2 iXI3 iXI4
    clear iXA0 iXA1 iXA2 iXA3 iXA4
    clear iXB0 iXB1 iXB2 iXB3 iXB4
    replace XC := bkOf hb13 XC
    replace XG := bkOf hb13 XG
    replace XI := bkOf hb13 XI
    replace XA := bkOf hb13 XA
    replace XB := bkOf hb13 XB
    have HB13 := Lib.hid (bTrans HB12.out hb13)
    clear hb13
    have UXC := XC
    obtain ⟨iXC0, iXC1, iXC2, iXC3, iXC4⟩ := UXC
    have UXG := XG
    obtain ⟨iXG0, iXG1, iXG2, iXG3, iXG4⟩ := UXG
    have UXI := XI
    obtain ⟨iXI0, iXI1, iXI2, iXI3, iXI4⟩ := UXI
    have UXA := XA
    obtain ⟨iXA0, iXA1, iXA2, iXA3, iXA4⟩ := UXA
    have UXB := XB
    obtain ⟨iXB0, iXB1, iXB2, iXB3, iXB4⟩ := UXB
    go_wp2_with fail
    go_ret
    exact ⟨rfl, HB13.out⟩
  · have PP := Lib.hid hP
    clear hP
    have w1 : IntKind.i64.wrap (p * 1000) = p * 1000 := IntWalk.i64_in _ (by omega)
    have w2 : IntKind.i64.wrap (o * q) = o * q := IntWalk.i64_in _ (by omega)
    have w3 : o * q = p * 1000 := hq.symm
    clear hq
    have q3 : ¬ p2 < 0 := by omega
    have q4 : IntKind.i64.wrap (b + d) = b + d := IntWalk.i64_in _ (by omega)
    have q5 : IntKind.i64.wrap (b + d - 1000) = b + d - 1000 := IntWalk.i64_in _ (by omega)
    have q6 : x ≤ lo9 b d := by rw [lo9_eq]; omega
    have UXC := XC
    obtain ⟨iXC0, iXC1, iXC2, iXC3, iXC4⟩ := UXC
    have UXF := XF
    obtain ⟨iXF0, iXF1, iXF2, iXF3, iXF4⟩ := UXF
    have UXG := XG
    obtain ⟨iXG0, iXG1, iXG2, iXG3, iXG4⟩ := UXG
    have UXH := XH
    obtain ⟨iXH0, iXH1, iXH2, iXH3, iXH4⟩ := UXH
    have UXI := XI
    obtain ⟨iXI0, iXI1, iXI2, iXI3, iXI4⟩ := UXI
    have UXA := XA
    obtain ⟨iXA0, iXA1, iXA2, iXA3, iXA4⟩ := UXA
    have UXB := XB
    obtain ⟨iXB0, iXB1, iXB2, iXB3, iXB4⟩ := UXB
    go_wp2_with fail
    refine (PP.out _).mono ?_
    rintro e u13 ⟨rfl, hb13⟩
    clear iXC0 iXC1 iXC2 iXC3 iXC4
    clear iXF0 iXF1 iXF2 iXF3 iXF4
    clear iXG0 iXG1 iXG2 iXG3 iXG4
    clear iXH0 iXH1 iXH2 iXH3 iXH4
    clear iXI0 iXI1 iXI2 iXI3 iXI4
    clear iXA0 iXA1 iXA2 iXA3 iXA4
    clear iXB0 iXB1 iXB2 iXB3 iXB4
    replace XC := bkOf hb13 XC
    replace XG := bkOf hb13 XG
    replace XI := bkOf hb13 XI
    replace XA := bkOf hb13 XA
    replace XB := bkOf hb13 XB
    have HB13 := Lib.hid (bTrans HB12.out hb13)
    clear hb13
    have UXC := XC
    obtain ⟨iXC0, iXC1, iXC2, iXC3, iXC4⟩ := UXC
    have UXG := XG
    obtain ⟨iXG0, iXG1, iXG2, iXG3, iXG4⟩ := UXG
    have UXI := XI
    obtain ⟨iXI0, iXI1, iXI2, iXI3, iXI4⟩ := UXI
    have UXA := XA
    obtain ⟨iXA0, iXA1, iXA2, iXA3, iXA4⟩ := UXA
    have UXB := XB
    obtain ⟨iXB0, iXB1, iXB2, iXB3, iXB4⟩ := UXB
    go_wp2_with fail
    go_ret
    exact ⟨rfl, HB13.out⟩

set_option maxRecDepth 100000 in
/-- laws.FnWheelsOfLight. -/
theorem law_FnWheelsOfLight (a : Option Addr) (len cap : Nat) (cs : List Int) (w : World) (hr : Row w a len cap cs) :
    Calls Try.prog 4 #[.slice a len cap] w fun e w' => e = .returned (.bool true) ∧ Below w.heap.size w w' := by
  by_cases h : 4096 < (len : Int)
  · have hz := decide_eq_true h
    go_enter Try.func4, Try.ntmps4
    go_wp2_with fail
    refine (f6bigO_any _ _ _ _).mono ?_
    rintro e u0 ⟨rfl, rfl⟩
    rw [hz]
    go_wp2_with fail
    go_ret
    exact ⟨rfl, Below.refl _ _⟩
  · exact lawFnWheels_ok a len cap cs w hr h

end Go.Proofs.Ytflgjohknjgdcaa
