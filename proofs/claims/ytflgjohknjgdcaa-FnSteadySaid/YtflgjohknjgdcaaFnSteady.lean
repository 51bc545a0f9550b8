/- The statement on steady wheels: its own walk. -/
import Derived.Test.YtflgjohknjgdcaaProg
import Derived.Test.YtflgjohknjgdcaaSteadyF
import Derived.Test.YtflgjohknjgdcaaOpenDraw
import Derived.Test.YtflgjohknjgdcaaFnOffsets
import Derived.Test.YtflgjohknjgdcaaBldLaws1
import Derived.Laws.Cover1
import Derived.Deep.RegionWith
import Derived.Deep.DrawnRows
import Derived.Deep.RegionHeld3
import Derived.Deep.DeepCutAuto
import Derived.Laws.StructEq
import Derived.Tactics
import Derived.Tactics2
import Derived.WalkKit
import Derived.LoopTactic
import Derived.BigQuiet
import Derived.RegionTactic
import Derived.Deep.QuietTactic
import Derived.Outline
import Derived.Lib.Hide
import Derived.Below
import Derived.KernelRfl
namespace Go.Proofs.Ytflgjohknjgdcaa
set_option linter.unusedSimpArgs false
set_option linter.unusedVariables false
open Go.RowKit

set_option maxHeartbeats 16000000 in
set_option maxRecDepth 100000 in
theorem lawFnSteady_ok (pa : Option Addr) (len cap : Nat) (cs : List Int) (w : World) (hr : Row w pa len cap cs) (hlen : ¬ 4096 < (len : Int)) :
    Calls Try.prog 3 #[.slice pa len cap] w fun e w' => e = .returned (.bool true) ∧ Below w.heap.size w w' := by
  have HR := Lib.hid hr
  have HB0 := Lib.hid (Below.refl w.heap.size w)
  have hz := decide_eq_false hlen
  clear hr
  go_enter Try.func3, Try.ntmps3
  go_wp2_with fail
  refine (f6bigO_any _ _ _ _).mono ?_
  rintro e u0 ⟨rfl, rfl⟩
  rw [hz]
  clear hz
  go_wp2_with fail
  refine (DrawIsSteady_any pa len cap cs _ HR.out).mono ?_
  rintro e u1 ⟨m, o, n, d, l, rfl, ⟨-, -, hn, -, hl⟩, hb1⟩
  have HB1 := Lib.hid (bTrans HB0.out hb1)
  have HR1 := Lib.hid (HR.out.below hb1)
  clear hb1 HB0
  clear HR
  have HR := HR1
  clear HR1
  replace HB1 := Lib.hid (bAlloc HB1.out (.cells #[.int .i64 m, .int .i64 o] 25))
  replace HR := Lib.hid (HR.out.below (bAlloc (Below.refl _ _) (.cells #[.int .i64 m, .int .i64 o] 25)))
  have XB : Bk (u1.alloc (.cells #[.int .i64 m, .int .i64 o] 25)) (u1.heap.size) m o := by refine ⟨?_, ?_, ?_, ?_, ?_⟩ <;> go_simp
  replace HB1 := Lib.hid (bAlloc HB1.out (.cells #[.int .i64 n, .int .i64 d] 27))
  replace HR := Lib.hid (HR.out.below (bAlloc (Below.refl _ _) (.cells #[.int .i64 n, .int .i64 d] 27)))
  replace XB := bkOf (bAlloc (Below.refl _ _) (.cells #[.int .i64 n, .int .i64 d] 27)) XB
  have XR : Bk ((u1.alloc (.cells #[.int .i64 m, .int .i64 o] 25)).alloc (.cells #[.int .i64 n, .int .i64 d] 27)) (u1.heap.size + 1) n d := by refine ⟨?_, ?_, ?_, ?_, ?_⟩ <;> go_simp
  go_upto_region 4 with fail
  generalize ((u1.alloc (.cells #[.int .i64 m, .int .i64 o] 25)).alloc (.cells #[.int .i64 n, .int .i64 d] 27)) = v1 at *
  generalize u1.heap.size = k1 at *
  obtain ⟨t, z, p, q, z5, hs1, hi1, hs5, hi5, T1⟩ := steady_facts m o n d l hn
  have HT1 := Lib.hid T1
  clear T1
  have S1 := Lib.hid hs1
  have I1 := Lib.hid hi1
  clear hs1 hi1
  have S5 := Lib.hid hs5
  have I5 := Lib.hid hi5
  clear hs5 hi5
  have UXB := XB
  obtain ⟨iXB0, iXB1, iXB2, iXB3, iXB4⟩ := UXB
  have UXR := XR
  obtain ⟨iXR0, iXR1, iXR2, iXR3, iXR4⟩ := UXR
  go_wp2_with fail
  refine (I1.out _).mono ?_
  rintro e u2 ⟨rfl, hb2⟩
  clear iXB0 iXB1 iXB2 iXB3 iXB4
  clear iXR0 iXR1 iXR2 iXR3 iXR4
  replace XB := bkOf hb2 XB
  replace XR := bkOf hb2 XR
  have HB2 := Lib.hid (bTrans HB1.out hb2)
  have HR2 := Lib.hid (HR.out.below hb2)
  clear hb2 HB1
  clear HR
  have HR := HR2
  clear HR2
  have UXB := XB
  obtain ⟨iXB0, iXB1, iXB2, iXB3, iXB4⟩ := UXB
  have UXR := XR
  obtain ⟨iXR0, iXR1, iXR2, iXR3, iXR4⟩ := UXR
  go_wp2_with fail
  refine (S1.out _).mono ?_
  rintro e u3 ⟨rfl, hb3⟩
  clear iXB0 iXB1 iXB2 iXB3 iXB4
  clear iXR0 iXR1 iXR2 iXR3 iXR4
  replace XB := bkOf hb3 XB
  replace XR := bkOf hb3 XR
  have HB3 := Lib.hid (bTrans HB2.out hb3)
  have HR3 := Lib.hid (HR.out.below hb3)
  clear hb3 HB2
  clear HR
  have HR := HR3
  clear HR3
  go_wp2_with fail
  refine (DrawFewestBlades_any pa len cap cs _ HR.out).mono ?_
  rintro e u4 ⟨n2, d2, l2, rfl, ⟨hn2, -, -⟩, hb4⟩
  replace XB := bkOf hb4 XB
  replace XR := bkOf hb4 XR
  have HB4 := Lib.hid (bTrans HB3.out hb4)
  have HR4 := Lib.hid (HR.out.below hb4)
  clear hb4 HB3
  clear HR
  have HR := HR4
  clear HR4
  replace XB := bkOf (bAlloc (Below.refl _ _) (.cells #[.int .i64 n2, .int .i64 d2] 27)) XB
  replace XR := bkOf (bAlloc (Below.refl _ _) (.cells #[.int .i64 n2, .int .i64 d2] 27)) XR
  replace HB4 := Lib.hid (bAlloc HB4.out (.cells #[.int .i64 n2, .int .i64 d2] 27))
  replace HR := Lib.hid (HR.out.below (bAlloc (Below.refl _ _) (.cells #[.int .i64 n2, .int .i64 d2] 27)))
  have XA : Bk (u4.alloc (.cells #[.int .i64 n2, .int .i64 d2] 27)) (u4.heap.size) n2 d2 := by refine ⟨?_, ?_, ?_, ?_, ?_⟩ <;> go_simp
  go_upto_region 7 with fail
  generalize (u4.alloc (.cells #[.int .i64 n2, .int .i64 d2] 27)) = v4 at *
  generalize u4.heap.size = k4 at *
  obtain ⟨f, z2, hs1, hi1, T2⟩ := few_facts n2 d2 l2 hn2
  have HT2 := Lib.hid T2
  clear T2
  have S2 := Lib.hid hs1
  have I2 := Lib.hid hi1
  clear hs1 hi1
  have UXA := XA
  obtain ⟨iXA0, iXA1, iXA2, iXA3, iXA4⟩ := UXA
  go_wp2_with fail
  refine (I2.out _).mono ?_
  rintro e u5 ⟨rfl, hb5⟩
  clear iXA0 iXA1 iXA2 iXA3 iXA4
  replace XB := bkOf hb5 XB
  replace XR := bkOf hb5 XR
  replace XA := bkOf hb5 XA
  have HB5 := Lib.hid (bTrans HB4.out hb5)
  have HR5 := Lib.hid (HR.out.below hb5)
  clear hb5 HB4
  clear HR
  have HR := HR5
  clear HR5
  have UXA := XA
  obtain ⟨iXA0, iXA1, iXA2, iXA3, iXA4⟩ := UXA
  go_wp2_with fail
  refine (S2.out _).mono ?_
  rintro e u6 ⟨rfl, hb6⟩
  clear iXA0 iXA1 iXA2 iXA3 iXA4
  replace XB := bkOf hb6 XB
  replace XR := bkOf hb6 XR
  replace XA := bkOf hb6 XA
  have HB6 := Lib.hid (bTrans HB5.out hb6)
  have HR6 := Lib.hid (HR.out.below hb6)
  clear hb6 HB5
  clear HR
  have HR := HR6
  clear HR6
  go_wp2_with fail
  refine (DrawSlowestSteady_any pa len cap cs _ HR.out).mono ?_
  rintro e u7 ⟨m3, o3, l3, rfl, -, hb7⟩
  replace XB := bkOf hb7 XB
  replace XR := bkOf hb7 XR
  replace XA := bkOf hb7 XA
  have HB7 := Lib.hid (bTrans HB6.out hb7)
  have HR7 := Lib.hid (HR.out.below hb7)
  clear hb7 HB6
  clear HR
  have HR := HR7
  clear HR7
  replace XB := bkOf (bAlloc (Below.refl _ _) (.cells #[.int .i64 m3, .int .i64 o3] 25)) XB
  replace XR := bkOf (bAlloc (Below.refl _ _) (.cells #[.int .i64 m3, .int .i64 o3] 25)) XR
  replace XA := bkOf (bAlloc (Below.refl _ _) (.cells #[.int .i64 m3, .int .i64 o3] 25)) XA
  replace HB7 := Lib.hid (bAlloc HB7.out (.cells #[.int .i64 m3, .int .i64 o3] 25))
  replace HR := Lib.hid (HR.out.below (bAlloc (Below.refl _ _) (.cells #[.int .i64 m3, .int .i64 o3] 25)))
  have XC : Bk (u7.alloc (.cells #[.int .i64 m3, .int .i64 o3] 25)) (u7.heap.size) m3 o3 := by refine ⟨?_, ?_, ?_, ?_, ?_⟩ <;> go_simp
  go_upto_region 10 with fail
  generalize (u7.alloc (.cells #[.int .i64 m3, .int .i64 o3] 25)) = v7 at *
  generalize u7.heap.size = k7 at *
  obtain ⟨p3, q3, z3, hs1, hi1, T3⟩ := slow_facts m3 o3 l3
  have HT3 := Lib.hid T3
  clear T3
  have S3 := Lib.hid hs1
  have I3 := Lib.hid hi1
  clear hs1 hi1
  have UXC := XC
  obtain ⟨iXC0, iXC1, iXC2, iXC3, iXC4⟩ := UXC
  go_wp2_with fail
  refine (I3.out _).mono ?_
  rintro e u8 ⟨rfl, hb8⟩
  clear iXC0 iXC1 iXC2 iXC3 iXC4
  replace XB := bkOf hb8 XB
  replace XR := bkOf hb8 XR
  replace XA := bkOf hb8 XA
  replace XC := bkOf hb8 XC
  have HB8 := Lib.hid (bTrans HB7.out hb8)
  have HR8 := Lib.hid (HR.out.below hb8)
  clear hb8 HB7
  clear HR
  have HR := HR8
  clear HR8
  replace XB := bkOf (bAlloc (Below.refl _ _) (.cells #[.int .i64 p3, .int .i64 q3] 27)) XB
  replace XR := bkOf (bAlloc (Below.refl _ _) (.cells #[.int .i64 p3, .int .i64 q3] 27)) XR
  replace XA := bkOf (bAlloc (Below.refl _ _) (.cells #[.int .i64 p3, .int .i64 q3] 27)) XA
  replace XC := bkOf (bAlloc (Below.refl _ _) (.cells #[.int .i64 p3, .int .i64 q3] 27)) XC
  replace HB8 := Lib.hid (bAlloc HB8.out (.cells #[.int .i64 p3, .int .i64 q3] 27))
  replace HR := Lib.hid (HR.out.below (bAlloc (Below.refl _ _) (.cells #[.int .i64 p3, .int .i64 q3] 27)))
  have XF : Bk (u8.alloc (.cells #[.int .i64 p3, .int .i64 q3] 27)) (u8.heap.size) p3 q3 := by refine ⟨?_, ?_, ?_, ?_, ?_⟩ <;> go_simp
  go_upto_region 11 with fail
  generalize (u8.alloc (.cells #[.int .i64 p3, .int .i64 q3] 27)) = v8 at *
  generalize u8.heap.size = k8 at *
  have UXC := XC
  obtain ⟨iXC0, iXC1, iXC2, iXC3, iXC4⟩ := UXC
  go_wp2_with fail
  refine (S3.out _).mono ?_
  rintro e u9 ⟨rfl, hb9⟩
  clear iXC0 iXC1 iXC2 iXC3 iXC4
  replace XB := bkOf hb9 XB
  replace XR := bkOf hb9 XR
  replace XA := bkOf hb9 XA
  replace XC := bkOf hb9 XC
  replace XF := bkOf hb9 XF
  have HB9 := Lib.hid (bTrans HB8.out hb9)
  have HR9 := Lib.hid (HR.out.below hb9)
  clear hb9 HB8
  clear HR
  have HR := HR9
  clear HR9
  replace XB := bkOf (bAlloc (Below.refl _ _) (.cells #[.int .i64 p3, .int .i64 q3] 27)) XB
  replace XR := bkOf (bAlloc (Below.refl _ _) (.cells #[.int .i64 p3, .int .i64 q3] 27)) XR
  replace XA := bkOf (bAlloc (Below.refl _ _) (.cells #[.int .i64 p3, .int .i64 q3] 27)) XA
  replace XC := bkOf (bAlloc (Below.refl _ _) (.cells #[.int .i64 p3, .int .i64 q3] 27)) XC
  replace XF := bkOf (bAlloc (Below.refl _ _) (.cells #[.int .i64 p3, .int .i64 q3] 27)) XF
  replace HB9 := Lib.hid (bAlloc HB9.out (.cells #[.int .i64 p3, .int .i64 q3] 27))
  replace HR := Lib.hid (HR.out.below (bAlloc (Below.refl _ _) (.cells #[.int .i64 p3, .int .i64 q3] 27)))
  have XG : Bk (u9.alloc (.cells #[.int .i64 p3, .int .i64 q3] 27)) (u9.heap.size) p3 q3 := by refine ⟨?_, ?_, ?_, ?_, ?_⟩ <;> go_simp
  go_upto_region 12 with fail
  generalize (u9.alloc (.cells #[.int .i64 p3, .int .i64 q3] 27)) = v9 at *
  generalize u9.heap.size = k9 at *
  go_wp2_with fail
  refine (DrawOpenParts_any pa len cap cs _ HR.out).mono ?_
  rintro e u10 ⟨m4, o4, p4, q4, rfl, -, hb10⟩
  replace XB := bkOf hb10 XB
  replace XR := bkOf hb10 XR
  replace XA := bkOf hb10 XA
  replace XC := bkOf hb10 XC
  replace XF := bkOf hb10 XF
  replace XG := bkOf hb10 XG
  have HB10 := Lib.hid (bTrans HB9.out hb10)
  have HR10 := Lib.hid (HR.out.below hb10)
  clear hb10 HB9
  clear HR
  have HR := HR10
  clear HR10
  replace XB := bkOf (bAlloc (Below.refl _ _) (.cells #[.int .i64 m4, .int .i64 o4] 25)) XB
  replace XR := bkOf (bAlloc (Below.refl _ _) (.cells #[.int .i64 m4, .int .i64 o4] 25)) XR
  replace XA := bkOf (bAlloc (Below.refl _ _) (.cells #[.int .i64 m4, .int .i64 o4] 25)) XA
  replace XC := bkOf (bAlloc (Below.refl _ _) (.cells #[.int .i64 m4, .int .i64 o4] 25)) XC
  replace XF := bkOf (bAlloc (Below.refl _ _) (.cells #[.int .i64 m4, .int .i64 o4] 25)) XF
  replace XG := bkOf (bAlloc (Below.refl _ _) (.cells #[.int .i64 m4, .int .i64 o4] 25)) XG
  replace HB10 := Lib.hid (bAlloc HB10.out (.cells #[.int .i64 m4, .int .i64 o4] 25))
  replace HR := Lib.hid (HR.out.below (bAlloc (Below.refl _ _) (.cells #[.int .i64 m4, .int .i64 o4] 25)))
  have XD : Bk (u10.alloc (.cells #[.int .i64 m4, .int .i64 o4] 25)) (u10.heap.size) m4 o4 := by refine ⟨?_, ?_, ?_, ?_, ?_⟩ <;> go_simp
  go_upto_region 13 with fail
  generalize (u10.alloc (.cells #[.int .i64 m4, .int .i64 o4] 25)) = v10 at *
  generalize u10.heap.size = k10 at *
  obtain ⟨x, z4, hs1, hi1, T4⟩ := parts_facts m4 o4 p4 q4
  have HT4 := Lib.hid T4
  clear T4
  have S4 := Lib.hid hs1
  have I4 := Lib.hid hi1
  clear hs1 hi1
  have UXD := XD
  obtain ⟨iXD0, iXD1, iXD2, iXD3, iXD4⟩ := UXD
  go_wp2_with fail
  refine (I4.out _).mono ?_
  rintro e u11 ⟨rfl, hb11⟩
  clear iXD0 iXD1 iXD2 iXD3 iXD4
  replace XB := bkOf hb11 XB
  replace XR := bkOf hb11 XR
  replace XA := bkOf hb11 XA
  replace XC := bkOf hb11 XC
  replace XF := bkOf hb11 XF
  replace XG := bkOf hb11 XG
  replace XD := bkOf hb11 XD
  have HB11 := Lib.hid (bTrans HB10.out hb11)
  have HR11 := Lib.hid (HR.out.below hb11)
  clear hb11 HB10
  clear HR
  have HR := HR11
  clear HR11
  have UXD := XD
  obtain ⟨iXD0, iXD1, iXD2, iXD3, iXD4⟩ := UXD
  go_wp2_with fail
  refine (S4.out _).mono ?_
  rintro e u12 ⟨rfl, hb12⟩
  clear iXD0 iXD1 iXD2 iXD3 iXD4
  replace XB := bkOf hb12 XB
  replace XR := bkOf hb12 XR
  replace XA := bkOf hb12 XA
  replace XC := bkOf hb12 XC
  replace XF := bkOf hb12 XF
  replace XG := bkOf hb12 XG
  replace XD := bkOf hb12 XD
  have HB12 := Lib.hid (bTrans HB11.out hb12)
  have HR12 := Lib.hid (HR.out.below hb12)
  clear hb12 HB11
  clear HR
  have HR := HR12
  clear HR12
  have UXB := XB
  obtain ⟨iXB0, iXB1, iXB2, iXB3, iXB4⟩ := UXB
  have UXR := XR
  obtain ⟨iXR0, iXR1, iXR2, iXR3, iXR4⟩ := UXR
  go_wp2_with fail
  refine (I5.out _).mono ?_
  rintro e u13 ⟨rfl, hb13⟩
  clear iXB0 iXB1 iXB2 iXB3 iXB4
  clear iXR0 iXR1 iXR2 iXR3 iXR4
  replace XB := bkOf hb13 XB
  replace XR := bkOf hb13 XR
  replace XA := bkOf hb13 XA
  replace XC := bkOf hb13 XC
  replace XF := bkOf hb13 XF
  replace XG := bkOf hb13 XG
  replace XD := bkOf hb13 XD
  have HB13 := Lib.hid (bTrans HB12.out hb13)
  have HR13 := Lib.hid (HR.out.below hb13)
  clear hb13 HB12
  clear HR
  have HR := HR13
  clear HR13
  replace XB := bkOf (bAlloc (Below.refl _ _) (.cells #[.int .i64 p, .int .i64 q] 27)) XB
  replace XR := bkOf (bAlloc (Below.refl _ _) (.cells #[.int .i64 p, .int .i64 q] 27)) XR
  replace XA := bkOf (bAlloc (Below.refl _ _) (.cells #[.int .i64 p, .int .i64 q] 27)) XA
  replace XC := bkOf (bAlloc (Below.refl _ _) (.cells #[.int .i64 p, .int .i64 q] 27)) XC
  replace XF := bkOf (bAlloc (Below.refl _ _) (.cells #[.int .i64 p, .int .i64 q] 27)) XF
  replace XG := bkOf (bAlloc (Below.refl _ _) (.cells #[.int .i64 p, .int .i64 q] 27)) XG
  replace XD := bkOf (bAlloc (Below.refl _ _) (.cells #[.int .i64 p, .int .i64 q] 27)) XD
  replace HB13 := Lib.hid (bAlloc HB13.out (.cells #[.int .i64 p, .int .i64 q] 27))
  replace HR := Lib.hid (HR.out.below (bAlloc (Below.refl _ _) (.cells #[.int .i64 p, .int .i64 q] 27)))
  have XH : Bk (u13.alloc (.cells #[.int .i64 p, .int .i64 q] 27)) (u13.heap.size) p q := by refine ⟨?_, ?_, ?_, ?_, ?_⟩ <;> go_simp
  go_upto_region 16 with fail
  generalize (u13.alloc (.cells #[.int .i64 p, .int .i64 q] 27)) = v13 at *
  generalize u13.heap.size = k13 at *
  have UXB := XB
  obtain ⟨iXB0, iXB1, iXB2, iXB3, iXB4⟩ := UXB
  have UXR := XR
  obtain ⟨iXR0, iXR1, iXR2, iXR3, iXR4⟩ := UXR
  go_wp2_with fail
  refine (S5.out _).mono ?_
  rintro e u14 ⟨rfl, hb14⟩
  clear iXB0 iXB1 iXB2 iXB3 iXB4
  clear iXR0 iXR1 iXR2 iXR3 iXR4
  replace XB := bkOf hb14 XB
  replace XR := bkOf hb14 XR
  replace XA := bkOf hb14 XA
  replace XC := bkOf hb14 XC
  replace XF := bkOf hb14 XF
  replace XG := bkOf hb14 XG
  replace XD := bkOf hb14 XD
  replace XH := bkOf hb14 XH
  have HB14 := Lib.hid (bTrans HB13.out hb14)
  have HR14 := Lib.hid (HR.out.below hb14)
  clear hb14 HB13
  clear HR
  have HR := HR14
  clear HR14
  replace XB := bkOf (bAlloc (Below.refl _ _) (.cells #[.int .i64 p, .int .i64 q] 27)) XB
  replace XR := bkOf (bAlloc (Below.refl _ _) (.cells #[.int .i64 p, .int .i64 q] 27)) XR
  replace XA := bkOf (bAlloc (Below.refl _ _) (.cells #[.int .i64 p, .int .i64 q] 27)) XA
  replace XC := bkOf (bAlloc (Below.refl _ _) (.cells #[.int .i64 p, .int .i64 q] 27)) XC
  replace XF := bkOf (bAlloc (Below.refl _ _) (.cells #[.int .i64 p, .int .i64 q] 27)) XF
  replace XG := bkOf (bAlloc (Below.refl _ _) (.cells #[.int .i64 p, .int .i64 q] 27)) XG
  replace XD := bkOf (bAlloc (Below.refl _ _) (.cells #[.int .i64 p, .int .i64 q] 27)) XD
  replace XH := bkOf (bAlloc (Below.refl _ _) (.cells #[.int .i64 p, .int .i64 q] 27)) XH
  replace HB14 := Lib.hid (bAlloc HB14.out (.cells #[.int .i64 p, .int .i64 q] 27))
  replace HR := Lib.hid (HR.out.below (bAlloc (Below.refl _ _) (.cells #[.int .i64 p, .int .i64 q] 27)))
  have XI : Bk (u14.alloc (.cells #[.int .i64 p, .int .i64 q] 27)) (u14.heap.size) p q := by refine ⟨?_, ?_, ?_, ?_, ?_⟩ <;> go_simp
  go_upto_region 17 with fail
  generalize (u14.alloc (.cells #[.int .i64 p, .int .i64 q] 27)) = v14 at *
  generalize u14.heap.size = k14 at *
  clear S1 I1 S2 I2 S3 I3 S4 I4 S5 I5 HR XR
  have V1 := Lib.hid (fun w => validBlades_any m o w)
  have V2 := Lib.hid (fun w => specValidBlades_any m o w)
  generalize bladesB m o = tb at *
  go_cut [183] (fun s wx => s = .bool false ∧ Below v14.heap.size v14 wx)
  case first => as_aux_lemma =>
    have UXB := XB
    obtain ⟨iXB0, iXB1, iXB2, iXB3, iXB4⟩ := UXB
    have UXF := XF
    obtain ⟨iXF0, iXF1, iXF2, iXF3, iXF4⟩ := UXF
    have UXG := XG
    obtain ⟨iXG0, iXG1, iXG2, iXG3, iXG4⟩ := UXG
    have UXH := XH
    obtain ⟨iXH0, iXH1, iXH2, iXH3, iXH4⟩ := UXH
    have UXI := XI
    obtain ⟨iXI0, iXI1, iXI2, iXI3, iXI4⟩ := UXI
    go_region_held3 (fun v' => v'.cell? ⟨k1, 0, none⟩ = some (.int .i64 m) ∧ v'.cell? ⟨k1, 1, none⟩ = some (.int .i64 o) ∧ v'.cell? ⟨k8, 0, none⟩ = some (.int .i64 p3) ∧ v'.cell? ⟨k8, 1, none⟩ = some (.int .i64 q3) ∧ v'.cell? ⟨k9, 0, none⟩ = some (.int .i64 p3) ∧ v'.cell? ⟨k9, 1, none⟩ = some (.int .i64 q3) ∧ v'.cell? ⟨k13, 0, none⟩ = some (.int .i64 p) ∧ v'.cell? ⟨k13, 1, none⟩ = some (.int .i64 q) ∧ v'.cell? ⟨k14, 0, none⟩ = some (.int .i64 p) ∧ v'.cell? ⟨k14, 1, none⟩ = some (.int .i64 q)) (go_keep) ((first | (go_at_call 32; (with_reducible refine (V1.out _).mono ?_); rintro e uA ⟨rfl, hbA⟩; have EA : Below v14.heap.size v14 uA := (by (refine bTrans ?_ hbA); repeat (first | exact Below.refl _ _ | exact EA | exact EZ | refine Below.drew ?_ | refine bDrewN ?_ _)); obtain ⟨jXBA0, jXBA1, jXBA2, jXBA3, jXBA4⟩ := bkOf EA XB; obtain ⟨jXFA0, jXFA1, jXFA2, jXFA3, jXFA4⟩ := bkOf EA XF; obtain ⟨jXGA0, jXGA1, jXGA2, jXGA3, jXGA4⟩ := bkOf EA XG; obtain ⟨jXHA0, jXHA1, jXHA2, jXHA3, jXHA4⟩ := bkOf EA XH; obtain ⟨jXIA0, jXIA1, jXIA2, jXIA3, jXIA4⟩ := bkOf EA XI) | (go_at_call 33; (with_reducible refine (V2.out _).mono ?_); rintro e uZ ⟨rfl, hbZ⟩; have EZ : Below v14.heap.size v14 uZ := (by (refine bTrans ?_ hbZ); repeat (first | exact Below.refl _ _ | exact EA | exact EZ | refine Below.drew ?_ | refine bDrewN ?_ _)); obtain ⟨jXBZ0, jXBZ1, jXBZ2, jXBZ3, jXBZ4⟩ := bkOf EZ XB; obtain ⟨jXFZ0, jXFZ1, jXFZ2, jXFZ3, jXFZ4⟩ := bkOf EZ XF; obtain ⟨jXGZ0, jXGZ1, jXGZ2, jXGZ3, jXGZ4⟩ := bkOf EZ XG; obtain ⟨jXHZ0, jXHZ1, jXHZ2, jXHZ3, jXHZ4⟩ := bkOf EZ XH; obtain ⟨jXIZ0, jXIZ1, jXIZ2, jXIZ3, jXIZ4⟩ := bkOf EZ XI)))
    all_goals go_wp2_with fail
    all_goals go_meet
    all_goals refine ⟨rfl, ?_⟩
    all_goals repeat (first | exact Below.refl _ _ | exact EA | exact EZ | refine Below.drew ?_ | refine bDrewN ?_ _)
  case rest => as_aux_lemma =>
    obtain ⟨rfl, hb15⟩ := hcut
    clear V1 V2 XF XH
    replace XB := bkOf hb15 XB
    replace XA := bkOf hb15 XA
    replace XC := bkOf hb15 XC
    replace XG := bkOf hb15 XG
    replace XD := bkOf hb15 XD
    replace XI := bkOf hb15 XI
    have HB15 := Lib.hid (bTrans HB14.out hb15)
    clear hb15 HB14 XB
    go_upto_region 19 with fail
    go_cut [196] (fun s wx => s = .bool false ∧ Below w.heap.size w wx ∧ Bk wx k4 n2 d2 ∧ Bk wx k7 m3 o3 ∧ Bk wx k9 p3 q3 ∧ Bk wx k10 m4 o4)
    case first => as_aux_lemma =>
      have UXI := XI
      obtain ⟨iXI0, iXI1, iXI2, iXI3, iXI4⟩ := UXI
      have T1 := HT1.out
      clear HT1 HT2 HT3 HT4
      rcases T1 with T1 | ⟨rfl, rfl, b1, b2⟩
      · go_wp2_with fail
        go_meet
        exact ⟨rfl, HB15.out, XA, XC, XG, XD⟩
      · have w1 : IntKind.i64.wrap (l * q) = l * q := IntWalk.i64_in _ (by omega)
        go_wp2_with fail
        go_meet
        exact ⟨rfl, HB15.out, XA, XC, XG, XD⟩
    case rest => as_aux_lemma =>
      clear XA XC XG XD XI HB15 HT1
      obtain ⟨rfl, hb16, XA, XC, XG, XD⟩ := hcut
      have HB16 := Lib.hid hb16
      clear hb16
      have T2 := HT2.out
      have T3 := HT3.out
      have T4 := HT4.out
      clear HT2 HT3 HT4
      rcases T2 with T2 | ⟨rfl, hP2⟩ <;> rcases T3 with T3 | ⟨rfl, hl3, hP3⟩ <;> rcases T4 with T4 | ⟨rfl, S, G, P, Q, rfl, rfl, hPQ, hQ, rfl, hO⟩
      · as_aux_lemma =>
        have UXG := XG
        obtain ⟨iXG0, iXG1, iXG2, iXG3, iXG4⟩ := UXG
        go_wp2_with fail
        go_ret
        exact ⟨rfl, HB16.out⟩
      · as_aux_lemma =>
        have OO := Lib.hid hO
        clear hO
        have UXG := XG
        obtain ⟨iXG0, iXG1, iXG2, iXG3, iXG4⟩ := UXG
        go_wp2_with fail
        go_loopw [37, 38] (fun s t wr => ∃ k : Nat, P ≤ k ∧ k ≤ Q ∧ s = .int .i64 (beforeN S G k - beforeN S G P : Nat) ∧ t = .int .i64 k ∧ Bk wr k10 m4 o4 ∧ Hid (Below w.heap.size w wr)) (fun _ t _ => Q - (intOf t).toNat)
        case atStart => exact ⟨P, Nat.le_refl _, hPQ, by rw [Nat.sub_self]; rfl, rfl, XD, HB16⟩
        case round =>
          obtain ⟨k, k1', k2', rfl, rfl, XK, HK⟩ := hrel
          by_cases hlt : k < Q
          · have hC := Lib.hid (OO.out k (by omega))
            have mo := beforeN_mono S G k1'
            have le := beforeN_le S G k
            have U := XK
            obtain ⟨c0, c1, c2, c3, c4⟩ := U
            cases hP : openB S G k
            · have hN : beforeN S G (k + 1) = beforeN S G k := by rw [beforeN, cnt, hP]; rfl
              rw [hP] at hC
              go_wp2_with fail
              refine (hC.out _).mono ?_
              rintro e v ⟨rfl, hbv⟩
              have XK2 := bkOf hbv XK
              have HK2 := Lib.hid (bTrans HK.out hbv)
              go_wp2_with fail
              go_roundw
              case rel => exact ⟨k + 1, by omega, by omega, by rw [hN], by go_num, XK2, HK2⟩
              case measure => simp [intOf]; omega
            · have hN : beforeN S G (k + 1) = beforeN S G k + 1 := by rw [beforeN, cnt, hP]; rfl
              rw [hP] at hC
              obtain ⟨dd, hd⟩ : ∃ dd, beforeN S G k - beforeN S G P = dd := ⟨_, rfl⟩
              have hd2 : beforeN S G (k + 1) - beforeN S G P = dd + 1 := by omega
              have hd3 : dd ≤ 1000 := by omega
              rw [hd]
              go_wp2_with fail
              refine (hC.out _).mono ?_
              rintro e v ⟨rfl, hbv⟩
              have XK2 := bkOf hbv XK
              have HK2 := Lib.hid (bTrans HK.out hbv)
              go_wp2_with fail
              go_roundw
              case rel => exact ⟨k + 1, by omega, by omega, by rw [hd2]; go_num, by go_num, XK2, HK2⟩
              case measure => simp [intOf]; omega
          · have : k = Q := by omega
            subst this
            go_wp2_with fail
            go_ret
            exact ⟨rfl, HK.out⟩
      · as_aux_lemma =>
        have F3 := Lib.hid hP3
        clear hP3
        by_cases hp3 : p3 ≤ 1000
        · have UXC := XC
          obtain ⟨iXC0, iXC1, iXC2, iXC3, iXC4⟩ := UXC
          have UXG := XG
          obtain ⟨iXG0, iXG1, iXG2, iXG3, iXG4⟩ := UXG
          go_wp2_with fail
          refine (F3.out hp3 _).mono ?_
          rintro e u21 ⟨rfl, hb21⟩
          clear iXC0 iXC1 iXC2 iXC3 iXC4
          clear iXG0 iXG1 iXG2 iXG3 iXG4
          replace XD := bkOf hb21 XD
          have HB21 := Lib.hid (bTrans HB16.out hb21)
          clear hb21
          go_wp2_with fail
          go_ret
          exact ⟨rfl, HB21.out⟩
        · have UXG := XG
          obtain ⟨iXG0, iXG1, iXG2, iXG3, iXG4⟩ := UXG
          go_wp2_with fail
          go_ret
          exact ⟨rfl, HB16.out⟩
      · as_aux_lemma =>
        have F3 := Lib.hid hP3
        clear hP3
        have OO := Lib.hid hO
        clear hO
        by_cases hp3 : p3 ≤ 1000
        · have UXC := XC
          obtain ⟨iXC0, iXC1, iXC2, iXC3, iXC4⟩ := UXC
          have UXG := XG
          obtain ⟨iXG0, iXG1, iXG2, iXG3, iXG4⟩ := UXG
          go_wp2_with fail
          refine (F3.out hp3 _).mono ?_
          rintro e u21 ⟨rfl, hb21⟩
          clear iXC0 iXC1 iXC2 iXC3 iXC4
          clear iXG0 iXG1 iXG2 iXG3 iXG4
          replace XD := bkOf hb21 XD
          have HB21 := Lib.hid (bTrans HB16.out hb21)
          clear hb21
          go_wp2_with fail
          go_loopw [37, 38] (fun s t wr => ∃ k : Nat, P ≤ k ∧ k ≤ Q ∧ s = .int .i64 (beforeN S G k - beforeN S G P : Nat) ∧ t = .int .i64 k ∧ Bk wr k10 m4 o4 ∧ Hid (Below w.heap.size w wr)) (fun _ t _ => Q - (intOf t).toNat)
          case atStart => exact ⟨P, Nat.le_refl _, hPQ, by rw [Nat.sub_self]; rfl, rfl, XD, HB21⟩
          case round =>
            obtain ⟨k, k1', k2', rfl, rfl, XK, HK⟩ := hrel
            by_cases hlt : k < Q
            · have hC := Lib.hid (OO.out k (by omega))
              have mo := beforeN_mono S G k1'
              have le := beforeN_le S G k
              have U := XK
              obtain ⟨c0, c1, c2, c3, c4⟩ := U
              cases hP : openB S G k
              · have hN : beforeN S G (k + 1) = beforeN S G k := by rw [beforeN, cnt, hP]; rfl
                rw [hP] at hC
                go_wp2_with fail
                refine (hC.out _).mono ?_
                rintro e v ⟨rfl, hbv⟩
                have XK2 := bkOf hbv XK
                have HK2 := Lib.hid (bTrans HK.out hbv)
                go_wp2_with fail
                go_roundw
                case rel => exact ⟨k + 1, by omega, by omega, by rw [hN], by go_num, XK2, HK2⟩
                case measure => simp [intOf]; omega
              · have hN : beforeN S G (k + 1) = beforeN S G k + 1 := by rw [beforeN, cnt, hP]; rfl
                rw [hP] at hC
                obtain ⟨dd, hd⟩ : ∃ dd, beforeN S G k - beforeN S G P = dd := ⟨_, rfl⟩
                have hd2 : beforeN S G (k + 1) - beforeN S G P = dd + 1 := by omega
                have hd3 : dd ≤ 1000 := by omega
                rw [hd]
                go_wp2_with fail
                refine (hC.out _).mono ?_
                rintro e v ⟨rfl, hbv⟩
                have XK2 := bkOf hbv XK
                have HK2 := Lib.hid (bTrans HK.out hbv)
                go_wp2_with fail
                go_roundw
                case rel => exact ⟨k + 1, by omega, by omega, by rw [hd2]; go_num, by go_num, XK2, HK2⟩
                case measure => simp [intOf]; omega
            · have : k = Q := by omega
              subst this
              go_wp2_with fail
              go_ret
              exact ⟨rfl, HK.out⟩
        · have UXG := XG
          obtain ⟨iXG0, iXG1, iXG2, iXG3, iXG4⟩ := UXG
          go_wp2_with fail
          go_loopw [37, 38] (fun s t wr => ∃ k : Nat, P ≤ k ∧ k ≤ Q ∧ s = .int .i64 (beforeN S G k - beforeN S G P : Nat) ∧ t = .int .i64 k ∧ Bk wr k10 m4 o4 ∧ Hid (Below w.heap.size w wr)) (fun _ t _ => Q - (intOf t).toNat)
          case atStart => exact ⟨P, Nat.le_refl _, hPQ, by rw [Nat.sub_self]; rfl, rfl, XD, HB16⟩
          case round =>
            obtain ⟨k, k1', k2', rfl, rfl, XK, HK⟩ := hrel
            by_cases hlt : k < Q
            · have hC := Lib.hid (OO.out k (by omega))
              have mo := beforeN_mono S G k1'
              have le := beforeN_le S G k
              have U := XK
              obtain ⟨c0, c1, c2, c3, c4⟩ := U
              cases hP : openB S G k
              · have hN : beforeN S G (k + 1) = beforeN S G k := by rw [beforeN, cnt, hP]; rfl
                rw [hP] at hC
                go_wp2_with fail
                refine (hC.out _).mono ?_
                rintro e v ⟨rfl, hbv⟩
                have XK2 := bkOf hbv XK
                have HK2 := Lib.hid (bTrans HK.out hbv)
                go_wp2_with fail
                go_roundw
                case rel => exact ⟨k + 1, by omega, by omega, by rw [hN], by go_num, XK2, HK2⟩
                case measure => simp [intOf]; omega
              · have hN : beforeN S G (k + 1) = beforeN S G k + 1 := by rw [beforeN, cnt, hP]; rfl
                rw [hP] at hC
                obtain ⟨dd, hd⟩ : ∃ dd, beforeN S G k - beforeN S G P = dd := ⟨_, rfl⟩
                have hd2 : beforeN S G (k + 1) - beforeN S G P = dd + 1 := by omega
                have hd3 : dd ≤ 1000 := by omega
                rw [hd]
                go_wp2_with fail
                refine (hC.out _).mono ?_
                rintro e v ⟨rfl, hbv⟩
                have XK2 := bkOf hbv XK
                have HK2 := Lib.hid (bTrans HK.out hbv)
                go_wp2_with fail
                go_roundw
                case rel => exact ⟨k + 1, by omega, by omega, by rw [hd2]; go_num, by go_num, XK2, HK2⟩
                case measure => simp [intOf]; omega
            · have : k = Q := by omega
              subst this
              go_wp2_with fail
              go_ret
              exact ⟨rfl, HK.out⟩
      · as_aux_lemma =>
        have F2 := Lib.hid hP2
        clear hP2
        have UXA := XA
        obtain ⟨iXA0, iXA1, iXA2, iXA3, iXA4⟩ := UXA
        have UXG := XG
        obtain ⟨iXG0, iXG1, iXG2, iXG3, iXG4⟩ := UXG
        go_wp2_with fail
        refine (F2.out _).mono ?_
        rintro e u20 ⟨rfl, hb20⟩
        clear iXA0 iXA1 iXA2 iXA3 iXA4
        clear iXG0 iXG1 iXG2 iXG3 iXG4
        replace XC := bkOf hb20 XC
        replace XG := bkOf hb20 XG
        replace XD := bkOf hb20 XD
        have HB20 := Lib.hid (bTrans HB16.out hb20)
        clear hb20
        have UXG := XG
        obtain ⟨iXG0, iXG1, iXG2, iXG3, iXG4⟩ := UXG
        go_wp2_with fail
        go_ret
        exact ⟨rfl, HB20.out⟩
      · as_aux_lemma =>
        have F2 := Lib.hid hP2
        clear hP2
        have OO := Lib.hid hO
        clear hO
        have UXA := XA
        obtain ⟨iXA0, iXA1, iXA2, iXA3, iXA4⟩ := UXA
        have UXG := XG
        obtain ⟨iXG0, iXG1, iXG2, iXG3, iXG4⟩ := UXG
        go_wp2_with fail
        refine (F2.out _).mono ?_
        rintro e u20 ⟨rfl, hb20⟩
        clear iXA0 iXA1 iXA2 iXA3 iXA4
        clear iXG0 iXG1 iXG2 iXG3 iXG4
        replace XC := bkOf hb20 XC
        replace XG := bkOf hb20 XG
        replace XD := bkOf hb20 XD
        have HB20 := Lib.hid (bTrans HB16.out hb20)
        clear hb20
        have UXG := XG
        obtain ⟨iXG0, iXG1, iXG2, iXG3, iXG4⟩ := UXG
        go_wp2_with fail
        go_loopw [37, 38] (fun s t wr => ∃ k : Nat, P ≤ k ∧ k ≤ Q ∧ s = .int .i64 (beforeN S G k - beforeN S G P : Nat) ∧ t = .int .i64 k ∧ Bk wr k10 m4 o4 ∧ Hid (Below w.heap.size w wr)) (fun _ t _ => Q - (intOf t).toNat)
        case atStart => exact ⟨P, Nat.le_refl _, hPQ, by rw [Nat.sub_self]; rfl, rfl, XD, HB20⟩
        case round =>
          obtain ⟨k, k1', k2', rfl, rfl, XK, HK⟩ := hrel
          by_cases hlt : k < Q
          · have hC := Lib.hid (OO.out k (by omega))
            have mo := beforeN_mono S G k1'
            have le := beforeN_le S G k
            have U := XK
            obtain ⟨c0, c1, c2, c3, c4⟩ := U
            cases hP : openB S G k
            · have hN : beforeN S G (k + 1) = beforeN S G k := by rw [beforeN, cnt, hP]; rfl
              rw [hP] at hC
              go_wp2_with fail
              refine (hC.out _).mono ?_
              rintro e v ⟨rfl, hbv⟩
              have XK2 := bkOf hbv XK
              have HK2 := Lib.hid (bTrans HK.out hbv)
              go_wp2_with fail
              go_roundw
              case rel => exact ⟨k + 1, by omega, by omega, by rw [hN], by go_num, XK2, HK2⟩
              case measure => simp [intOf]; omega
            · have hN : beforeN S G (k + 1) = beforeN S G k + 1 := by rw [beforeN, cnt, hP]; rfl
              rw [hP] at hC
              obtain ⟨dd, hd⟩ : ∃ dd, beforeN S G k - beforeN S G P = dd := ⟨_, rfl⟩
              have hd2 : beforeN S G (k + 1) - beforeN S G P = dd + 1 := by omega
              have hd3 : dd ≤ 1000 := by omega
              rw [hd]
              go_wp2_with fail
              refine (hC.out _).mono ?_
              rintro e v ⟨rfl, hbv⟩
              have XK2 := bkOf hbv XK
              have HK2 := Lib.hid (bTrans HK.out hbv)
              go_wp2_with fail
              go_roundw
              case rel => exact ⟨k + 1, by omega, by omega, by rw [hd2]; go_num, by go_num, XK2, HK2⟩
              case measure => simp [intOf]; omega
          · have : k = Q := by omega
            subst this
            go_wp2_with fail
            go_ret
            exact ⟨rfl, HK.out⟩
      · as_aux_lemma =>
        have F2 := Lib.hid hP2
        clear hP2
        have F3 := Lib.hid hP3
        clear hP3
        have UXA := XA
        obtain ⟨iXA0, iXA1, iXA2, iXA3, iXA4⟩ := UXA
        have UXG := XG
        obtain ⟨iXG0, iXG1, iXG2, iXG3, iXG4⟩ := UXG
        go_wp2_with fail
        refine (F2.out _).mono ?_
        rintro e u20 ⟨rfl, hb20⟩
        clear iXA0 iXA1 iXA2 iXA3 iXA4
        clear iXG0 iXG1 iXG2 iXG3 iXG4
        replace XC := bkOf hb20 XC
        replace XG := bkOf hb20 XG
        replace XD := bkOf hb20 XD
        have HB20 := Lib.hid (bTrans HB16.out hb20)
        clear hb20
        by_cases hp3 : p3 ≤ 1000
        · have UXC := XC
          obtain ⟨iXC0, iXC1, iXC2, iXC3, iXC4⟩ := UXC
          have UXG := XG
          obtain ⟨iXG0, iXG1, iXG2, iXG3, iXG4⟩ := UXG
          go_wp2_with fail
          refine (F3.out hp3 _).mono ?_
          rintro e u21 ⟨rfl, hb21⟩
          clear iXC0 iXC1 iXC2 iXC3 iXC4
          clear iXG0 iXG1 iXG2 iXG3 iXG4
          replace XD := bkOf hb21 XD
          have HB21 := Lib.hid (bTrans HB20.out hb21)
          clear hb21
          go_wp2_with fail
          go_ret
          exact ⟨rfl, HB21.out⟩
        · have UXG := XG
          obtain ⟨iXG0, iXG1, iXG2, iXG3, iXG4⟩ := UXG
          go_wp2_with fail
          go_ret
          exact ⟨rfl, HB20.out⟩
      · as_aux_lemma =>
        have F2 := Lib.hid hP2
        clear hP2
        have F3 := Lib.hid hP3
        clear hP3
        have OO := Lib.hid hO
        clear hO
        have UXA := XA
        obtain ⟨iXA0, iXA1, iXA2, iXA3, iXA4⟩ := UXA
        have UXG := XG
        obtain ⟨iXG0, iXG1, iXG2, iXG3, iXG4⟩ := UXG
        go_wp2_with fail
        refine (F2.out _).mono ?_
        rintro e u20 ⟨rfl, hb20⟩
        clear iXA0 iXA1 iXA2 iXA3 iXA4
        clear iXG0 iXG1 iXG2 iXG3 iXG4
        replace XC := bkOf hb20 XC
        replace XG := bkOf hb20 XG
        replace XD := bkOf hb20 XD
        have HB20 := Lib.hid (bTrans HB16.out hb20)
        clear hb20
        by_cases hp3 : p3 ≤ 1000
        · have UXC := XC
          obtain ⟨iXC0, iXC1, iXC2, iXC3, iXC4⟩ := UXC
          have UXG := XG
          obtain ⟨iXG0, iXG1, iXG2, iXG3, iXG4⟩ := UXG
          go_wp2_with fail
          refine (F3.out hp3 _).mono ?_
          rintro e u21 ⟨rfl, hb21⟩
          clear iXC0 iXC1 iXC2 iXC3 iXC4
          clear iXG0 iXG1 iXG2 iXG3 iXG4
          replace XD := bkOf hb21 XD
          have HB21 := Lib.hid (bTrans HB20.out hb21)
          clear hb21
          go_wp2_with fail
          go_loopw [37, 38] (fun s t wr => ∃ k : Nat, P ≤ k ∧ k ≤ Q ∧ s = .int .i64 (beforeN S G k - beforeN S G P : Nat) ∧ t = .int .i64 k ∧ Bk wr k10 m4 o4 ∧ Hid (Below w.heap.size w wr)) (fun _ t _ => Q - (intOf t).toNat)
          case atStart => exact ⟨P, Nat.le_refl _, hPQ, by rw [Nat.sub_self]; rfl, rfl, XD, HB21⟩
          case round =>
            obtain ⟨k, k1', k2', rfl, rfl, XK, HK⟩ := hrel
            by_cases hlt : k < Q
            · have hC := Lib.hid (OO.out k (by omega))
              have mo := beforeN_mono S G k1'
              have le := beforeN_le S G k
              have U := XK
              obtain ⟨c0, c1, c2, c3, c4⟩ := U
              cases hP : openB S G k
              · have hN : beforeN S G (k + 1) = beforeN S G k := by rw [beforeN, cnt, hP]; rfl
                rw [hP] at hC
                go_wp2_with fail
                refine (hC.out _).mono ?_
                rintro e v ⟨rfl, hbv⟩
                have XK2 := bkOf hbv XK
                have HK2 := Lib.hid (bTrans HK.out hbv)
                go_wp2_with fail
                go_roundw
                case rel => exact ⟨k + 1, by omega, by omega, by rw [hN], by go_num, XK2, HK2⟩
                case measure => simp [intOf]; omega
              · have hN : beforeN S G (k + 1) = beforeN S G k + 1 := by rw [beforeN, cnt, hP]; rfl
                rw [hP] at hC
                obtain ⟨dd, hd⟩ : ∃ dd, beforeN S G k - beforeN S G P = dd := ⟨_, rfl⟩
                have hd2 : beforeN S G (k + 1) - beforeN S G P = dd + 1 := by omega
                have hd3 : dd ≤ 1000 := by omega
                rw [hd]
                go_wp2_with fail
                refine (hC.out _).mono ?_
                rintro e v ⟨rfl, hbv⟩
                have XK2 := bkOf hbv XK
                have HK2 := Lib.hid (bTrans HK.out hbv)
                go_wp2_with fail
                go_roundw
                case rel => exact ⟨k + 1, by omega, by omega, by rw [hd2]; go_num, by go_num, XK2, HK2⟩
                case measure => simp [intOf]; omega
            · have : k = Q := by omega
              subst this
              go_wp2_with fail
              go_ret
              exact ⟨rfl, HK.out⟩
        · have UXG := XG
          obtain ⟨iXG0, iXG1, iXG2, iXG3, iXG4⟩ := UXG
          go_wp2_with fail
          go_loopw [37, 38] (fun s t wr => ∃ k : Nat, P ≤ k ∧ k ≤ Q ∧ s = .int .i64 (beforeN S G k - beforeN S G P : Nat) ∧ t = .int .i64 k ∧ Bk wr k10 m4 o4 ∧ Hid (Below w.heap.size w wr)) (fun _ t _ => Q - (intOf t).toNat)
          case atStart => exact ⟨P, Nat.le_refl _, hPQ, by rw [Nat.sub_self]; rfl, rfl, XD, HB20⟩
          case round =>
            obtain ⟨k, k1', k2', rfl, rfl, XK, HK⟩ := hrel
            by_cases hlt : k < Q
            · have hC := Lib.hid (OO.out k (by omega))
              have mo := beforeN_mono S G k1'
              have le := beforeN_le S G k
              have U := XK
              obtain ⟨c0, c1, c2, c3, c4⟩ := U
              cases hP : openB S G k
              · have hN : beforeN S G (k + 1) = beforeN S G k := by rw [beforeN, cnt, hP]; rfl
                rw [hP] at hC
                go_wp2_with fail
                refine (hC.out _).mono ?_
                rintro e v ⟨rfl, hbv⟩
                have XK2 := bkOf hbv XK
                have HK2 := Lib.hid (bTrans HK.out hbv)
                go_wp2_with fail
                go_roundw
                case rel => exact ⟨k + 1, by omega, by omega, by rw [hN], by go_num, XK2, HK2⟩
                case measure => simp [intOf]; omega
              · have hN : beforeN S G (k + 1) = beforeN S G k + 1 := by rw [beforeN, cnt, hP]; rfl
                rw [hP] at hC
                obtain ⟨dd, hd⟩ : ∃ dd, beforeN S G k - beforeN S G P = dd := ⟨_, rfl⟩
                have hd2 : beforeN S G (k + 1) - beforeN S G P = dd + 1 := by omega
                have hd3 : dd ≤ 1000 := by omega
                rw [hd]
                go_wp2_with fail
                refine (hC.out _).mono ?_
                rintro e v ⟨rfl, hbv⟩
                have XK2 := bkOf hbv XK
                have HK2 := Lib.hid (bTrans HK.out hbv)
                go_wp2_with fail
                go_roundw
                case rel => exact ⟨k + 1, by omega, by omega, by rw [hd2]; go_num, by go_num, XK2, HK2⟩
                case measure => simp [intOf]; omega
            · have : k = Q := by omega
              subst this
              go_wp2_with fail
              go_ret
              exact ⟨rfl, HK.out⟩

set_option maxRecDepth 100000 in
/-- laws.FnSteady. -/
theorem law_FnSteady (a : Option Addr) (len cap : Nat) (cs : List Int) (w : World) (hr : Row w a len cap cs) :
    Calls Try.prog 3 #[.slice a len cap] w fun e w' => e = .returned (.bool true) ∧ Below w.heap.size w w' := by
  by_cases h : 4096 < (len : Int)
  · have hz := decide_eq_true h
    go_enter Try.func3, Try.ntmps3
    go_wp2_with fail
    refine (f6bigO_any _ _ _ _).mono ?_
    rintro e u0 ⟨rfl, rfl⟩
    rw [hz]
    go_wp2_with fail
    go_ret
    exact ⟨rfl, Below.refl _ _⟩
  · exact lawFnSteady_ok a len cap cs w hr h

end Go.Proofs.Ytflgjohknjgdcaa
