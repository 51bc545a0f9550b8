/- The law of fractions. -/
import Derived.Test.YtmgkoijnjhfinaaDoorProg
import Derived.Test.YtmgkoijnjhfinaaDoorFracFacts
import Derived.Test.YtmgkoijnjhfinaaDoorCompare
import Derived.Test.YtmgkoijnjhfinaaDoorReadFrLaw
import Derived.Deep.RegionWith
import Derived.Deep.DrawnRows
import Derived.Laws.StructEq
import Derived.Deep.DeepCutAuto
import Derived.Tactics
import Derived.Tactics2
import Derived.WalkKit
import Derived.LoopTactic
import Derived.BigQuiet
import Derived.RegionTactic
import Derived.BigRegion
import Derived.Deep.QuietTactic
import Derived.Outline
import Derived.Lib.Hide
import Derived.Below
import Derived.KernelRfl
namespace Go.Proofs.YtmgkoijnjhfinaaDoor
open Go.RowKit
set_option linter.unusedSimpArgs false
set_option linter.unusedVariables false

theorem neq_fr (a b c d : Int) (w : World) : (binOp .neq 25 (.agg #[.int .i64 a, .int .i64 b]) (.agg #[.int .i64 c, .int .i64 d])).run Tryd.prog w = .ok (.bool (!(a == c && b == d))) w := by
  rw [show binOp .neq 25 (.agg #[.int .i64 a, .int .i64 b]) (.agg #[.int .i64 c, .int .i64 d]) = (do return .bool (!(← Op.equalIn 10000 25 (.agg #[.int .i64 a, .int .i64 b]) (.agg #[.int .i64 c, .int .i64 d])))) from rfl]
  simp [go_sem, equalIn_fr]
attribute [local go_sem ↓] neq_fr eql_fr

theorem frac_size (n d : Int) : (fracB n d).size ≤ 43 := by
  have h1 := decB_size n
  have h2 := decB_size d
  unfold fracB
  split
  · omega
  · rw [ByteArray.size_append, ByteArray.size_append]
    have : (⟨#[47]⟩ : ByteArray).size = 1 := rfl
    omega

set_option maxHeartbeats 4000000 in
set_option maxRecDepth 100000 in
theorem law_FnFractions (a : Option Addr) (l c : Nat) (zs : List Int) (b : Option Addr) (m k : Nat) (ys : List Int) (w : World) (r1 : Row w a l c zs) (r2 : Row w b m k ys) (hl : ∃ m, w.cell? ⟨0, 0, none⟩ = some (.int .i64 m)) (tp tq : TypeId) (p' q' : Value)
    (_hv1 : ∀ u, Below w.heap.size w u → u.var? Tryd.prog "strconv.ErrSyntax" = some #[.iface tp p']) (_hv2 : ∀ u, Below w.heap.size w u → u.var? Tryd.prog "strconv.ErrRange" = some #[.iface tq q']) :
    Calls Tryd.prog 3 #[.slice a l c, .slice b m k] w fun e w' => e = .returned (.bool true) ∧ Below w.heap.size w w' := by
  clear _hv1 _hv2
  by_cases hL : 3000 < (l : Int) ∨ 3000 < (m : Int)
  · have hL2 : (decide (3000 < (l : Int)) || decide (3000 < (m : Int))) = true := by simpa using hL
    have C1 := a2Long_any a b l c m k
    rw [hL2] at C1
    clear hL hL2 r1 r2
    go_enter Tryd.func3, Tryd.ntmps3
    go_wp2_with fail
    refine (C1 _).mono ?_
    rintro e u ⟨rfl, rfl⟩
    go_wp2_with fail
    go_ret
    exact ⟨rfl, Below.refl _ _⟩
  · have hL2 : (decide (3000 < (l : Int)) || decide (3000 < (m : Int))) = false := by simpa using hL
    have C1 := a2Long_any a b l c m k
    rw [hL2] at C1
    have HL := Lib.hid hl
    clear hL hL2 hl
    go_enter Tryd.func3, Tryd.ntmps3
    go_wp2_with fail
    refine (C1 _).mono ?_
    rintro e u ⟨rfl, rfl⟩
    go_wp2_with fail
    refine (A2Fraction_any a l c zs _ r1).mono ?_
    rintro e u1 ⟨n, d, rfl, ok1, n0, n1, d0, d1, H⟩
    clear r1 C1
    go_wp2_with fail
    have A5 : Bk (u1.alloc (.cells #[.int .i64 n, .int .i64 d] 25)) u1.heap.size n d := by refine ⟨?_, ?_, ?_, ?_, ?_⟩ <;> go_simp
    have H := bAlloc H (.cells #[.int .i64 n, .int .i64 d] 25)
    generalize u1.alloc (.cells #[.int .i64 n, .int .i64 d] 25) = w5 at *
    generalize u1.heap.size = g5 at *
    have r3 := r2.below H
    refine (A2Fraction_any b m k ys _ r3).mono ?_
    rintro e u2 ⟨p, q, rfl, ok2, p0, p1, q0, q1, hb⟩
    have H := bTrans H hb
    have A5 := bkOf hb A5
    clear hb
    clear r2 r3
    obtain ⟨X, Y, U, V, E, F, r, F1, F2, okS, s1, F3, okP, s2, F4, E0, Ez, r0, r1, rz, R1, R2, F5, gB, x0, x1, y0, y1, m1, m2, m3, m4, m5, m6, m7, m8, m9, m10, m11, m12, m13, m14, m15, m16, m17, m18, m19, m20, m21⟩ := fractions_facts ok1 ok2 n0 n1 d0 d1 p0 p1 q0 q1
    have K1 := Lib.hid (fun w => implAddFractions_yes n d p q w ok1 ok2)
    have K2 := Lib.hid (fun w => implAddFractions_yes p q n d w ok2 ok1)
    have K3 := Lib.hid (fun w => implMultiplyFractions_yes n d p q w ok1 ok2)
    have K4 := Lib.hid (fun w => implCompare_yes n d p q r w ok1 ok2 R1)
    have K5 := Lib.hid (fun w => implCompare_yes p q n d (-r) w ok2 ok1 R2)
    have K6 := Lib.hid (fun w => implBeatRate_yes n d p q w ok1 ok2)
    have K7 := Lib.hid (fun w => implMake_yes (-3 * n) (-3 * d) w gB)
    have K8 := Lib.hid (fun w => implText_any n d w (by omega) (by omega))
    have K9 := Lib.hid (fun w hm => implReadFr_yes n d w ok1 (by have := frac_size n d; omega) hm)
    rw [F1] at K1
    rw [F2] at K2
    rw [F3] at K3
    rw [F4] at K6
    rw [F5] at K7
    rw [textB_ok ok1] at K8
    have V1 := Lib.hid (fun w => specValid_any X Y w (by omega) (by omega))
    have V2 := Lib.hid (fun w => specValid_any U V w (by omega) (by omega))
    rw [okS] at V1
    rw [okP] at V2
    generalize fracB n d = tx at *
    clear F1 F2 F3 F4 F5 R1 R2 gB ok1 ok2 okS okP
    obtain ⟨c5a, c5b, f5a, f5b, l5⟩ := id A5
    have q5_ := Nat.ne_of_lt l5
    go_wp2_with fail
    clear c5a c5b f5a f5b l5 q5_
    have A6 : Bk (u2.alloc (.cells #[.int .i64 p, .int .i64 q] 25)) u2.heap.size p q := by refine ⟨?_, ?_, ?_, ?_, ?_⟩ <;> go_simp
    have A5 := bkOf (bAlloc (Below.refl u2.heap.size u2) (.cells #[.int .i64 p, .int .i64 q] 25)) A5
    have H := bAlloc H (.cells #[.int .i64 p, .int .i64 q] 25)
    generalize u2.alloc (.cells #[.int .i64 p, .int .i64 q] 25) = w6 at *
    generalize u2.heap.size = g6 at *
    refine (K1.out _).mono ?_
    rintro e u3 ⟨rfl, hb⟩
    have H := bTrans H hb
    have A5 := bkOf hb A5
    have A6 := bkOf hb A6
    clear hb
    obtain ⟨c5a, c5b, f5a, f5b, l5⟩ := id A5
    have q5_ := Nat.ne_of_lt l5
    obtain ⟨c6a, c6b, f6a, f6b, l6⟩ := id A6
    have q6_ := Nat.ne_of_lt l6
    go_wp2_with fail
    clear c5a c5b f5a f5b l5 q5_ c6a c6b f6a f6b l6 q6_
    have A7 : Bk (u3.alloc (.cells #[.int .i64 X, .int .i64 Y] 25)) u3.heap.size X Y := by refine ⟨?_, ?_, ?_, ?_, ?_⟩ <;> go_simp
    have A5 := bkOf (bAlloc (Below.refl u3.heap.size u3) (.cells #[.int .i64 X, .int .i64 Y] 25)) A5
    have A6 := bkOf (bAlloc (Below.refl u3.heap.size u3) (.cells #[.int .i64 X, .int .i64 Y] 25)) A6
    have H := bAlloc H (.cells #[.int .i64 X, .int .i64 Y] 25)
    generalize u3.alloc (.cells #[.int .i64 X, .int .i64 Y] 25) = w7 at *
    generalize u3.heap.size = g7 at *
    refine (K2.out _).mono ?_
    rintro e u4 ⟨rfl, hb⟩
    have H := bTrans H hb
    have A5 := bkOf hb A5
    have A6 := bkOf hb A6
    have A7 := bkOf hb A7
    clear hb
    obtain ⟨c5a, c5b, f5a, f5b, l5⟩ := id A5
    have q5_ := Nat.ne_of_lt l5
    obtain ⟨c6a, c6b, f6a, f6b, l6⟩ := id A6
    have q6_ := Nat.ne_of_lt l6
    obtain ⟨c7a, c7b, f7a, f7b, l7⟩ := id A7
    have q7_ := Nat.ne_of_lt l7
    go_wp2_with fail
    clear c5a c5b f5a f5b l5 q5_ c6a c6b f6a f6b l6 q6_ c7a c7b f7a f7b l7 q7_
    have A9 : Bk (u4.alloc (.cells #[.int .i64 X, .int .i64 Y] 25)) u4.heap.size X Y := by refine ⟨?_, ?_, ?_, ?_, ?_⟩ <;> go_simp
    have A5 := bkOf (bAlloc (Below.refl u4.heap.size u4) (.cells #[.int .i64 X, .int .i64 Y] 25)) A5
    have A6 := bkOf (bAlloc (Below.refl u4.heap.size u4) (.cells #[.int .i64 X, .int .i64 Y] 25)) A6
    have A7 := bkOf (bAlloc (Below.refl u4.heap.size u4) (.cells #[.int .i64 X, .int .i64 Y] 25)) A7
    have H := bAlloc H (.cells #[.int .i64 X, .int .i64 Y] 25)
    generalize u4.alloc (.cells #[.int .i64 X, .int .i64 Y] 25) = w9 at *
    generalize u4.heap.size = g9 at *
    refine (K3.out _).mono ?_
    rintro e u5 ⟨rfl, hb⟩
    have H := bTrans H hb
    have A5 := bkOf hb A5
    have A6 := bkOf hb A6
    have A7 := bkOf hb A7
    have A9 := bkOf hb A9
    clear hb
    obtain ⟨c5a, c5b, f5a, f5b, l5⟩ := id A5
    have q5_ := Nat.ne_of_lt l5
    obtain ⟨c6a, c6b, f6a, f6b, l6⟩ := id A6
    have q6_ := Nat.ne_of_lt l6
    obtain ⟨c7a, c7b, f7a, f7b, l7⟩ := id A7
    have q7_ := Nat.ne_of_lt l7
    obtain ⟨c9a, c9b, f9a, f9b, l9⟩ := id A9
    have q9_ := Nat.ne_of_lt l9
    go_wp2_with fail
    clear c5a c5b f5a f5b l5 q5_ c6a c6b f6a f6b l6 q6_ c7a c7b f7a f7b l7 q7_ c9a c9b f9a f9b l9 q9_
    have A11 : Bk (u5.alloc (.cells #[.int .i64 U, .int .i64 V] 25)) u5.heap.size U V := by refine ⟨?_, ?_, ?_, ?_, ?_⟩ <;> go_simp
    have A5 := bkOf (bAlloc (Below.refl u5.heap.size u5) (.cells #[.int .i64 U, .int .i64 V] 25)) A5
    have A6 := bkOf (bAlloc (Below.refl u5.heap.size u5) (.cells #[.int .i64 U, .int .i64 V] 25)) A6
    have A7 := bkOf (bAlloc (Below.refl u5.heap.size u5) (.cells #[.int .i64 U, .int .i64 V] 25)) A7
    have A9 := bkOf (bAlloc (Below.refl u5.heap.size u5) (.cells #[.int .i64 U, .int .i64 V] 25)) A9
    have H := bAlloc H (.cells #[.int .i64 U, .int .i64 V] 25)
    generalize u5.alloc (.cells #[.int .i64 U, .int .i64 V] 25) = w11 at *
    generalize u5.heap.size = g11 at *
    refine (V1.out _).mono ?_
    rintro e u6 ⟨rfl, hb⟩
    have H := bTrans H hb
    have A5 := bkOf hb A5
    have A6 := bkOf hb A6
    have A7 := bkOf hb A7
    have A9 := bkOf hb A9
    have A11 := bkOf hb A11
    clear hb
    have e1 : (n * q + p * d) * Y = X * d * q := s1.symm
    have e2 : n * p * V = U * d * q := s2.symm
    clear s1 s2
    obtain ⟨c5a, c5b, f5a, f5b, l5⟩ := id A5
    have q5_ := Nat.ne_of_lt l5
    obtain ⟨c6a, c6b, f6a, f6b, l6⟩ := id A6
    have q6_ := Nat.ne_of_lt l6
    obtain ⟨c7a, c7b, f7a, f7b, l7⟩ := id A7
    have q7_ := Nat.ne_of_lt l7
    obtain ⟨c9a, c9b, f9a, f9b, l9⟩ := id A9
    have q9_ := Nat.ne_of_lt l9
    obtain ⟨c11a, c11b, f11a, f11b, l11⟩ := id A11
    have q11_ := Nat.ne_of_lt l11
    go_wp2_with fail
    clear c5a c5b f5a f5b l5 q5_ c6a c6b f6a f6b l6 q6_ c7a c7b f7a f7b l7 q7_ c9a c9b f9a f9b l9 q9_ c11a c11b f11a f11b l11 q11_
    refine (V2.out _).mono ?_
    rintro e u7 ⟨rfl, hb⟩
    have H := bTrans H hb
    have A5 := bkOf hb A5
    have A6 := bkOf hb A6
    have A7 := bkOf hb A7
    have A9 := bkOf hb A9
    have A11 := bkOf hb A11
    clear hb
    obtain ⟨c5a, c5b, f5a, f5b, l5⟩ := id A5
    have q5_ := Nat.ne_of_lt l5
    obtain ⟨c6a, c6b, f6a, f6b, l6⟩ := id A6
    have q6_ := Nat.ne_of_lt l6
    obtain ⟨c7a, c7b, f7a, f7b, l7⟩ := id A7
    have q7_ := Nat.ne_of_lt l7
    obtain ⟨c9a, c9b, f9a, f9b, l9⟩ := id A9
    have q9_ := Nat.ne_of_lt l9
    obtain ⟨c11a, c11b, f11a, f11b, l11⟩ := id A11
    have q11_ := Nat.ne_of_lt l11
    go_wp2_with fail
    clear c5a c5b f5a f5b l5 q5_ c6a c6b f6a f6b l6 q6_ c7a c7b f7a f7b l7 q7_ c9a c9b f9a f9b l9 q9_ c11a c11b f11a f11b l11 q11_
    refine (K4.out _).mono ?_
    rintro e u8 ⟨rfl, hb⟩
    have H := bTrans H hb
    have A5 := bkOf hb A5
    have A6 := bkOf hb A6
    have A7 := bkOf hb A7
    have A9 := bkOf hb A9
    have A11 := bkOf hb A11
    clear hb
    clear A7
    clear A9
    clear A11
    obtain ⟨c5a, c5b, f5a, f5b, l5⟩ := id A5
    have q5_ := Nat.ne_of_lt l5
    obtain ⟨c6a, c6b, f6a, f6b, l6⟩ := id A6
    have q6_ := Nat.ne_of_lt l6
    go_wp2_with fail
    clear c5a c5b f5a f5b l5 q5_ c6a c6b f6a f6b l6 q6_
    refine (K5.out _).mono ?_
    rintro e u9 ⟨rfl, hb⟩
    have H := bTrans H hb
    have A5 := bkOf hb A5
    have A6 := bkOf hb A6
    clear hb
    obtain ⟨c5a, c5b, f5a, f5b, l5⟩ := id A5
    have q5_ := Nat.ne_of_lt l5
    obtain ⟨c6a, c6b, f6a, f6b, l6⟩ := id A6
    have q6_ := Nat.ne_of_lt l6
    go_wp2_with fail
    clear c5a c5b f5a f5b l5 q5_ c6a c6b f6a f6b l6 q6_
    refine (K6.out _).mono ?_
    rintro e u10 ⟨rfl, hb⟩
    have H := bTrans H hb
    have A5 := bkOf hb A5
    have A6 := bkOf hb A6
    clear hb
    have m22 : -132 ≤ -3 * n := by omega
    have m23 : -3 * n ≤ 132 := by omega
    have m24 : -60 ≤ -3 * d := by omega
    have m25 : -3 * d ≤ -3 := by omega
    obtain ⟨c5a, c5b, f5a, f5b, l5⟩ := id A5
    have q5_ := Nat.ne_of_lt l5
    obtain ⟨c6a, c6b, f6a, f6b, l6⟩ := id A6
    have q6_ := Nat.ne_of_lt l6
    go_wp2_with fail
    clear c5a c5b f5a f5b l5 q5_ c6a c6b f6a f6b l6 q6_
    have A17 : Bk (u10.alloc (.cells #[.int .i64 E, .int .i64 F] 25)) u10.heap.size E F := by refine ⟨?_, ?_, ?_, ?_, ?_⟩ <;> go_simp
    have A5 := bkOf (bAlloc (Below.refl u10.heap.size u10) (.cells #[.int .i64 E, .int .i64 F] 25)) A5
    have A6 := bkOf (bAlloc (Below.refl u10.heap.size u10) (.cells #[.int .i64 E, .int .i64 F] 25)) A6
    have H := bAlloc H (.cells #[.int .i64 E, .int .i64 F] 25)
    generalize u10.alloc (.cells #[.int .i64 E, .int .i64 F] 25) = w17 at *
    generalize u10.heap.size = g17 at *
    refine (K7.out _).mono ?_
    rintro e u11 ⟨rfl, hb⟩
    have H := bTrans H hb
    have A5 := bkOf hb A5
    have A6 := bkOf hb A6
    have A17 := bkOf hb A17
    clear hb
    obtain ⟨c5a, c5b, f5a, f5b, l5⟩ := id A5
    have q5_ := Nat.ne_of_lt l5
    obtain ⟨c6a, c6b, f6a, f6b, l6⟩ := id A6
    have q6_ := Nat.ne_of_lt l6
    obtain ⟨c17a, c17b, f17a, f17b, l17⟩ := id A17
    have q17_ := Nat.ne_of_lt l17
    go_wp2_with fail
    clear c5a c5b f5a f5b l5 q5_ c6a c6b f6a f6b l6 q6_ c17a c17b f17a f17b l17 q17_
    have A19 : Bk (u11.alloc (.cells #[.int .i64 n, .int .i64 d] 25)) u11.heap.size n d := by refine ⟨?_, ?_, ?_, ?_, ?_⟩ <;> go_simp
    have A5 := bkOf (bAlloc (Below.refl u11.heap.size u11) (.cells #[.int .i64 n, .int .i64 d] 25)) A5
    have A6 := bkOf (bAlloc (Below.refl u11.heap.size u11) (.cells #[.int .i64 n, .int .i64 d] 25)) A6
    have A17 := bkOf (bAlloc (Below.refl u11.heap.size u11) (.cells #[.int .i64 n, .int .i64 d] 25)) A17
    have H := bAlloc H (.cells #[.int .i64 n, .int .i64 d] 25)
    generalize u11.alloc (.cells #[.int .i64 n, .int .i64 d] 25) = w19 at *
    generalize u11.heap.size = g19 at *
    refine (K8.out _).mono ?_
    rintro e u12 ⟨rfl, hb⟩
    have H := bTrans H hb
    have A5 := bkOf hb A5
    have A6 := bkOf hb A6
    have A17 := bkOf hb A17
    have A19 := bkOf hb A19
    clear hb
    go_wp2_with fail
    refine (K9.out _ (maxLen_below HL.out H)).mono ?_
    rintro e u13 ⟨rfl, hb⟩
    have H := bTrans H hb
    have A5 := bkOf hb A5
    have A6 := bkOf hb A6
    have A17 := bkOf hb A17
    have A19 := bkOf hb A19
    clear hb
    clear K1 K2 K3 K4 K5 K6 K7 K8 K9 V1 V2 HL e1 e2
    by_cases hr : r = 0
    · obtain ⟨h1, h2⟩ := rz.1 hr
      have h3 := Ez.2 hr
      subst h1 h2 h3 hr
      clear rz Ez E0 r0 r1 x0 x1 y0 y1 m1 m2 m3 m4 m5 m6 m7 m8 m9 m10 m11 m12 m13 m14 m15 m16 m17 m18 m19 m20 m21 m22 m23 m24 m25
      obtain ⟨c5a, c5b, f5a, f5b, l5⟩ := id A5
      have q5_ := Nat.ne_of_lt l5
      obtain ⟨c6a, c6b, f6a, f6b, l6⟩ := id A6
      have q6_ := Nat.ne_of_lt l6
      obtain ⟨c17a, c17b, f17a, f17b, l17⟩ := id A17
      have q17_ := Nat.ne_of_lt l17
      obtain ⟨c19a, c19b, f19a, f19b, l19⟩ := id A19
      have q19_ := Nat.ne_of_lt l19
      go_wp2_with fail
      go_ret
      exact ⟨rfl, bAlloc H _⟩
    · have hrb : (r == 0) = false := by rw [beq_eq_false_iff_ne]; exact hr
      have heb : (E == 0) = false := by rw [beq_eq_false_iff_ne]; exact fun h => hr (Ez.1 h)
      have hnb : (n == p && d == q) = false := by
        rw [Bool.eq_false_iff]
        intro h
        simp at h
        exact hr (rz.2 h)
      have hE1 : ¬ E = 0 := fun h => hr (Ez.1 h)
      clear rz Ez x0 x1 y0 y1 m1 m2 m3 m4 m5 m6 m7 m8 m9 m10 m11 m12 m13 m14 m15 m16 m17 m18 m19 m20 m21 m22 m23 m24 m25
      obtain ⟨c5a, c5b, f5a, f5b, l5⟩ := id A5
      have q5_ := Nat.ne_of_lt l5
      obtain ⟨c6a, c6b, f6a, f6b, l6⟩ := id A6
      have q6_ := Nat.ne_of_lt l6
      obtain ⟨c17a, c17b, f17a, f17b, l17⟩ := id A17
      have q17_ := Nat.ne_of_lt l17
      obtain ⟨c19a, c19b, f19a, f19b, l19⟩ := id A19
      have q19_ := Nat.ne_of_lt l19
      go_wp2_with fail
      go_ret
      exact ⟨rfl, bAlloc H _⟩

end Go.Proofs.YtmgkoijnjhfinaaDoor
