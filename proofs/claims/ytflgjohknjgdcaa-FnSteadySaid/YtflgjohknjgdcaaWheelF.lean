/- Facts of two wheels and of the share of light, and two draws. -/
import Derived.Test.YtflgjohknjgdcaaProg
import Derived.Test.YtflgjohknjgdcaaLitImpl
import Derived.Test.YtflgjohknjgdcaaBoth
import Derived.Test.YtflgjohknjgdcaaBldDraw3
import Derived.Test.YtflgjohknjgdcaaBldDraw4
import Derived.Test.YtflgjohknjgdcaaBldLaws4
import Derived.Test.YtflgjohknjgdcaaBldLaws1
import Derived.Laws.Cover1
import Derived.Deep.RegionWith
import Derived.Deep.DrawnRows
import Derived.Deep.RegionHeld3
import Derived.Deep.DeepCutAuto
import Derived.Laws.StructEq
import Derived.Tactics
import Derived.Tactics2
import Derived.WalkKit
import Derived.LoopTactic
import Derived.BigQuiet
import Derived.RegionTactic
import Derived.Deep.QuietTactic
import Derived.Outline
import Derived.Lib.Hide
import Derived.Below
import Derived.KernelRfl
namespace Go.Proofs.Ytflgjohknjgdcaa
set_option linter.unusedSimpArgs false
set_option linter.unusedVariables false
open Go.RowKit


theorem cnt_left (P Q : Nat → Bool) : ∀ n, cnt (fun k => P k && Q k) n ≤ cnt P n
  | 0 => Nat.le_refl _
  | n + 1 => by
    have := cnt_left P Q n
    simp only [cnt]
    by_cases hP : P n = true <;> by_cases hQ : Q n = true <;> simp [hP, hQ] <;> omega
theorem cnt_right (P Q : Nat → Bool) : ∀ n, cnt (fun k => P k && Q k) n ≤ cnt Q n
  | 0 => Nat.le_refl _
  | n + 1 => by
    have := cnt_right P Q n
    simp only [cnt]
    by_cases hP : P n = true <;> by_cases hQ : Q n = true <;> simp [hP, hQ] <;> omega
theorem cnt_both (P Q : Nat → Bool) : ∀ n, cnt P n + cnt Q n ≤ cnt (fun k => P k && Q k) n + n
  | 0 => Nat.le_refl _
  | n + 1 => by
    have := cnt_both P Q n
    simp only [cnt]
    by_cases hP : P n = true <;> by_cases hQ : Q n = true <;> simp [hP, hQ] <;> omega

theorem Wh.whole {m o : Int} {M S G : Nat} (W : Wh m o M S G) : ((cnt (fun k => decide (k % S < G)) 1000 : Nat) : Int) = o := by
  have g1 := W.gs
  have hS : 0 < S := by omega
  rw [← before_eq S G hS (by omega) 1000]
  have e1 : 1000 / S = M := by rw [← W.ms]; exact Nat.mul_div_cancel _ hS
  have e2 : 1000 % S = 0 := by rw [← W.ms]; exact Nat.mul_mod_left _ _
  rw [e1, e2, Nat.zero_min, Nat.add_zero, W.ho]

theorem Wh.shifted {m o : Int} {M S G : Nat} (W : Wh m o M S G) (y : Nat) : ((cnt (fun k => decide ((k + y) % S < G)) 1000 : Nat) : Int) = o := by
  have hp : Per (litN 1 1 S G) (Nat.gcd 1 S) := lit_per 1 1 S G (Ma := 1000) (Mb := M) rfl W.ms
  have e0 : ∀ z, litN 1 1 S G z = cnt (fun k => decide ((k + z) % S < G)) 1000 := fun z => cnt_congr _ fun k _ => by simp [Nat.mod_one]
  have h := hp.mod y
  rw [Nat.gcd_one_left, Nat.mod_one, e0, e0] at h
  rw [← h]
  simpa using W.whole

theorem lit_bounds {a b c d : Int} {Ma Sa Ga Mb Sb Gb : Nat} (WA : Wh a b Ma Sa Ga) (WB : Wh c d Mb Sb Gb) (y : Nat) :
    (litN Sa Ga Sb Gb y : Int) ≤ b ∧ (litN Sa Ga Sb Gb y : Int) ≤ d ∧ b + d - 1000 ≤ (litN Sa Ga Sb Gb y : Int) := by
  have h1 := cnt_left (fun k => decide (k % Sa < Ga)) (fun k => decide ((k + y) % Sb < Gb)) 1000
  have h2 := cnt_right (fun k => decide (k % Sa < Ga)) (fun k => decide ((k + y) % Sb < Gb)) 1000
  have h3 := cnt_both (fun k => decide (k % Sa < Ga)) (fun k => decide ((k + y) % Sb < Gb)) 1000
  have e1 := WA.whole
  have e2 := WB.shifted y
  unfold litN
  omega

theorem two_facts (a b c d y : Int) : ∃ x z : Int, (∀ w : World, Calls Try.prog 37 #[fr a b, fr c d, .int .i64 y] w fun e w' => e = .returned (.tuple #[.int .i64 x, .int .i64 z]) ∧ Below w.heap.size w w') ∧ (∀ w : World, Calls Try.prog 36 #[fr a b, fr c d, .int .i64 y] w fun e w' => e = .returned (.tuple #[.int .i64 x, .int .i64 z]) ∧ Below w.heap.size w w') ∧
    (¬ z = 0 ∨ (z = 0 ∧ (0 ≤ x ∧ x ≤ b ∧ x ≤ d ∧ b + d - 1000 ≤ x) ∧ (0 ≤ b ∧ b ≤ 1000) ∧ (0 ≤ d ∧ d ≤ 1000))) := by
  cases h1 : bladesB a b
  · exact ⟨_, 1, fun w => specTwo_bad1 a b c d y w h1, fun w => implTwo_bad1 a b c d y w h1, .inl (by decide)⟩
  · cases h2 : bladesB c d
    · exact ⟨_, 1, fun w => specTwo_bad2 a b c d y w h1 h2, fun w => implTwo_bad2 a b c d y w h1 h2, .inl (by decide)⟩
    · cases h4 : inB y 0 999
      · exact ⟨_, 2, fun w => specTwo_off a b c d y w h1 h2 h4, fun w => implTwo_off a b c d y w h1 h2 h4, .inl (by decide)⟩
      · obtain ⟨Ma, Sa, Ga, WA⟩ := Wh.of h1
        obtain ⟨Mb, Sb, Gb, WB⟩ := Wh.of h2
        obtain ⟨y0, y1⟩ := inB_iff.1 h4
        obtain ⟨k, rfl⟩ := Int.eq_ofNat_of_zero_le y0
        have hb := lit_bounds WA WB k
        have sa := WA.sb
        have sb := WB.sb
        exact ⟨_, 0, fun w => specTwo_yes a b c d WA WB h1 h2 k h4 w, fun w => implTwo_yes a b c d WA WB h1 h2 k h4 w, .inr ⟨rfl, by omega, by omega, by omega⟩⟩

set_option maxRecDepth 100000 in
theorem lit_facts (m o : Int) : ∃ p q z : Int, (∀ w : World, Calls Try.prog 40 #[fr m o] w fun e w' => e = .returned (.tuple #[fr p q, .int .i64 z]) ∧ Below w.heap.size w w') ∧ (∀ w : World, Calls Try.prog 39 #[fr m o] w fun e w' => e = .returned (.tuple #[fr p q, .int .i64 z]) ∧ Below w.heap.size w w') ∧
    (¬ z = 0 ∨ (z = 0 ∧ (∀ w : World, Calls Try.prog 28 #[fr m o, .int .i64 0, .int .i64 1000] w fun e w' => e = .returned (.tuple #[.int .i64 o, .int .i64 0]) ∧ Below w.heap.size w w') ∧ p * 1000 = o * q ∧ (-1000 ≤ p ∧ p ≤ 1000))) := by
  cases h1 : bladesB m o
  · exact ⟨0, 0, 1, fun w => specLit_bad m o w h1, fun w => implLit_bad m o w h1, .inl (by decide)⟩
  · obtain ⟨M, S, G, W⟩ := Wh.of h1
    have sb := W.sb
    have hp := tdivI_le o 1000
    refine ⟨_, _, 0, fun w => specLit_yes m o w h1, fun w => implLit_yes m o w h1, .inr ⟨rfl, fun w => ?_, lowest_cross o 1000, by omega⟩⟩
    have h := implParts_yes m o W h1 0 1000 (by omega) (by omega) w
    have e : ((beforeN S G 1000 - beforeN S G 0 : Nat) : Int) = o := by
      have e2 : beforeN S G 0 = 0 := rfl
      rw [e2, Nat.sub_zero]
      exact W.whole
    rw [e] at h
    exact h

theorem dark_facts (m o n d : Int) (hn : I64 n) : ∃ p q z : Int, (∀ w : World, Calls Try.prog 43 #[fr m o, fr n d] w fun e w' => e = .returned (.tuple #[fr p q, .int .i64 z]) ∧ Below w.heap.size w w') ∧ (∀ w : World, Calls Try.prog 42 #[fr m o, fr n d] w fun e w' => e = .returned (.tuple #[fr p q, .int .i64 z]) ∧ Below w.heap.size w w') ∧ (¬ z = 0 ∨ (z = 0 ∧ 0 ≤ p)) := by
  cases h1 : bladesB m o
  · exact ⟨0, 0, 1, fun w => specDark_bad m o n d w hn (by simp [h1]), fun w => implDark_bad1 m o n d w h1, .inl (by decide)⟩
  · cases h2 : okB n d
    · exact ⟨0, 0, 1, fun w => specDark_bad m o n d w hn (by simp [h2]), fun w => implDark_bad2 m o n d w h1 h2, .inl (by decide)⟩
    · cases h3 : rateB n d
      · exact ⟨0, 0, 2, fun w => specDark_off m o n d w hn (by simp [h1, h2]) (by simp [h3]), fun w => implDark_off m o n d w h1 h2 h3, .inl (by decide)⟩
      · obtain ⟨M, S, G, W⟩ := Wh.of h1
        have sb := W.sb
        have rb := rateB_bd h3
        refine ⟨_, _, 0, fun w => specDark_yes m o n d w hn h1 h2 h3, fun w => implDark_yes m o n d w h1 h2 h3, .inr ⟨rfl, ?_⟩⟩
        refine Int.tdiv_nonneg (Int.mul_nonneg (Int.ediv_nonneg (by omega) (by omega)) (by omega)) (Int.le_of_lt (divI_pos (by omega)))

theorem open_facts (m o p : Int) : ∃ (t : Bool) (z : Int), (∀ w : World, Calls Try.prog 45 #[fr m o, .int .i64 p] w fun e w' => e = .returned (.tuple #[.bool t, .int .i64 z]) ∧ Below w.heap.size w w') ∧ (∀ w : World, Calls Try.prog 34 #[fr m o, .int .i64 p] w fun e w' => e = .returned (.tuple #[.bool t, .int .i64 z]) ∧ Below w.heap.size w w') := by
  cases h1 : bladesB m o
  · exact ⟨_, 1, fun w => specOpen_bad m o p w h1, fun w => implOpen_bad m o p w h1⟩
  · cases h4 : inB p 0 999
    · exact ⟨_, 2, fun w => specOpen_off m o p w h1 h4, fun w => implOpen_off m o p w h1 h4⟩
    · obtain ⟨M, S, G, W⟩ := Wh.of h1
      obtain ⟨p0, p1⟩ := inB_iff.1 h4
      obtain ⟨k, rfl⟩ := Int.eq_ofNat_of_zero_le p0
      exact ⟨_, 0, fun w => specOpen_yes m o W h1 k h4 w, fun w => implOpen_yes m o W h1 k h4 w⟩

/-- spec.DrawLitShare. -/
theorem DrawLitShare_any (a : Option Addr) (len cap : Nat) (zs : List Int) (w : World) (hr : Row w a len cap zs) :
    Calls Try.prog 38 #[.slice a len cap] w fun e w' => ∃ x y : Int, e = .returned (fr x y) ∧ Below w.heap.size w w' := by
  have hb0 : Below w.heap.size w (w.alloc (.cells #[.int .i64 0, .int .i64 0] 25)) := bAlloc (Below.refl _ _) _
  have F := fromS a len cap zs (w.alloc (.cells #[.int .i64 0, .int .i64 0] 25)) (hr.below hb0)
  simp only [World.size_alloc] at F
  have R0 : Bk (w.alloc (.cells #[.int .i64 0, .int .i64 0] 25)) w.heap.size 0 0 := bkNew0 _ _ _ _
  go_enter Try.func38, Try.ntmps38
  go_wp2_with fail
  refine F.mono ?_
  clear F
  rintro e u1 ⟨rfl, hs1, hb1, hz1⟩
  replace R0 := bkOf (W := (w.alloc (.cells #[.int .i64 0, .int .i64 0] 25))) (by simp only [World.size_alloc]; exact hb1) R0
  have HB1 := Lib.hid (hb0.trans (hb1.mono (by omega)))
  have HS1 := Lib.hid hs1
  clear hs1 hb1 hb0 hr
  go_wp2_with fail
  refine (l09Draw_any _ _ _ HS1.out (by omega)).mono ?_
  rintro e u2 ⟨x, y, rfl, hx, hy, hs2, ho2⟩
  have R2 := bkOnly ho2 (by omega) R0
  have HB2 := Lib.hid (HB1.out.trans (ho2.below (by omega) HB1.out.size))
  clear hs2 ho2 R0 HB1 HS1
  obtain ⟨g0, g1, g2, g3, g4⟩ := R2
  go_wp2_with fail
  refine bodyPost_ret (v := fr x y) (by simp [results, Try.results38, go_sem, g0, g1, g4, Nat.ne_of_lt g4]) rfl ⟨_, _, rfl, ?_⟩
  repeat (first | exact HB2.out | refine bSet ?_ (by first | (simp; done) | (simp; omega)) _)

/-- spec.DrawLongestDark. -/
theorem DrawLongestDark_any (a : Option Addr) (len cap : Nat) (zs : List Int) (w : World) (hr : Row w a len cap zs) :
    Calls Try.prog 41 #[.slice a len cap] w fun e w' => ∃ x y p q : Int, e = .returned (.tuple #[fr x y, fr p q]) ∧ (I64 x ∧ I64 y ∧ I64 p ∧ I64 q) ∧ Below w.heap.size w w' := by
  have hb0 : Below w.heap.size w ((w.alloc (.cells #[.int .i64 0, .int .i64 0] 25)).alloc (.cells #[.int .i64 0, .int .i64 0] 27)) := bAlloc (bAlloc (Below.refl _ _) _) _
  have F := l09With_any a len cap zs ((w.alloc (.cells #[.int .i64 0, .int .i64 0] 25)).alloc (.cells #[.int .i64 0, .int .i64 0] 27)) (hr.below hb0)
  have R0 : Bk ((w.alloc (.cells #[.int .i64 0, .int .i64 0] 25)).alloc (.cells #[.int .i64 0, .int .i64 0] 27)) w.heap.size 0 0 := by refine ⟨?_, ?_, ?_, ?_, ?_⟩ <;> go_simp
  have R1 : Bk ((w.alloc (.cells #[.int .i64 0, .int .i64 0] 25)).alloc (.cells #[.int .i64 0, .int .i64 0] 27)) (w.heap.size + 1) 0 0 := by refine ⟨?_, ?_, ?_, ?_, ?_⟩ <;> go_simp
  go_enter Try.func41, Try.ntmps41
  go_wp2_with fail
  refine F.mono ?_
  clear F
  rintro e u1 ⟨x, y, p, q, rfl, hx, hb1⟩
  have T0 := bkOf hb1 R0
  have T1 := bkOf hb1 R1
  have HB1 := Lib.hid (bTrans hb0 hb1)
  clear hb1 hb0 hr R0 R1
  obtain ⟨g0, g1, g2, g3, g4⟩ := T0
  obtain ⟨f0, f1, f2, f3, f4⟩ := T1
  go_wp2_with fail
  refine bodyPost_ret (v := .tuple #[fr x y, fr p q]) (by simp [results, Try.results41, go_sem, g0, g1, g4, f0, f1, f4, Nat.ne_of_lt g4, Nat.ne_of_lt f4]) rfl ⟨_, _, _, _, rfl, hx, ?_⟩
  repeat (first | exact HB1.out | refine bSet ?_ (by first | (simp; done) | (simp; omega)) _)

end Go.Proofs.Ytflgjohknjgdcaa
