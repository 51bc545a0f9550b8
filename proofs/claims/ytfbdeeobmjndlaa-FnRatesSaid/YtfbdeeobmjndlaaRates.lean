/- The law of rates: whole turns, wheels, the common time. -/
import Derived.Test.YtfbdeeobmjndlaaProg
import Derived.Test.YtfbdeeobmjndlaaSmall
import Derived.Test.YtfbdeeobmjndlaaTurns
import Derived.Test.YtfbdeeobmjndlaaCommon
import Derived.Deep.RegionWith
import Derived.Deep.DrawnRows
import Derived.Laws.StructEq
import Derived.Deep.DeepCutAuto
import Derived.Tactics
import Derived.Tactics2
import Derived.WalkKit
import Derived.LoopTactic
import Derived.BigQuiet
import Derived.RegionTactic
import Derived.BigRegion
import Derived.Deep.QuietTactic
import Derived.Outline
import Derived.Lib.Hide
import Derived.Below
import Derived.KernelRfl
namespace Go.Proofs.Ytfbdeeobmjndlaa
open Go.RowKit
set_option linter.unusedSimpArgs false
set_option linter.unusedVariables false

/-- What whole turns are, in numbers. -/
theorem turns_facts {n s d : Int} (n0 : 0 ≤ n) (n1 : n ≤ 44) (s0 : 0 ≤ s) (s1 : s ≤ 199) (d0 : 1 ≤ d) (d1 : d ≤ 20) :
    ∃ t, n * s / d = t ∧ 0 ≤ t ∧ t ≤ 8756 ∧ t * d ≤ n * s ∧ n * s < (t + 1) * d ∧ 0 ≤ n * s ∧ n * s ≤ 8756 ∧ 0 ≤ t * d ∧ (t + 1) * d ≤ 8776 := by
  have h1 : 0 ≤ n * s := Int.mul_nonneg n0 s0
  have h2 : n * s ≤ 44 * 199 := Int.mul_le_mul n1 s1 s0 (by omega)
  have h3 := Int.ediv_mul_le (n * s) (show d ≠ 0 by omega)
  have h4 := Int.lt_ediv_add_one_mul_self (n * s) (show 0 < d by omega)
  have h5 : 0 ≤ n * s / d := Int.ediv_nonneg h1 (by omega)
  have h6 : n * s / d ≤ n * s := Int.ediv_le_self _ h1
  refine ⟨_, rfl, h5, by omega, h3, h4, h1, by omega, Int.mul_nonneg h5 (by omega), ?_⟩
  rw [Int.add_mul]
  omega

/-- What a pair of wheels makes of a rate, and the same pair turned round. -/
theorem geared_facts {n d a b : Int} (h : okB n d = true) (n0 : -44 ≤ n) (n1 : n ≤ 44) (d0 : 1 ≤ d) (d1 : d ≤ 20) (a0 : 8 ≤ a) (a1 : a ≤ 47) (b0 : 8 ≤ b) (b1 : b ≤ 47) :
    ∃ x y, fullV (n * a) (d * b) = .tuple #[fr x y, .int .i64 0] ∧ okB x y = true ∧ x * d * b = n * a * y ∧ -2068 ≤ x ∧ x ≤ 2068 ∧ 1 ≤ y ∧ y ≤ 940 ∧ fullV (x * b) (y * a) = .tuple #[fr n d, .int .i64 0] ∧ -41360 ≤ x * d ∧ x * d ≤ 41360 ∧ -2068 ≤ n * a ∧ n * a ≤ 2068 ∧ -1943920 ≤ x * d * b ∧ x * d * b ≤ 1943920 := by
  have hc : Nat.gcd n.natAbs d.natAbs = 1 := by
    have := h
    simp [okB] at this
    exact this.2
  have p1 : 1 ≤ d * b := by have := Int.mul_le_mul d0 (show (1 : Int) ≤ b by omega) (by omega) (by omega); omega
  have p2 : d * b ≤ 940 := Int.le_trans (Int.mul_le_mul d1 b1 (by omega) (by omega)) (by omega)
  have p3 : -2068 ≤ n * a ∧ n * a ≤ 2068 := by
    constructor
    · have := Int.mul_le_mul (show -n ≤ 44 by omega) a1 (by omega) (by omega)
      rw [Int.neg_mul] at this
      omega
    · have := Int.mul_le_mul n1 a1 (by omega) (by omega)
      omega
  have ok := lowest_small (n := n * a) (d := d * b) (by omega) (by omega) (by omega) (by omega)
  obtain ⟨t1, t2⟩ := tdivI_le (n * a) (d * b)
  have cr := lowest_cross (n * a) (d * b)
  have F : fullV (n * a) (d * b) = _ := fullV_yes (n := n * a) (d := d * b) ok
  rw [F]
  generalize (n * a).tdiv (divI (n * a) (d * b)) = x at *
  generalize (d * b).tdiv (divI (n * a) (d * b)) = y at *
  have k := okB_bd ok
  have y1 : y ≤ 940 := by omega
  have x1 : -2068 ≤ x ∧ x ≤ 2068 := by omega
  have q1 : 1 ≤ y * a := by have := Int.mul_le_mul k.1 (show (1 : Int) ≤ a by omega) (by omega) (by omega); omega
  have q2 : y * a ≤ 44180 := Int.le_trans (Int.mul_le_mul y1 a1 (by omega) (by omega)) (by omega)
  have q3 : -97196 ≤ x * b ∧ x * b ≤ 97196 := by
    constructor
    · have := Int.mul_le_mul (show -x ≤ 2068 by omega) b1 (by omega) (by omega)
      rw [Int.neg_mul] at this
      omega
    · have := Int.mul_le_mul x1.2 b1 (by omega) (by omega)
      omega
  have q4 : -41360 ≤ x * d ∧ x * d ≤ 41360 := by
    constructor
    · have := Int.mul_le_mul (show -x ≤ 2068 by omega) d1 (by omega) (by omega)
      rw [Int.neg_mul] at this
      omega
    · have := Int.mul_le_mul x1.2 d1 (by omega) (by omega)
      omega
  have q5 : -1943920 ≤ x * d * b ∧ x * d * b ≤ 1943920 := by
    constructor
    · have := Int.mul_le_mul (show -(x * d) ≤ 41360 by omega) b1 (by omega) (by omega)
      rw [Int.neg_mul] at this
      omega
    · have := Int.mul_le_mul q4.2 b1 (by omega) (by omega)
      omega
  have ok2 := lowest_small (n := x * b) (d := y * a) (by omega) (by omega) (by omega) (by omega)
  have F2 : fullV (x * b) (y * a) = _ := fullV_yes (n := x * b) (d := y * a) ok2
  obtain ⟨e1, e2⟩ := lowest_of_cross (n := n) (d := d) (x := x * b) (y := y * a) (by omega) (by omega) hc (by
    rw [Int.mul_assoc x b d, Int.mul_comm b d, cr, Int.mul_assoc n a y, Int.mul_comm a y])
  refine ⟨x, y, rfl, ok, ?_, x1.1, x1.2, k.1, y1, ?_, q4.1, q4.2, p3.1, p3.2, q5.1, q5.2⟩
  · rw [Int.mul_assoc x d b, cr]
  · rw [F2, e1, e2]

/-- The common time in numbers. -/
theorem common_nat {a b c d : Nat} (h1 : Nat.gcd a b = 1) (h2 : Nat.gcd c d = 1) (a0 : 1 ≤ a) (a1 : a ≤ 44) (b0 : 1 ≤ b) (b1 : b ≤ 20) (c0 : 1 ≤ c) (c1 : c ≤ 44) (d0 : 1 ≤ d) (d1 : d ≤ 20) :
    ∃ T G A C : Nat, b / Nat.gcd b d * d = T ∧ Nat.gcd a c = G ∧ 1 ≤ T ∧ T ≤ 400 ∧ 1 ≤ G ∧ G ≤ 44 ∧ a * T = A * (b * G) ∧ c * T = C * (d * G) ∧ Nat.gcd A C = 1 ∧ Nat.gcd T G = 1 := by
  obtain ⟨b', d', e1, e2, e3⟩ := Nat.exists_coprime b d
  obtain ⟨a', c', e4, e5, e6⟩ := Nat.exists_coprime a c
  have g0 : 0 < Nat.gcd b d := Nat.gcd_pos_of_pos_left _ (by omega)
  have k0 : 0 < Nat.gcd a c := Nat.gcd_pos_of_pos_left _ (by omega)
  have k1 : Nat.gcd a c ≤ a := Nat.le_of_dvd (by omega) (Nat.gcd_dvd_left a c)
  have kd1 := Nat.gcd_dvd_left a c
  have kd2 := Nat.gcd_dvd_right a c
  have q : b / Nat.gcd b d = b' := Nat.div_eq_of_eq_mul_left g0 e2
  rw [q]
  generalize Nat.gcd b d = g at *
  generalize Nat.gcd a c = G at *
  have hb' : b' ∣ b := ⟨g, e2⟩
  have hd' : d' ∣ d := ⟨g, e3⟩
  have ha' : a' ∣ a := ⟨G, e5⟩
  have hc' : c' ∣ c := ⟨G, e6⟩
  have m1 : b' ≤ b := Nat.le_of_dvd (by omega) hb'
  have m2 : b' * d ≤ 20 * 20 := Nat.mul_le_mul (by omega) d1
  have m3 : 0 < b' := Nat.pos_of_ne_zero (by intro h; rw [h] at e2; omega)
  have m4 : 0 < b' * d := Nat.mul_pos m3 (by omega)
  have cab : Nat.Coprime a b := h1
  have ccd : Nat.Coprime c d := h2
  refine ⟨b' * d, G, a' * d', c' * b', rfl, rfl, m4, by omega, k0, by omega, ?_, ?_, ?_, ?_⟩
  · rw [e5, e2, e3]; ac_rfl
  · rw [e6, e3]; ac_rfl
  · have x1 : Nat.Coprime a' b' := (cab.coprime_dvd_left ha').coprime_dvd_right hb'
    have x2 : Nat.Coprime c' d' := (ccd.coprime_dvd_left hc').coprime_dvd_right hd'
    exact Nat.Coprime.mul_left (Nat.Coprime.mul_right e4 x1) (Nat.Coprime.mul_right x2.symm e1.symm)
  · have x1 : Nat.Coprime G b' := (cab.coprime_dvd_left kd1).coprime_dvd_right hb'
    have x2 : Nat.Coprime G d := ccd.coprime_dvd_left kd2
    exact (Nat.Coprime.mul_right x1 x2).symm

/-- What the common time is, in numbers: no divisor of it does. -/
theorem common_facts {a b c d : Nat} (h1 : Nat.gcd a b = 1) (h2 : Nat.gcd c d = 1) (a0 : 1 ≤ a) (a1 : a ≤ 44) (b0 : 1 ≤ b) (b1 : b ≤ 20) (c0 : 1 ≤ c) (c1 : c ≤ 44) (d0 : 1 ≤ d) (d1 : d ≤ 20) :
    ∃ T G A C : Nat, fullV ((b / Nat.gcd b d * d : Nat) : Int) (Nat.gcd a c : Nat) = .tuple #[fr T G, .int .i64 0] ∧ 1 ≤ T ∧ T ≤ 400 ∧ 1 ≤ G ∧ G ≤ 44 ∧ a * T = A * (b * G) ∧ c * T = C * (d * G) ∧ Nat.gcd A C = 1 := by
  obtain ⟨T, G, A, C, rfl, rfl, t0, t1, g0, g1, e1, e2, e3, e4⟩ := common_nat h1 h2 a0 a1 b0 b1 c0 c1 d0 d1
  refine ⟨_, _, A, C, ?_, t0, t1, g0, g1, e1, e2, e3⟩
  have ok := lowest_small (n := ((b / Nat.gcd b d * d : Nat) : Int)) (d := (Nat.gcd a c : Nat)) (by omega) (by omega) (by omega) (by omega)
  have hg : divI ((b / Nat.gcd b d * d : Nat) : Int) (Nat.gcd a c : Nat) = 1 := by
    rw [divI, if_neg (by omega), Int.natAbs_natCast, Int.natAbs_natCast, e4]
    rfl
  have F : fullV ((b / Nat.gcd b d * d : Nat) : Int) (Nat.gcd a c : Nat) = _ := fullV_yes ok
  rw [F, hg, Int.tdiv_one, Int.tdiv_one]

theorem rem_fact {N D A k : Nat} (hD : 1 ≤ D) (h : N = A * D) : ((N : Int) % ((D : Int) * k) = 0) ↔ k ∣ A := by
  rw [h]
  constructor
  · intro e
    have e2 := Int.dvd_of_emod_eq_zero e
    rw [show ((A * D : Nat) : Int) = (D : Int) * A by rw [Int.natCast_mul, Int.mul_comm]] at e2
    have e3 := Int.dvd_of_mul_dvd_mul_left (by omega) e2
    exact Int.natCast_dvd_natCast.1 e3
  · intro ⟨x, e⟩
    apply Int.emod_eq_zero_of_dvd
    refine ⟨x, ?_⟩
    rw [e]
    simp only [Int.natCast_mul]
    ac_rfl

theorem mulB {a b : Nat} {x y : Nat} (h1 : a ≤ x) (h2 : b ≤ y) : (a : Int) * (b : Int) ≤ ((x * y : Nat) : Int) := by
  rw [← Int.natCast_mul]
  exact Int.ofNat_le.2 (Nat.mul_le_mul h1 h2)
theorem mulP {a b : Nat} (h1 : 1 ≤ a) (h2 : 1 ≤ b) : 1 ≤ (a : Int) * (b : Int) := by
  rw [← Int.natCast_mul]
  have : 0 < a * b := Nat.mul_pos h1 h2
  omega

/-- The common time, and all that the law asks of it. -/
theorem common_all {a b c d : Nat} (k1 : okB a b = true) (k2 : okB c d = true) (a0 : 1 ≤ a) (a1 : a ≤ 44) (b0 : 1 ≤ b) (b1 : b ≤ 20) (c0 : 1 ≤ c) (c1 : c ≤ 44) (d0 : 1 ≤ d) (d1 : d ≤ 20) :
    ∃ T G : Nat, fullV ((b / Nat.gcd b d * d : Nat) : Int) (Nat.gcd a c : Nat) = .tuple #[fr T G, .int .i64 0] ∧ 1 ≤ T ∧ T ≤ 400 ∧ 1 ≤ G ∧ G ≤ 44 ∧
      1 ≤ (a : Int) * T ∧ (a : Int) * T ≤ 17600 ∧ 1 ≤ (c : Int) * T ∧ (c : Int) * T ≤ 17600 ∧ 1 ≤ (b : Int) * G ∧ (b : Int) * G ≤ 880 ∧ 1 ≤ (d : Int) * G ∧ (d : Int) * G ≤ 880 ∧
      (a : Int) * T % ((b : Int) * G) = 0 ∧ (c : Int) * T % ((d : Int) * G) = 0 ∧
      ∀ k : Nat, 2 ≤ k → k ≤ 60 → 1 ≤ (b : Int) * G * k ∧ (b : Int) * G * k ≤ 52800 ∧ 1 ≤ (d : Int) * G * k ∧ (d : Int) * G * k ≤ 52800 ∧ ((a : Int) * T % ((b : Int) * G * k) = 0 → ¬ (c : Int) * T % ((d : Int) * G * k) = 0) := by
  have h1 : Nat.gcd a b = 1 := by
    have := k1
    simp [okB] at this
    exact this.2
  have h2 : Nat.gcd c d = 1 := by
    have := k2
    simp [okB] at this
    exact this.2
  obtain ⟨T, G, A, C, F, t0, t1, g0, g1, e1, e2, e3⟩ := common_facts h1 h2 a0 a1 b0 b1 c0 c1 d0 d1
  have p1 : 1 ≤ b * G := Nat.mul_pos b0 g0
  have p2 : 1 ≤ d * G := Nat.mul_pos d0 g0
  have r1 := fun k : Nat => rem_fact (k := k) p1 e1
  have r2 := fun k : Nat => rem_fact (k := k) p2 e2
  simp only [Int.natCast_mul] at r1 r2
  have s1 := (r1 1).2 (Nat.one_dvd _)
  have s2 := (r2 1).2 (Nat.one_dvd _)
  simp only [Int.natCast_one, Int.mul_one, Int.cast_ofNat_Int] at s1 s2
  have w1 := mulB b1 g1
  have w2 := mulB d1 g1
  have w3 := mulP b0 g0
  have w4 := mulP d0 g0
  refine ⟨T, G, F, t0, t1, g0, g1, mulP a0 t0, mulB a1 t1, mulP c0 t0, mulB c1 t1, w3, w1, w4, w2, s1, s2, fun k h2 h3 => ?_⟩
  refine ⟨?_, ?_, ?_, ?_, ?_⟩
  · rw [← Int.natCast_mul]; exact mulP p1 (by omega)
  · rw [← Int.natCast_mul]; exact mulB (x := 880) (y := 60) (Nat.mul_le_mul b1 g1) h3
  · rw [← Int.natCast_mul]; exact mulP p2 (by omega)
  · rw [← Int.natCast_mul]; exact mulB (x := 880) (y := 60) (Nat.mul_le_mul d1 g1) h3
  · intro x y
    have x2 := (r1 k).1 x
    have y2 := (r2 k).1 y
    have z := Nat.dvd_gcd x2 y2
    rw [e3] at z
    have := Nat.le_of_dvd (by omega) z
    omega

theorem neq_fr (a b c d : Int) (w : World) : (binOp .neq 94 (.agg #[.int .i64 a, .int .i64 b]) (.agg #[.int .i64 c, .int .i64 d])).run Try.prog w = .ok (.bool (!(a == c && b == d))) w := by
  rw [show binOp .neq 94 (.agg #[.int .i64 a, .int .i64 b]) (.agg #[.int .i64 c, .int .i64 d]) = (do return .bool (!(← Op.equalIn 10000 94 (.agg #[.int .i64 a, .int .i64 b]) (.agg #[.int .i64 c, .int .i64 d])))) from rfl]
  simp [go_sem, equalIn_fr]
attribute [local go_sem ↓] neq_fr

set_option maxHeartbeats 4000000 in
set_option maxRecDepth 20000 in
theorem law_FnRates (a : Option Addr) (l c : Nat) (zs : List Int) (b : Option Addr) (m k : Nat) (ys : List Int) (w : World) (r1 : Row w a l c zs) (r2 : Row w b m k ys) :
    Calls Try.prog 22 #[.slice a l c, .slice b m k] w fun e w' => e = .returned (.bool true) ∧ Below w.heap.size w w' := by
  by_cases hL : 3000 < (l : Int) ∨ 3000 < (m : Int)
  · have hL2 : (decide (3000 < (l : Int)) || decide (3000 < (m : Int))) = true := by simpa using hL
    have C1 := a2Long_any a b l c m k
    rw [hL2] at C1
    clear hL hL2 r1 r2
    go_enter Try.func22, Try.ntmps22
    go_wp2_with fail
    refine (C1 _).mono ?_
    rintro e u ⟨rfl, rfl⟩
    go_wp2_with fail
    go_ret
    exact ⟨rfl, Below.refl _ _⟩
  · have hL2 : (decide (3000 < (l : Int)) || decide (3000 < (m : Int))) = false := by simpa using hL
    have C1 := a2Long_any a b l c m k
    rw [hL2] at C1
    have hl : m ≤ 3000 := by omega
    clear hL hL2
    go_enter Try.func22, Try.ntmps22
    go_wp2_with fail
    refine (C1 _).mono ?_
    rintro e u ⟨rfl, rfl⟩
    go_wp2_with fail
    refine (A2Fraction_any a l c zs _ r1).mono ?_
    rintro e u1 ⟨n, d, rfl, ok1, n0, n1, d0, d1, hb1⟩
    have r21 := r2.below hb1
    go_wp2_with fail
    have H1 : Below w.heap.size w (u1.alloc (.cells #[.int .i64 n, .int .i64 d] 94)) := bAlloc hb1 _
    have A5 : Bk (u1.alloc (.cells #[.int .i64 n, .int .i64 d] 94)) u1.heap.size n d := by
      refine ⟨?_, ?_, ?_, ?_, ?_⟩ <;> go_simp
    have r22 := r21.below (bAlloc (Below.refl u1.heap.size u1) (.cells #[.int .i64 n, .int .i64 d] 94))
    have r3 := r2.below H1
    refine (A2Fraction_any b m k ys _ r3).mono ?_
    rintro e u2 ⟨p, q, rfl, ok2, p0, p1, q0, q1, hb2⟩
    have H2 := bTrans H1 hb2
    have A5 := bkOf hb2 A5
    have r3 := r2.below (bAlloc H2 (.cells #[.int .i64 p, .int .i64 q] 94))
    have l5 := A5.2.2.2.2
    clear hb1 hb2 H1 r21 r22 C1
    go_wp2_with fail
    have A5 : Bk (u2.alloc (.cells #[.int .i64 p, .int .i64 q] 94)) u1.heap.size n d := bkOf (bAlloc (Below.refl u2.heap.size u2) _) A5
    have A6 : Bk (u2.alloc (.cells #[.int .i64 p, .int .i64 q] 94)) u2.heap.size p q := by
      refine ⟨?_, ?_, ?_, ?_, ?_⟩ <;> go_simp
    refine (a2At_any b m k ys 0 200 _ r3 (by omega) (by omega) (by omega) (by omega) hl).mono ?_
    rintro e u3 ⟨s, s0, s1, rfl, hb3⟩
    have H3 := bTrans (bAlloc H2 (.cells #[.int .i64 p, .int .i64 q] 94)) hb3
    have A5 := bkOf hb3 A5
    have A6 := bkOf hb3 A6
    have r3 := r2.below H3
    generalize u1.heap.size = g5 at *
    generalize u2.heap.size = g6 at *
    clear hb3 H2 l5 r1
    obtain ⟨i0, i1, j0, j1, l5⟩ := id A5
    obtain ⟨i2, i3, j2, j3, l6⟩ := id A6
    go_wp2_with fail
    have hss : inB s 0 1000000 = true := inB_iff.2 (by omega)
    obtain ⟨t, one, CW, hcase⟩ : ∃ t one : Int, (∀ w : World, Calls Try.prog 107 #[fr n d, .int .i64 s] w fun e w' => e = .returned (.tuple #[.int .i64 t, .int .i64 one]) ∧ Below w.heap.size w w') ∧ ((n < 0 ∧ t = 0 ∧ one = 6) ∨ (0 ≤ n ∧ one = 0 ∧ 0 ≤ t ∧ t ≤ 8756 ∧ t * d ≤ n * s ∧ n * s < (t + 1) * d ∧ 0 ≤ n * s ∧ n * s ≤ 8756 ∧ 0 ≤ t * d ∧ (t + 1) * d ≤ 8776)) := by
      by_cases hn : n < 0
      · exact ⟨0, 6, fun w => implTurns_state n d s w ok1 hss hn, .inl ⟨hn, rfl, rfl⟩⟩
      · obtain ⟨t, ht, hf⟩ := turns_facts (n := n) (s := s) (d := d) (by omega) n1 s0 (by omega) d0 d1
        refine ⟨t, 0, fun w => ?_, .inr ⟨by omega, rfl, hf⟩⟩
        rw [← ht]
        exact implTurns_yes n d s w ok1 hss (by omega)
    refine (CW _).mono ?_
    rintro e u4 ⟨rfl, hb4⟩
    have H4 := bTrans H3 hb4
    have A5 := bkOf hb4 A5
    have A6 := bkOf hb4 A6
    have r4 := r2.below H4
    clear hb4 H3 CW hss i0 i1 j0 j1 l5 i2 i3 j2 j3 l6
    obtain ⟨i0, i1, j0, j1, l5⟩ := id A5
    rcases hcase with ⟨hn, rfl, rfl⟩ | ⟨hn, rfl, t0, t1, f1, f2, f3, f4, f5, f6⟩
    all_goals
      go_wp2_with fail
      refine (a2At_any b m k ys 1 40 _ r4 (by omega) (by omega) (by omega) (by omega) hl).mono ?_
      rintro e u5 ⟨x1, x10, x11, rfl, hb5⟩
      have H5 := bTrans H4 hb5
      have A5 := bkOf hb5 A5
      have A6 := bkOf hb5 A6
      have r5 := r2.below H5
      clear hb5 H4
      go_wp2_with fail
      refine (a2At_any b m k ys 2 40 _ r5 (by omega) (by omega) (by omega) (by omega) hl).mono ?_
      rintro e u6 ⟨x2, x20, x21, rfl, hb6⟩
      have H6 := bTrans H5 hb6
      have A5 := bkOf hb6 A5
      have A6 := bkOf hb6 A6
      clear hb6 H5 i0 i1 j0 j1 l5
      obtain ⟨i0, i1, j0, j1, l5⟩ := id A5
      have y10 : 8 ≤ 8 + x1 := by omega
      have y11 : 8 + x1 ≤ 47 := by omega
      have y20 : 8 ≤ 8 + x2 := by omega
      have y21 : 8 + x2 ≤ 47 := by omega
      have D1 : inB (8 + x1) 1 1000 = true := inB_iff.2 (by omega)
      have D2 : inB (8 + x2) 1 1000 = true := inB_iff.2 (by omega)
      go_wp2_with fail
      generalize 8 + x1 = da at *
      generalize 8 + x2 = db at *
      obtain ⟨gx, gy, F1, ok3, eq1, gx0, gx1, gy0, gy1, F2, m1, m2, m3, m4, m5, m6⟩ := geared_facts ok1 n0 n1 d0 d1 y10 y11 y20 y21
      refine (implGeared_yes n d da db _ ok1 D1 D2).mono ?_
      rw [F1]
      rintro e u7 ⟨rfl, hb7⟩
      have H7 := bTrans H6 hb7
      have A5 := bkOf hb7 A5
      have A6 := bkOf hb7 A6
      clear hb7 H6 i0 i1 j0 j1 l5
      obtain ⟨i0, i1, j0, j1, l5⟩ := id A5
      go_wp2_with fail
      have A12 : Bk (u7.alloc (.cells #[.int .i64 gx, .int .i64 gy] 94)) u7.heap.size gx gy := by
        refine ⟨?_, ?_, ?_, ?_, ?_⟩ <;> go_simp
      have A5 : Bk (u7.alloc (.cells #[.int .i64 gx, .int .i64 gy] 94)) g5 n d := bkOf (bAlloc (Below.refl u7.heap.size u7) _) A5
      have A6 : Bk (u7.alloc (.cells #[.int .i64 gx, .int .i64 gy] 94)) g6 p q := bkOf (bAlloc (Below.refl u7.heap.size u7) _) A6
      have H7 := bAlloc H7 (.cells #[.int .i64 gx, .int .i64 gy] 94)
      have m7 : -1943920 ≤ n * da * gy := by omega
      have m8 : n * da * gy ≤ 1943920 := by omega
      generalize u7.heap.size = g12 at *
      generalize u7.alloc (.cells #[.int .i64 gx, .int .i64 gy] 94) = v7 at *
      clear i0 i1 j0 j1 l5
      refine (implGeared_yes gx gy db da _ ok3 D2 D1).mono ?_
      rw [F2]
      rintro e u8 ⟨rfl, hb8⟩
      have H8 := bTrans H7 hb8
      have A5 := bkOf hb8 A5
      have A6 := bkOf hb8 A6
      have A12 := bkOf hb8 A12
      clear hb8 H7 F1 F2 D1 D2
      obtain ⟨i0, i1, j0, j1, l5⟩ := id A5
      obtain ⟨i2, i3, j2, j3, l6⟩ := id A6
      obtain ⟨i4, i5, j4, j5, l7⟩ := id A12
      have q1 := Nat.ne_of_lt l5
      have q2 := Nat.ne_of_lt l6
      have q3 := Nat.ne_of_lt l7
      go_wp2_with fail
      have A16 : Bk (u8.alloc (.cells #[.int .i64 n, .int .i64 d] 94)) g5 n d := bkOf (bAlloc (Below.refl u8.heap.size u8) _) A5
      have A26 : Bk (u8.alloc (.cells #[.int .i64 n, .int .i64 d] 94)) g6 p q := bkOf (bAlloc (Below.refl u8.heap.size u8) _) A6
      have H8 := bAlloc H8 (.cells #[.int .i64 n, .int .i64 d] 94)
      generalize u8.alloc (.cells #[.int .i64 n, .int .i64 d] 94) = v8 at *
      clear i0 i1 j0 j1 l5 i2 i3 j2 j3 l6 i4 i5 j4 j5 l7 q1 q2 q3 A5 A6 A12 m1 m2 m3 m4 m5 m6 m7 m8 eq1
      rcases (show n ≤ 0 ∨ (0 < n ∧ p ≤ 0) ∨ (0 < n ∧ 0 < p) by omega) with hz | ⟨hz, hz2⟩ | ⟨hz, hz2⟩
      · refine (implCommonTime_state n d p q _ ok1 ok2 (by omega)).mono ?_
        rintro e u9 ⟨rfl, hb9⟩
        have H9 := bTrans H8 hb9
        have A5 := bkOf hb9 A16
        have A6 := bkOf hb9 A26
        obtain ⟨i0, i1, j0, j1, l5⟩ := id A5
        obtain ⟨i2, i3, j2, j3, l6⟩ := id A6
        have q1 := Nat.ne_of_lt l5
        have q2 := Nat.ne_of_lt l6
        go_wp2_with fail
        go_ret
        exact ⟨rfl, bAlloc H9 _⟩
      · first
        | (exfalso; omega)
        | (refine (implCommonTime_state n d p q _ ok1 ok2 (by omega)).mono ?_
           rintro e u9 ⟨rfl, hb9⟩
           have H9 := bTrans H8 hb9
           have A5 := bkOf hb9 A16
           have A6 := bkOf hb9 A26
           obtain ⟨i0, i1, j0, j1, l5⟩ := id A5
           obtain ⟨i2, i3, j2, j3, l6⟩ := id A6
           have q1 := Nat.ne_of_lt l5
           have q2 := Nat.ne_of_lt l6
           go_wp2_with fail
           go_ret
           exact ⟨rfl, bAlloc H9 _⟩)
      · first
        | (exfalso; omega)
        | (obtain ⟨N, rfl⟩ := Int.eq_ofNat_of_zero_le (show 0 ≤ n by omega)
           obtain ⟨M, rfl⟩ := Int.eq_ofNat_of_zero_le (show 0 ≤ d by omega)
           obtain ⟨P, rfl⟩ := Int.eq_ofNat_of_zero_le (show 0 ≤ p by omega)
           obtain ⟨Q, rfl⟩ := Int.eq_ofNat_of_zero_le (show 0 ≤ q by omega)
           obtain ⟨T, G, F, T0, T1, G0, G1, X10, X11, X20, X21, Y10, Y11, Y20, Y21, R1, R2, KF0⟩ := common_all ok1 ok2 (show 1 ≤ N by omega) (by omega) (show 1 ≤ M by omega) (by omega) (show 1 ≤ P by omega) (by omega) (show 1 ≤ Q by omega) (by omega)
           have KF := Lib.hid KF0
           clear KF0
           refine (implCommonTime_yes N M P Q _ ok1 ok2 (by omega) (by omega)).mono ?_
           rw [F]
           rintro e u9 ⟨rfl, hb9⟩
           have H9 := bTrans H8 hb9
           have A5 := bkOf hb9 A16
           have A6 := bkOf hb9 A26
           obtain ⟨i0, i1, j0, j1, l5⟩ := id A5
           obtain ⟨i2, i3, j2, j3, l6⟩ := id A6
           have q1 := Nat.ne_of_lt l5
           have q2 := Nat.ne_of_lt l6
           clear F ok1 ok2 ok3 H8 A5 A6 A16 A26 hb9
           have Z1 : ¬ (M : Int) * G = 0 := by omega
           have Z2 : ¬ (Q : Int) * G = 0 := by omega
           go_wp2_with fail
           go_loop [18] (fun x => ∃ j : Nat, 2 ≤ j ∧ j ≤ 61 ∧ x = .int .i64 j) (fun x => 61 - (intOf x).toNat)
           case atStart => exact ⟨2, by omega, by omega, rfl⟩
           case round =>
             obtain ⟨j, k0, k1, rfl⟩ := hrel
             by_cases hk : j ≤ 60
             · obtain ⟨v1, v2, v3, v4, v5⟩ := KF.out j k0 hk
               have Z3 : ¬ (M : Int) * G * j = 0 := by omega
               have Z4 : ¬ (Q : Int) * G * j = 0 := by omega
               by_cases hr : (N : Int) * T % ((M : Int) * G * j) = 0
               · have hr2 := v5 hr
                 clear v5
                 go_wp2_with fail
                 go_round
                 case rel => exact ⟨j + 1, by omega, by omega, by go_num⟩
                 case measure => simp [intOf]; omega
               · clear v5
                 go_wp2_with fail
                 go_round
                 case rel => exact ⟨j + 1, by omega, by omega, by go_num⟩
                 case measure => simp [intOf]; omega
             · go_wp2_with fail
               go_ret
               exact ⟨rfl, bAlloc H9 _⟩)

end Go.Proofs.Ytfbdeeobmjndlaa
