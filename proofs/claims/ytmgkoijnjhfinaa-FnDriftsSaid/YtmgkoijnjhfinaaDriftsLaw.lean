/- The law of drifts. -/
import Derived.Test.YtmgkoijnjhfinaaProg
import Derived.Test.YtmgkoijnjhfinaaDriftFacts
import Derived.Test.YtmgkoijnjhfinaaDrift3
import Derived.Test.YtmgkoijnjhfinaaGhost
import Derived.OwnWalk
import Derived.Deep.RegionWith
import Derived.Deep.DrawnRows
import Derived.Laws.StructEq
import Derived.Deep.DeepCutAuto
import Derived.Tactics
import Derived.Tactics2
import Derived.WalkKit
import Derived.LoopTactic
import Derived.BigQuiet
import Derived.RegionTactic
import Derived.BigRegion
import Derived.Deep.QuietTactic
import Derived.Outline
import Derived.Lib.Hide
import Derived.Below
import Derived.KernelRfl
namespace Go.Proofs.Ytmgkoijnjhfinaa
open Go.RowKit
set_option linter.unusedSimpArgs false
set_option linter.unusedVariables false

theorem neq_fr (a b c d : Int) (w : World) : (binOp .neq 32 (.agg #[.int .i64 a, .int .i64 b]) (.agg #[.int .i64 c, .int .i64 d])).run Try.prog w = .ok (.bool (!(a == c && b == d))) w := by
  rw [show binOp .neq 32 (.agg #[.int .i64 a, .int .i64 b]) (.agg #[.int .i64 c, .int .i64 d]) = (do return .bool (!(← Op.equalIn 10000 32 (.agg #[.int .i64 a, .int .i64 b]) (.agg #[.int .i64 c, .int .i64 d])))) from rfl]
  simp [go_sem, equalIn_fr]
attribute [local go_sem ↓] neq_fr

theorem lowest_ok {p s : Nat} (p1 : 1 ≤ p) (p2 : p ≤ 16) (s1 : 1 ≤ s) (s2 : s ≤ 20) : okB (drN p s) (drD p s) = true := by
  have hr := resid_bd (p : Int) (s := (s : Int)) (by omega)
  exact lowest_small (n := resid p s) (d := s) (by omega) (by omega) (by omega) (by omega)

set_option maxHeartbeats 4000000 in
set_option maxRecDepth 100000 in
theorem law_FnDrifts (a : Option Addr) (l c : Nat) (zs : List Int) (b : Option Addr) (m k : Nat) (ys : List Int) (w : World) (r1 : Row w a l c zs) (r2 : Row w b m k ys) :
    Calls Try.prog 4 #[.slice a l c, .slice b m k] w fun e w' => e = .returned (.bool true) ∧ Below w.heap.size w w' := by
  by_cases hL : 3000 < (l : Int) ∨ 3000 < (m : Int)
  · have hL2 : (decide (3000 < (l : Int)) || decide (3000 < (m : Int))) = true := by simpa using hL
    have C1 := a2Long_any a b l c m k
    rw [hL2] at C1
    clear hL hL2 r1 r2
    go_enter Try.func4, Try.ntmps4
    go_wp2_with fail
    refine (C1 _).mono ?_
    rintro e u ⟨rfl, rfl⟩
    go_wp2_with fail
    go_ret
    exact ⟨rfl, Below.refl _ _⟩
  · have hL2 : (decide (3000 < (l : Int)) || decide (3000 < (m : Int))) = false := by simpa using hL
    have C1 := a2Long_any a b l c m k
    rw [hL2] at C1
    have hl : m ≤ 3000 := by omega
    clear hL hL2
    go_enter Try.func4, Try.ntmps4
    go_wp2_with fail
    refine (C1 _).mono ?_
    rintro e u ⟨rfl, rfl⟩
    go_wp2_with fail
    refine (A2Disc_any a l c zs _ r1).mono ?_
    rintro e u1 ⟨p, s, rfl, p1, p2, s1, s2, H1⟩
    clear C1 r1
    have dB : discB (p : Int) (s : Int) = true := by unfold discB; rw [inB_iff.2 (by omega), inB_iff.2 (by omega)]; rfl
    have ok1 := lowest_ok p1 p2 s1 s2
    have hS0 := slTo_this (p := p) (s := s) s1 (by omega)
    obtain ⟨f1, f2, f3, f4, f5, f6, f7, f8, f9, f10, f11, f12, f13, f14, f15, f16⟩ := drift_facts p1 p2 s1 s2
    have hm0 : ∀ j, j < (slTo p (drN p s) (drD p s) 48).length → drN p ((slTo p (drN p s) (drD p s) 48).getD j 0) = drN p s ∧ drD p ((slTo p (drN p s) (drD p s) 48).getD j 0) = drD p s ∧ 1 ≤ (slTo p (drN p s) (drD p s) 48).getD j 0 ∧ (slTo p (drN p s) (drD p s) 48).getD j 0 ≤ 48 := by
      intro j hj
      obtain ⟨q1, q2, q3⟩ := slTo_mem p (drN p s) (drD p s) 48 j hj
      simp [hasDr] at q1
      exact ⟨q1.1, q1.2, q2, by omega⟩
    have hrise := slTo_rises p (drN p s) (drD p s) 48
    have hlen := slTo_length p (drN p s) (drD p s) 48
    have K1 := Lib.hid (fun w => implDriftOf_yes p s w dB)
    have K2 := Lib.hid (fun w => implStill_yes p s w dB)
    have K3 := Lib.hid (fun w => implGhosts_yes p s w dB)
    have K4 := Lib.hid (fun w => implSlits_yes p (drN p s) (drD p s) w ok1 (inB_iff.2 (by omega)))
    have K6 := Lib.hid (fun n d w h => implDriftRate_yes n d p s w h dB)
    have HM := Lib.hid hm0
    have HR := Lib.hid hrise
    have HS := Lib.hid hS0
    rw [f7] at K3
    clear hm0 hrise hS0 dB f7
    generalize hN : drN (p : Int) (s : Int) = N at *
    generalize hD : drD (p : Int) (s : Int) = D at *
    clear hN hD
    generalize slTo (p : Int) N D 48 = L at *
    go_wp2_with fail
    refine (K1.out _).mono ?_
    rintro e u2 ⟨rfl, hb2⟩
    have H2 := bTrans H1 hb2
    clear hb2 H1
    go_wp2_with fail
    have A7 : Bk (u2.alloc (.cells #[.int .i64 N, .int .i64 D] 32)) u2.heap.size N D := by
      refine ⟨?_, ?_, ?_, ?_, ?_⟩ <;> go_simp
    have H2 := bAlloc H2 (.cells #[.int .i64 N, .int .i64 D] 32)
    generalize u2.heap.size = g7 at *
    generalize u2.alloc (.cells #[.int .i64 N, .int .i64 D] 32) = v2 at *
    refine (K2.out _).mono ?_
    rintro e u3 ⟨rfl, hb3⟩
    have H3 := bTrans H2 hb3
    have A7 := bkOf hb3 A7
    clear hb3 H2
    go_wp2_with fail
    refine (K3.out _).mono ?_
    rintro e u4 ⟨rfl, hb4⟩
    have H4 := bTrans H3 hb4
    have A7 := bkOf hb4 A7
    clear hb4 H3
    obtain ⟨i0, i1, j0, j1, l5⟩ := id A7
    go_wp2_with fail
    refine (K4.out _).mono ?_
    rintro e u5 ⟨v, rfl, iv, hb5⟩
    have H5 := bTrans H4 hb5
    have A7 := bkOf hb5 A7
    have IV := Lib.hid iv
    clear hb5 H4 i0 i1 j0 j1 l5
    have hV := iv.view
    clear iv
    obtain ⟨i0, i1, j0, j1, l5⟩ := id A7
    have hnz : ¬ (s : Int) * D = 0 := by omega
    have Z1 : (p * D - N * s) % (s * D) = 0 := f12
    rcases hV with ⟨_, h0⟩ | ⟨g13, cap, rfl, _, hg13, _, hc, _⟩
    · subst h0
      have := HS.out
      simp [hasI] at this
    have HC := Lib.hid hc
    clear hc
    go_wp2_with (first | (go_at_call 22; refine (a2Has_any _ _ L s _ IV.out).mono ?_; rw [HS.out]; rintro e u ⟨rfl, rfl⟩) | fail)
    clear Z1 hnz
    go_loopw [15] (fun i wr => ∃ k : Nat, k ≤ L.length ∧ i = .int .i64 k ∧ Hid (Below u5.heap.size u5 wr)) (fun i _ => L.length - (intOf i).toNat)
    case atStart => exact ⟨0, Nat.zero_le _, rfl, Lib.hid (Below.refl _ _)⟩
    case round =>
      obtain ⟨q, hq, rfl, HB⟩ := hrel
      have hbz := HB.out.size
      by_cases hlt : q < L.length
      · have c1 : wr.cell? ⟨g13, q, none⟩ = some (.int .i64 (L.getD q 0)) := (HB.out.cell (by exact hg13)).trans (HC.out q hlt)
        obtain ⟨t1, t2, t3, t4⟩ := HM.out q hlt
        have S := Lib.hid (fun w => specDriftOf_yes p (L.getD q 0) w (by unfold discB; rw [inB_iff.2 (by omega), inB_iff.2 (by omega)]; rfl))
        rw [t1, t2] at S
        have B7 := bkOf HB.out A7
        have lg : g13 < wr.heap.size := by omega
        clear t1 t2 t3 t4
        rcases Nat.eq_zero_or_pos q with hq0 | hq0
        · have d3 : decide ((0 : Int) < (q : Int)) = false := decide_eq_false (by omega)
          have d5 : decide (0 < q) = false := decide_eq_false (by omega)
          generalize L.getD q 0 = z at *
          clear hq0
          clear i0 i1 j0 j1 l5
          go_wp2_with fail
          refine (S.out _).mono ?_
          rintro e u6 ⟨rfl, hb6⟩
          have B7 := bkOf hb6 B7
          have hs6 := hb6.size
          have c1 : u6.cell? ⟨g13, q, none⟩ = some (.int .i64 z) := (hb6.cell (by exact lg)).trans c1
          have HB6 := Lib.hid (bTrans (bTrans (a := u5) HB.out hb6) (bAlloc (Below.refl _ _) (.cells #[.int .i64 N, .int .i64 D] 32)))
          have l6 : g13 < u6.heap.size := by omega
          clear hb6 S
          go_wp2_with fail
          have B16 : Bk (u6.alloc (.cells #[.int .i64 N, .int .i64 D] 32)) u6.heap.size N D := by
            refine ⟨?_, ?_, ?_, ?_, ?_⟩ <;> go_simp
          have B7 := bkOf (bAlloc (Below.refl u6.heap.size u6) (.cells #[.int .i64 N, .int .i64 D] 32)) B7
          have c1 := ((bAlloc (Below.refl u6.heap.size u6) (.cells #[.int .i64 N, .int .i64 D] 32)).cell (p := ⟨g13, q, none⟩) (by exact l6)).trans c1
          generalize u6.alloc (.cells #[.int .i64 N, .int .i64 D] 32) = v6 at *
          generalize u6.heap.size = g16 at *
          obtain ⟨i0, i1, j0, j1, l5⟩ := B7
          obtain ⟨i2, i3, j2, j3, l7⟩ := B16
          go_quiet (fail)
          go_wp2
          go_roundw
          case rel => exact ⟨q + 1, by omega, by go_num, Lib.hid (bDrewN HB6.out _)⟩
          case measure => simp [intOf]; omega
        · obtain ⟨j, rfl⟩ : ∃ j, q = j + 1 := ⟨q - 1, by omega⟩
          have c2 : wr.cell? ⟨g13, j, none⟩ = some (.int .i64 (L.getD j 0)) := (HB.out.cell (by exact hg13)).trans (HC.out j (by omega))
          have h3 := HR.out j hlt
          have d3 : decide ((0 : Int) < ((j + 1 : Nat) : Int)) = true := decide_eq_true (by omega)
          have d4 : decide (L.getD (j + 1) 0 ≤ L.getD j 0) = false := decide_eq_false (by omega)
          generalize L.getD (j + 1) 0 = z at *
          generalize L.getD j 0 = y at *
          clear h3
          clear i0 i1 j0 j1 l5
          go_wp2_with fail
          refine (S.out _).mono ?_
          rintro e u6 ⟨rfl, hb6⟩
          have B7 := bkOf hb6 B7
          have hs6 := hb6.size
          have c1 : u6.cell? ⟨g13, j + 1, none⟩ = some (.int .i64 z) := (hb6.cell (by exact lg)).trans c1
          have c2 : u6.cell? ⟨g13, j, none⟩ = some (.int .i64 y) := (hb6.cell (by exact lg)).trans c2
          have HB6 := Lib.hid (bTrans (bTrans (a := u5) HB.out hb6) (bAlloc (Below.refl _ _) (.cells #[.int .i64 N, .int .i64 D] 32)))
          have l6 : g13 < u6.heap.size := by omega
          clear hb6 S
          go_wp2_with fail
          have B16 : Bk (u6.alloc (.cells #[.int .i64 N, .int .i64 D] 32)) u6.heap.size N D := by
            refine ⟨?_, ?_, ?_, ?_, ?_⟩ <;> go_simp
          have B7 := bkOf (bAlloc (Below.refl u6.heap.size u6) (.cells #[.int .i64 N, .int .i64 D] 32)) B7
          have c1 := ((bAlloc (Below.refl u6.heap.size u6) (.cells #[.int .i64 N, .int .i64 D] 32)).cell (p := ⟨g13, j + 1, none⟩) (by exact l6)).trans c1
          have c2 := ((bAlloc (Below.refl u6.heap.size u6) (.cells #[.int .i64 N, .int .i64 D] 32)).cell (p := ⟨g13, j, none⟩) (by exact l6)).trans c2
          generalize u6.alloc (.cells #[.int .i64 N, .int .i64 D] 32) = v6 at *
          generalize u6.heap.size = g16 at *
          obtain ⟨i0, i1, j0, j1, l5⟩ := B7
          obtain ⟨i2, i3, j2, j3, l7⟩ := B16
          go_quiet (fail)
          go_wp2
          go_roundw
          case rel => exact ⟨j + 2, by omega, by go_num, Lib.hid (bDrewN HB6.out _)⟩
          case measure => simp [intOf]; omega
      · have : q = L.length := by omega
        subst this
        have Hw : Below w.heap.size w wr := bTrans H5 HB.out
        have A7 := bkOf HB.out A7
        have r3 := r2.below Hw
        clear HB HC HM HR HS IV K1 K2 K3 K4 H5 ok1 r2 i0 i1 j0 j1 l5 hbz hg13 f8 f9 f10 f11 f12 f13 f14 f15 f16
        go_wp2_with fail
        refine (A2Fraction_any b m k ys _ r3).mono ?_
        rintro e u6 ⟨n, d, rfl, okf, n0, n1, d0, d1, hb6⟩
        have H6 := bTrans Hw hb6
        have A7 := bkOf hb6 A7
        clear hb6 Hw r3
        obtain ⟨X, Y, U, V, F1, F2, Y0, V0, e1, e2, m1, m2, m3, m4, m5, m6, m7, m8, m9, m10, m11, m12⟩ := drate_facts (n := n) (d := d) (p := p) (s := s) (N := N) (D := D) n0 n1 d0 d1 (by omega) (by omega) (by omega) (by omega) f5 f6 f1 (by omega)
        have P6 := Lib.hid (fun w => K6.out n d w okf)
        have P5 := Lib.hid (fun w => implPictureRate_yes n d s w okf (inB_iff.2 (by omega)))
        rw [F1] at P5
        rw [F2] at P6
        clear K6 F1 F2 okf n0 n1 d0 d1 f1 f2 f3 f4 f5 f6
        go_wp2_with fail
        have A18 : Bk (u6.alloc (.cells #[.int .i64 n, .int .i64 d] 32)) u6.heap.size n d := by
          refine ⟨?_, ?_, ?_, ?_, ?_⟩ <;> go_simp
        have A7 := bkOf (bAlloc (Below.refl u6.heap.size u6) (.cells #[.int .i64 n, .int .i64 d] 32)) A7
        have H6 := bAlloc H6 (.cells #[.int .i64 n, .int .i64 d] 32)
        generalize u6.alloc (.cells #[.int .i64 n, .int .i64 d] 32) = v6 at *
        generalize u6.heap.size = g18 at *
        refine (P5.out _).mono ?_
        rintro e u7 ⟨rfl, hb7⟩
        have H7 := bTrans H6 hb7
        have A7 := bkOf hb7 A7
        have A18 := bkOf hb7 A18
        clear hb7 H6 P5
        obtain ⟨i2, i3, j2, j3, l6⟩ := id A18
        go_wp2_with fail
        have A19 : Bk (u7.alloc (.cells #[.int .i64 X, .int .i64 Y] 32)) u7.heap.size X Y := by
          refine ⟨?_, ?_, ?_, ?_, ?_⟩ <;> go_simp
        have A7 := bkOf (bAlloc (Below.refl u7.heap.size u7) (.cells #[.int .i64 X, .int .i64 Y] 32)) A7
        have A18 := bkOf (bAlloc (Below.refl u7.heap.size u7) (.cells #[.int .i64 X, .int .i64 Y] 32)) A18
        have H7 := bAlloc H7 (.cells #[.int .i64 X, .int .i64 Y] 32)
        generalize u7.alloc (.cells #[.int .i64 X, .int .i64 Y] 32) = v7 at *
        generalize u7.heap.size = g19 at *
        clear i2 i3 j2 j3 l6
        refine (P6.out _).mono ?_
        rintro e u8 ⟨rfl, hb8⟩
        have H8 := bTrans H7 hb8
        have A7 := bkOf hb8 A7
        have A18 := bkOf hb8 A18
        have A19 := bkOf hb8 A19
        clear hb8 H7 P6
        obtain ⟨i0, i1, j0, j1, l5⟩ := id A7
        obtain ⟨i2, i3, j2, j3, l6⟩ := id A18
        obtain ⟨i4, i5, j4, j5, l7⟩ := id A19
        have q1 := Nat.ne_of_lt l5
        have q2 := Nat.ne_of_lt l6
        have q3 := Nat.ne_of_lt l7
        have m13 : -56320000 ≤ X * N * V := by omega
        have m14 : X * N * V ≤ 56320000 := by omega
        have m15 : -17600 ≤ n * s * Y := by omega
        have m16 : n * s * Y ≤ 17600 := by omega
        go_wp2_with fail
        go_ret
        exact ⟨rfl, bAlloc H8 _⟩

end Go.Proofs.Ytmgkoijnjhfinaa
