/- FnMotions: a motion begins again after its period and not before, the first turn is the same for all turns; the statement's walk. -/
import Derived.Test.YtibafngidpmgdaaFnDiscs
import Derived.Test.YtibafngidpmgdaaChg
import Derived.Laws.Cover1
import Derived.Deep.RegionHeld3
import Derived.BigQuiet
import Derived.Deep.QuietTactic
import Derived.Outline
import Derived.Lib.Hide
import Derived.Below
import Derived.KernelRfl
namespace Go.Proofs.Ytibafngidpmgdaa
set_option linter.unusedSimpArgs false
set_option linter.unusedVariables false
open Go.RowKit

theorem period_ok (s : ByteArray) (w : World) (h : motB s = true) :
    Calls Try.prog 66 #[.string s] w fun e w' => e = .returned (.tuple #[.int .i64 (firstN (againB s) s.size : Nat), .int .i64 0]) ∧ Below w.heap.size w w' := by
  have h1 := implPeriod_any s w (motSize h)
  rw [numV_yes h] at h1
  exact h1
theorem same_ok (a b : ByteArray) (w : World) (h : motB a = true) (h2 : motB b = true) :
    Calls Try.prog 67 #[.string a, .string b] w fun e w' => e = .returned (.tuple #[.bool (turnB a b), .int .i64 0]) ∧ Below w.heap.size w w' := by
  have h1 := implSame_any a b w (motSize h) (motSize h2)
  rw [sameV_yes h h2] at h1
  exact h1
theorem same_spec (a b : ByteArray) (w : World) (h : motB a = true) (h2 : motB b = true) :
    Calls Try.prog 71 #[.string a, .string b] w fun e w' => e = .returned (.tuple #[.bool (turnB a b), .int .i64 0]) ∧ Below w.heap.size w w' := by
  have h1 := specSame_any a b w (motSize h) (motSize h2)
  rw [sameV_yes h h2] at h1
  exact h1
theorem first_ok (s : ByteArray) (w : World) (h : motB s = true) :
    Calls Try.prog 68 #[.string s] w fun e w' => e = .returned (.tuple #[.string (firstT s), .int .i64 0]) ∧ Below w.heap.size w w' := by
  have h1 := implFirst_any s w (motSize h)
  rw [textV_yes h] at h1
  exact h1
theorem back_ok (s : ByteArray) (w : World) (h : motB s = true) :
    Calls Try.prog 69 #[.string s] w fun e w' => e = .returned (.tuple #[.string (backB s), .int .i64 0]) ∧ Below w.heap.size w w' := by
  have h1 := implBack_any s w (motSize h)
  rw [if_pos h, if_pos h] at h1
  exact h1
theorem looks_ok (s : ByteArray) (w : World) (h : motB s = true) :
    Calls Try.prog 70 #[.string s] w fun e w' => e = .returned (.tuple #[.bool (turnB s (backB s)), .int .i64 0]) ∧ Below w.heap.size w w' := by
  have h1 := implLooks_any s w (motSize h)
  rw [looksV_yes h] at h1
  exact h1
theorem changes_ok (s : ByteArray) (w : World) (h : motB s = true) :
    Calls Try.prog 72 #[.string s] w fun e w' => e = .returned (.tuple #[.int .i64 (changesN s s.size : Nat), .int .i64 0]) ∧ Below w.heap.size w w' := by
  have h1 := implChg_any s w (motSize h)
  rw [numV_yes h] at h1
  exact h1

set_option maxHeartbeats 16000000 in
set_option maxRecDepth 100000 in
/-- laws.FnMotions. -/
theorem law_FnMotions (a : Option Addr) (l c : Nat) (zs : List Int) (b : Option Addr) (m k : Nat) (ys : List Int) (w : World) (r1 : Row w a l c zs) (r2 : Row w b m k ys) :
    Calls Try.prog 8 #[.slice a l c, .slice b m k] w fun e w' => e = .returned (.bool true) ∧ Below w.heap.size w w' := by
  by_cases hL : 3000 < (l : Int) ∨ 3000 < (m : Int)
  · have hL2 : (decide (3000 < (l : Int)) || decide (3000 < (m : Int))) = true := by simpa using hL
    have C1 := a2Long_any a b l c m k
    rw [hL2] at C1
    clear hL hL2 r1 r2
    go_enter Try.func8, Try.ntmps8
    go_wp2_with fail
    refine (C1 _).mono ?_
    rintro e u ⟨rfl, rfl⟩
    go_wp2_with fail
    go_ret
    exact ⟨rfl, Below.refl _ _⟩
  · have hL2 : (decide (3000 < (l : Int)) || decide (3000 < (m : Int))) = false := by simpa using hL
    have C1 := a2Long_any a b l c m k
    rw [hL2] at C1
    have hl : m ≤ 3000 := by omega
    clear hL hL2
    go_enter Try.func8, Try.ntmps8
    go_wp2_with fail
    refine (C1 _).mono ?_
    rintro e u ⟨rfl, rfl⟩
    go_wp2_with fail
    refine (A2Motion_any a l c zs _ r1).mono ?_
    rintro e u1 ⟨D, rfl, D1, D2, h1⟩
    have H1 := Lib.hid h1
    have R2 := Lib.hid (r2.below h1)
    clear C1 r1 r2 h1
    obtain ⟨d1, d2⟩ := motB_size D1
    go_wp2_with fail
    refine (a2At_any b m k ys 0 D.size _ R2.out (by omega) (by omega) (by omega) (by omega) hl).mono ?_
    rintro e u2 ⟨v, v0, v1, rfl, hb2⟩
    have H2 := Lib.hid (bTrans H1.out hb2)
    clear hb2 H1 R2
    obtain ⟨n, rfl⟩ := Int.eq_ofNat_of_zero_le v0
    have n1 : n < D.size := by omega
    have T1 := rot_motB D1 (Nat.le_of_lt n1)
    have B1 := back_motB D1
    have F1 := first_motB D1
    have K1 := Lib.hid (fun w => period_ok D w D1)
    have K2 := Lib.hid (fun w => same_ok D (rotB D n) w D1 T1)
    have K3 := Lib.hid (fun w => first_ok D w D1)
    have K4 := Lib.hid (fun w => first_ok (rotB D n) w T1)
    rw [first_turn d1 n1] at K4
    have K5 := Lib.hid (fun w => back_ok D w D1)
    have K6 := Lib.hid (fun w => back_ok (backB D) w B1)
    rw [back_back] at K6
    have K7 := Lib.hid (fun w => looks_ok D w D1)
    have K8 := Lib.hid (fun w => same_ok D (backB D) w D1 B1)
    have K9 := Lib.hid (fun w => same_spec D (firstT D) w D1 F1)
    have K10 := Lib.hid (fun w => changes_ok D w D1)
    rw [turnB_hit n1 (eqT_refl _)] at K2
    rw [first_turnB d1] at K9
    obtain ⟨p1, p2, p3, p4, p5⟩ := period_facts (s := D) d1
    have hfl := first_le (s := D) d1
    have PL := Lib.hid p4
    have PN := Lib.hid p5
    have CS := Lib.hid (fun j => show changesN D (j + 1) = if letter D j = letter D ((j + 1) % D.size) then changesN D j else changesN D j + 1 from rfl)
    have hadd := fun w => rotAdd D n w (Nat.le_of_lt n1) d2
    have RA := Lib.hid (fun q (hq : q ≤ D.size) w => rotAdd D q w hq d2)
    clear D1 T1 B1 F1 p4 p5
    obtain ⟨CN, hCN⟩ : ∃ CN, changesN D D.size = CN := ⟨_, rfl⟩
    rw [hCN] at K10
    have HCN := Lib.hid hCN
    clear hCN
    generalize firstN (againB D) D.size = P at *
    generalize hT : rotB D n = T at *
    clear hT
    generalize turnB D (backB D) = lk at *
    generalize backB D = BK at *
    generalize firstT D = FT at *
    go_wp2_with fail
    go_quiet (fail)
    have H2' := Lib.hid (bDrewN H2.out nq)
    clear H2
    go_wp2_with fail
    refine (K1.out _).mono ?_
    rintro e u3 ⟨rfl, hb3⟩
    have H3 := Lib.hid (bTrans H2'.out hb3)
    clear hb3 H2' K1
    go_wp2_with fail
    refine (K2.out _).mono ?_
    rintro e u4 ⟨rfl, hb4⟩
    have H4 := Lib.hid (bTrans H3.out hb4)
    clear hb4 H3 K2
    go_wp2_with fail
    refine (K3.out _).mono ?_
    rintro e u5 ⟨rfl, hb5⟩
    have H5 := Lib.hid (bTrans H4.out hb5)
    clear hb5 H4 K3
    go_wp2_with fail
    refine (K4.out _).mono ?_
    rintro e u6 ⟨rfl, hb6⟩
    have H6 := Lib.hid (bTrans H5.out hb6)
    clear hb6 H5 K4
    go_wp2_with fail
    refine (K5.out _).mono ?_
    rintro e u7 ⟨rfl, hb7⟩
    have H7 := Lib.hid (bTrans H6.out hb7)
    clear hb7 H6 K5
    go_wp2_with fail
    refine (K6.out _).mono ?_
    rintro e u8 ⟨rfl, hb8⟩
    have H8 := Lib.hid (bTrans H7.out hb8)
    clear hb8 H7 K6
    go_wp2_with fail
    refine (K7.out _).mono ?_
    rintro e u9 ⟨rfl, hb9⟩
    have H9 := Lib.hid (bTrans H8.out hb9)
    clear hb9 H8 K7
    have g1 : ¬ (P : Int) < 1 := by omega
    have g2 : ¬ (D.size : Int) < (P : Int) := by omega
    have g0 : ¬ (P : Int) = 0 := by omega
    have g3 : (((D.size : Int) % (P : Int)) != 0) = false := by
      have : (D.size : Int) % (P : Int) = 0 := by exact_mod_cast p3
      simp [this]
    have g4 : (Op.bytesLess FT.toList D.toList || FT.toList == D.toList) = true := hfl
    go_wp2_with fail
    refine (K8.out _).mono ?_
    rintro e u10 ⟨rfl, hb10⟩
    have H10 := Lib.hid (bTrans H9.out hb10)
    clear hb10 H9 K8
    go_wp2_with fail
    clear g1 g2 g3 g4 hfl
    refine (K9.out _).mono ?_
    rintro e u11 ⟨rfl, hb11⟩
    have H11 := Lib.hid (bTrans H10.out hb11)
    clear hb11 H10 K9
    go_wp2_with fail
    refine (K10.out _).mono ?_
    rintro e u12 ⟨rfl, hb12⟩
    have H12 := Lib.hid (bTrans H11.out hb12)
    clear hb12 H11 K10
    have s0 : ¬ (D.size : Int) = 0 := by omega
    have s0n : ¬ D.size = 0 := by omega
    go_wp2_with fail
    go_loopw [29, 28] (fun i z wr => ∃ j cnt q : Nat, j ≤ D.size ∧ i = .int .i64 j ∧ z = .int .i64 cnt ∧ cnt ≤ j ∧ Hid (changesN D j = cnt) ∧ wr = u12.drewN q) (fun i _ _ => D.size - (intOf i).toNat)
    case atStart => exact ⟨0, 0, 0, Nat.zero_le _, rfl, rfl, Nat.le_refl _, Lib.hid rfl, rfl⟩
    case round =>
      obtain ⟨j, cnt, q, hj, rfl, rfl, hcn, HK, rfl⟩ := hrel
      by_cases hlt : j < D.size
      · obtain ⟨t, ht⟩ : ∃ t, (j + 1) % D.size = t := ⟨_, rfl⟩
        obtain ⟨r, hr⟩ : ∃ r, (j + P) % D.size = r := ⟨_, rfl⟩
        have htl : t < D.size := by rw [← ht]; exact Nat.mod_lt _ (by omega)
        have hrl : r < D.size := by rw [← hr]; exact Nat.mod_lt _ (by omega)
        have e1 : ((j : Int) + 1) % (D.size : Int) = (t : Int) := by rw [← ht]; norm_cast
        have e2 : ((j : Int) + (P : Int)) % (D.size : Int) = (r : Int) := by rw [← hr]; norm_cast
        have y2 : (((D[j]'hlt).toNat : Int) != ((D[r]'hrl).toNat : Int)) = false := by
          have h3 := PL.out j hlt
          rw [hr] at h3
          rw [letter_of hlt, letter_of hrl, h3]
          simp
        have HS := CS.out j
        rw [HK.out, ht, ← letter_of hlt, ← letter_of htl] at HS
        clear ht hr
        cases c : (((D[j]'hlt).toNat : Int) != ((D[t]'htl).toNat : Int))
        · have HN := Lib.hid (by rw [if_pos (byteEq c)] at HS; exact HS)
          clear HS
          go_wp2_with fail
          go_quiet (fail)
          go_wp2_with fail
          go_quiet (fail)
          go_wp2
          go_roundw
          case rel => exact ⟨j + 1, cnt, _, by omega, by go_num, rfl, by omega, HN, rfl⟩
          case measure => simp [intOf]; omega
        · have HN := Lib.hid (by rw [if_neg (byteNe c)] at HS; exact HS)
          clear HS
          go_wp2_with fail
          go_quiet (fail)
          go_wp2_with fail
          go_quiet (fail)
          go_wp2
          go_roundw
          case rel => exact ⟨j + 1, cnt + 1, _, by omega, by go_num, by go_num, by omega, HN, rfl⟩
          case measure => simp [intOf]; omega
      · have hjs : j = D.size := by omega
        have hcc : cnt = CN := by rw [← HK.out, ← HCN.out, hjs]
        subst hcc
        clear hjs HK CS PL
        go_wp2_with fail
        go_loopw [31] (fun i wr => ∃ p q : Nat, 1 ≤ p ∧ p ≤ P ∧ i = .int .i64 p ∧ wr = u12.drewN q) (fun i _ => P - (intOf i).toNat)
        case atStart => exact ⟨1, _, Nat.le_refl _, p1, rfl, rfl⟩
        case round =>
          obtain ⟨p, q, hp1, hp2, rfl, rfl⟩ := hrel
          have p0 : ¬ (p : Int) = 0 := by omega
          have p0n : ¬ p = 0 := by omega
          by_cases hlt2 : p < P
          · cases h : ((D.size : Int) % (p : Int) == 0)
            · go_wp2_with fail
              go_quiet (fail)
              go_wp2
              go_roundw
              case rel => exact ⟨p + 1, _, by omega, by omega, by go_num, rfl⟩
              case measure => simp [intOf]; omega
            · have hd : D.size % p = 0 := by
                have h2 : (D.size : Int) % (p : Int) = 0 := by simpa using h
                exact_mod_cast h2
              have hadd2 := RA.out p (by omega)
              have hps : p ≤ D.size := by omega
              have c : ((rotB D p).toList == D.toList) = false := PN.out p hp1 hlt2 hd
              clear hd
              generalize rotB D p = R at *
              go_wp2_with fail
              go_quiet (fail)
              go_wp2
              go_roundw
              case rel => exact ⟨p + 1, _, by omega, by omega, by go_num, rfl⟩
              case measure => simp [intOf]; omega
          · go_wp2
            go_ret
            exact ⟨by simp, bDrewN H12.out _⟩

end Go.Proofs.Ytibafngidpmgdaa
