/- The law of loops: steps, turns, common lengths. -/
import Derived.Test.YtfbdeeobmjndlaaProg
import Derived.Test.YtfbdeeobmjndlaaLoopMath
import Derived.Test.YtfbdeeobmjndlaaInts
import Derived.Test.YtfbdeeobmjndlaaLoop
import Derived.Test.YtfbdeeobmjndlaaLoop2
import Derived.Test.YtfbdeeobmjndlaaLoop3
import Derived.Test.YtfbdeeobmjndlaaLoopBoth
import Derived.Deep.AppendLies
import Derived.Deep.DrawnRows
import Derived.Test.YtfbdeeobmjndlaaHold
import Derived.IntWalk
import Derived.WalkSpells
import Derived.OwnWalk
import Derived.Laws.AppendOwn
import Derived.Laws.OwnMore
import Derived.Deep.RegionWith
import Derived.Deep.DrawnRows
import Derived.Deep.RegionHeld3
import Derived.Tactics
import Derived.Tactics2
import Derived.WalkKit
import Derived.LoopTactic
import Derived.BigQuiet
import Derived.RegionTactic
import Derived.Deep.QuietTactic
import Derived.Outline
import Derived.Lib.Hide
import Derived.Below
import Derived.KernelRfl
namespace Go.Proofs.Ytfbdeeobmjndlaa
set_option linter.unusedSimpArgs false
set_option linter.unusedVariables false
open Go.RowKit


set_option maxHeartbeats 4000000 in
set_option maxRecDepth 100000 in
/-- laws.FnLoops, of bytes that are not too many. -/
theorem lawFnLoops_ok (a : Option Addr) (len cap : Nat) (cs : List Int) (w : World) (hr : Row w a len cap cs) (hlen : (len : Int) ≤ 4096) :
    Calls Try.prog 12 #[.slice a len cap] w fun e w' => e = .returned (.bool true) ∧ Below w.heap.size w w' := by
  have HR := Lib.hid hr
  clear hr
  have B := Lib.hid (Below.refl w.heap.size w)
  go_enter Try.func12, Try.ntmps12
  go_wp2_with fail
  refine (f6bigI_any a len cap _).mono ?_
  rintro e u ⟨rfl, rfl⟩
  rw [decide_eq_false (Int.not_lt.2 hlen)]
  go_wp2_with fail
  refine (drawSteps_any a len cap cs _ HR.out).mono ?_
  rintro e u1 ⟨vP, lp, rfl, p1, hlP, hb1⟩
  obtain ⟨EP, fP, rfl, -⟩ := p1.rd (by omega)
  have P := Lib.hid (Ints.rdOf p1 rfl (by omega))
  replace HR := Lib.hid (Row.below HR.out hb1)
  replace B := Lib.hid (bTrans B.out hb1)
  clear p1 hb1
  obtain ⟨z1, qs, SI, SS, hlq, hbq, hzs⟩ := steps_both lp.length lp
  replace SI := Lib.hid SI
  replace SS := Lib.hid SS
  have HBQ := Lib.hid hbq
  have HZS := Lib.hid hzs
  clear hbq hzs
  go_wp2_with fail
  refine (SI.out _ _ _ P.out).mono ?_
  rintro e u2 ⟨vS, rfl, p2, hb2⟩
  obtain ⟨ES, fS, rfl, -⟩ := p2.rd (by omega)
  have S := Lib.hid (Ints.rdOf p2 rfl (by omega))
  replace HR := Lib.hid (Row.below HR.out hb2)
  replace P := Lib.hid (RdI.below P.out hb2)
  replace B := Lib.hid (bTrans B.out hb2)
  clear p2 hb2
  go_wp2_with fail
  refine (SS.out _ _ _ P.out).mono ?_
  rintro e u3 ⟨vM, rfl, p3, hb3⟩
  obtain ⟨EM, fM, rfl, -⟩ := p3.rd (by omega)
  have M := Lib.hid (Ints.rdOf p3 rfl (by omega))
  replace HR := Lib.hid (Row.below HR.out hb3)
  replace P := Lib.hid (RdI.below P.out hb3)
  replace S := Lib.hid (RdI.below S.out hb3)
  replace B := Lib.hid (bTrans B.out hb3)
  clear p3 hb3
  go_wp2_with fail
  refine (drawBest_any a len cap cs _ HR.out).mono ?_
  rintro e u4 ⟨vA, vZ, la, lz, rfl, p4, q4, hlA, hlZ, hb4⟩
  obtain ⟨EA, fA, rfl, -⟩ := p4.rd (by omega)
  have A := Lib.hid (Ints.rdOf p4 rfl (by omega))
  obtain ⟨EZ, fZ, rfl, -⟩ := q4.rd (by omega)
  have Z := Lib.hid (Ints.rdOf q4 rfl (by omega))
  replace HR := Lib.hid (Row.below HR.out hb4)
  replace P := Lib.hid (RdI.below P.out hb4)
  replace S := Lib.hid (RdI.below S.out hb4)
  replace M := Lib.hid (RdI.below M.out hb4)
  replace B := Lib.hid (bTrans B.out hb4)
  clear p4 q4 hb4
  obtain ⟨k, d, z2, BI, BS, hzb⟩ := best_both la.length lz.length la lz
  replace BI := Lib.hid BI
  replace BS := Lib.hid BS
  have HZB := Lib.hid hzb
  clear hzb
  go_wp2_with fail
  refine (BI.out _ _ _ _ _ A.out Z.out).mono ?_
  rintro e u5 ⟨rfl, hb5⟩
  replace HR := Lib.hid (Row.below HR.out hb5)
  replace P := Lib.hid (RdI.below P.out hb5)
  replace S := Lib.hid (RdI.below S.out hb5)
  replace M := Lib.hid (RdI.below M.out hb5)
  replace A := Lib.hid (RdI.below A.out hb5)
  replace Z := Lib.hid (RdI.below Z.out hb5)
  replace B := Lib.hid (bTrans B.out hb5)
  clear hb5
  go_wp2_with fail
  refine (BS.out _ _ _ _ _ A.out Z.out).mono ?_
  rintro e u6 ⟨rfl, hb6⟩
  replace HR := Lib.hid (Row.below HR.out hb6)
  replace P := Lib.hid (RdI.below P.out hb6)
  replace S := Lib.hid (RdI.below S.out hb6)
  replace M := Lib.hid (RdI.below M.out hb6)
  replace A := Lib.hid (RdI.below A.out hb6)
  replace Z := Lib.hid (RdI.below Z.out hb6)
  replace B := Lib.hid (bTrans B.out hb6)
  clear hb6
  go_wp2_with fail
  refine (drawCommon_any a len cap cs _ HR.out).mono ?_
  rintro e u7 ⟨c, dd, rfl, c0, c1, d0, d1, hb7⟩
  replace HR := Lib.hid (Row.below HR.out hb7)
  replace P := Lib.hid (RdI.below P.out hb7)
  replace S := Lib.hid (RdI.below S.out hb7)
  replace M := Lib.hid (RdI.below M.out hb7)
  replace A := Lib.hid (RdI.below A.out hb7)
  replace Z := Lib.hid (RdI.below Z.out hb7)
  replace B := Lib.hid (bTrans B.out hb7)
  clear hb7
  obtain ⟨m, z3, CI, CS, hzc⟩ := common_both c dd
  replace CI := Lib.hid CI
  replace CS := Lib.hid CS
  have HZC := Lib.hid hzc
  clear hzc
  go_wp2_with fail
  refine (CI.out _).mono ?_
  rintro e u8 ⟨rfl, hb8⟩
  replace HR := Lib.hid (Row.below HR.out hb8)
  replace P := Lib.hid (RdI.below P.out hb8)
  replace S := Lib.hid (RdI.below S.out hb8)
  replace M := Lib.hid (RdI.below M.out hb8)
  replace A := Lib.hid (RdI.below A.out hb8)
  replace Z := Lib.hid (RdI.below Z.out hb8)
  replace B := Lib.hid (bTrans B.out hb8)
  clear hb8
  go_wp2_with fail
  refine (CS.out _).mono ?_
  rintro e u9 ⟨rfl, hb9⟩
  replace HR := Lib.hid (Row.below HR.out hb9)
  replace P := Lib.hid (RdI.below P.out hb9)
  replace S := Lib.hid (RdI.below S.out hb9)
  replace M := Lib.hid (RdI.below M.out hb9)
  replace A := Lib.hid (RdI.below A.out hb9)
  replace Z := Lib.hid (RdI.below Z.out hb9)
  replace B := Lib.hid (bTrans B.out hb9)
  clear hb9
  obtain ⟨ra, rb, z4, RI, RS⟩ := rough_both lp.length lp
  replace RI := Lib.hid RI
  replace RS := Lib.hid RS
  go_wp2_with fail
  refine (RI.out _ _ _ P.out).mono ?_
  rintro e u10 ⟨rfl, hb10⟩
  replace HR := Lib.hid (Row.below HR.out hb10)
  replace P := Lib.hid (RdI.below P.out hb10)
  replace S := Lib.hid (RdI.below S.out hb10)
  replace M := Lib.hid (RdI.below M.out hb10)
  replace A := Lib.hid (RdI.below A.out hb10)
  replace Z := Lib.hid (RdI.below Z.out hb10)
  replace B := Lib.hid (bTrans B.out hb10)
  clear hb10
  go_wp2_with fail
  refine (RS.out _ _ _ P.out).mono ?_
  rintro e u11 ⟨rfl, hb11⟩
  replace HR := Lib.hid (Row.below HR.out hb11)
  replace P := Lib.hid (RdI.below P.out hb11)
  replace S := Lib.hid (RdI.below S.out hb11)
  replace M := Lib.hid (RdI.below M.out hb11)
  replace A := Lib.hid (RdI.below A.out hb11)
  replace Z := Lib.hid (RdI.below Z.out hb11)
  replace B := Lib.hid (bTrans B.out hb11)
  clear hb11
  clear SI SS BI BS CI CS RI RS
  go_wp2_with fail
  refine (f6ints_rd ES EM qs.length fS fM qs _ S.out M.out).mono ?_
  rintro e u12 ⟨rfl, hd12⟩
  have hb12 := drewBelow hd12
  clear hd12
  replace HR := Lib.hid (Row.below HR.out hb12)
  replace P := Lib.hid (RdI.below P.out hb12)
  replace S := Lib.hid (RdI.below S.out hb12)
  replace M := Lib.hid (RdI.below M.out hb12)
  replace A := Lib.hid (RdI.below A.out hb12)
  replace Z := Lib.hid (RdI.below Z.out hb12)
  replace B := Lib.hid (bTrans B.out hb12)
  clear hb12
  go_wp2_with fail
  refine (validLoop_any EP lp.length fP lp _ P.out).mono ?_
  rintro e u ⟨rfl, rfl⟩
  go_wp2_with fail
  refine (specValidLoop_any EP lp.length fP lp _ P.out).mono ?_
  rintro e u13 ⟨rfl, hb13⟩
  replace HR := Lib.hid (Row.below HR.out hb13)
  replace P := Lib.hid (RdI.below P.out hb13)
  replace S := Lib.hid (RdI.below S.out hb13)
  replace M := Lib.hid (RdI.below M.out hb13)
  replace A := Lib.hid (RdI.below A.out hb13)
  replace Z := Lib.hid (RdI.below Z.out hb13)
  replace B := Lib.hid (bTrans B.out hb13)
  clear hb13
  by_cases h3 : z3 = 0
  · subst h3
    obtain ⟨c2, c3, d2, d3, hmc, hmd, hm1, hmm, hcd⟩ := HZC.out rfl
    have wcd : IntKind.i64.wrap (c * dd) = c * dd := IntWalk.i64_in _ (by omega)
    have hc0 : ¬ c = 0 := by omega
    have hd0 : ¬ dd = 0 := by omega
    have hm2 : ¬ m < 1 := by omega
    have hm3 : ¬ c * dd < m := by omega
    by_cases h2 : z2 = 0
    · subst h2
      obtain ⟨hn, hx, hy, hj⟩ := HZB.out rfl
      obtain ⟨j, rfl, hjn, hdj, hmin⟩ := hj (by first | trivial | rfl)
      have HD := Lib.hid hdj
      have hmin0 := hmin 0 (by omega)
      clear hj hdj hmin
      have HXL := Lib.hid (show (turnL la j).length = lz.length by unfold turnL; rw [genL_length]; exact hn)
      have HL := Lib.hid hn
      clear hn
      go_wp2_with fail
      refine (implTurn_ok EA la.length fA la j _ A.out hx (by omega)).mono ?_
      rintro e u14 ⟨vX, rfl, p14, hb14⟩
      obtain ⟨EX, fX, rfl, -⟩ := p14.rd (by rw [HXL.out]; omega)
      have X := Lib.hid (Ints.rdOf p14 rfl (by rw [HXL.out]; omega))
      replace HR := Lib.hid (Row.below HR.out hb14)
      replace P := Lib.hid (RdI.below P.out hb14)
      replace S := Lib.hid (RdI.below S.out hb14)
      replace M := Lib.hid (RdI.below M.out hb14)
      replace A := Lib.hid (RdI.below A.out hb14)
      replace Z := Lib.hid (RdI.below Z.out hb14)
      replace B := Lib.hid (bTrans B.out hb14)
      clear p14 hb14
      rw [HXL.out] at X ⊢
      rw [HL.out] at A ⊢
      clear HXL
      have HXG := Lib.hid (fun (i : Nat) (hi : i < lz.length) => show (turnL la j).getD i 0 = ringI la ((j : Int) + i) from genL_get _ _ _ (by rw [HL.out]; exact hi))
      generalize turnL la j = lx at *
      have hl60 := loopB_len hy
      have HD1 := Lib.hid (show distI la lz j = sumI (farI la lz j) lz.length by unfold distI; rw [HL.out])
      have HF1 := Lib.hid (fun q => farI_bd hx hy j q)
      have HU1 := Lib.hid (fun q => sumI_bd (farI la lz j) 1000 (farI_bd hx hy j) q)
      have HE1 := Lib.hid (fun (q : Nat) (hq : q < lz.length) => show farI la lz j q = ((lx.getD q 0 - lz.getD q 0).natAbs : Nat) by rw [HXG.out q hq]; unfold farI; rw [ringI_lt lz q hq])
      have HN1 := Lib.hid (fun q : Nat => show sumI (farI la lz j) (q + 1) = sumI (farI la lz j) q + farI la lz j q from rfl)
      have HD2 := Lib.hid (show distI la lz 0 = sumI (farI la lz 0) lz.length by unfold distI; rw [HL.out])
      have HF2 := Lib.hid (fun q => farI_bd hx hy 0 q)
      have HU2 := Lib.hid (fun q => sumI_bd (farI la lz 0) 1000 (farI_bd hx hy 0) q)
      have HE2 := Lib.hid (fun (q : Nat) (hq : q < lz.length) => show farI la lz 0 q = ((la.getD q 0 - lz.getD q 0).natAbs : Nat) by unfold farI; rw [show (((0 : Nat) : Int) + (q : Int)) = (q : Int) by omega, ringI_lt lz q hq, ringI_lt la q (by rw [HL.out]; exact hq)])
      have HN2 := Lib.hid (fun q : Nat => show sumI (farI la lz 0) (q + 1) = sumI (farI la lz 0) q + farI la lz 0 q from rfl)
      have hdb := distI_bd hx hy j
      rw [HD1.out] at HD hdb
      rw [HD2.out] at hmin0
      clear HD1 HD2 HXG
      have HXB := Lib.hid (fun (q : Nat) (hq : q < lz.length) => show 0 ≤ lx.getD q 0 - lz.getD q 0 + 1000 ∧ lx.getD q 0 - lz.getD q 0 ≤ 1000 from by have h1 := HE1.out q hq; have h2 := HF1.out q; omega)
      have HAB := Lib.hid (fun (q : Nat) (hq : q < lz.length) => show 0 ≤ la.getD q 0 - lz.getD q 0 + 1000 ∧ la.getD q 0 - lz.getD q 0 ≤ 1000 from by have h1 := HE2.out q hq; have h2 := HF2.out q; omega)
      generalize farI la lz j = fj at *
      generalize farI la lz 0 = f0 at *
      go_wp2
      go_loopw [31, 30] (fun i s wr => ∃ q : Nat, q ≤ lz.length ∧ i = .int .i64 q ∧ s = .int .i64 (sumI fj q) ∧ Hid (RdI wr EX lz.length lx) ∧ Hid (RdI wr EZ lz.length lz) ∧ Hid (RdI wr EA lz.length la) ∧ Hid (RdI wr EM qs.length qs) ∧ Hid (Below w.heap.size w wr)) (fun i _ _ => lz.length - (intOf i).toNat)
      case atStart => exact ⟨0, Nat.zero_le _, rfl, rfl, X, Z, A, M, B⟩
      case round =>
        obtain ⟨q, hq, rfl, rfl, X', Z', A', M', B'⟩ := hrel
        by_cases hqt : q < lz.length
        · obtain ⟨_, _, h3⟩ := X'.out
          obtain ⟨_, _, h4⟩ := Z'.out
          rcases h3 with h0 | ⟨g, rfl, hg, h3⟩
          · omega
          rcases h4 with h0 | ⟨g2, rfl, hg2, h4⟩
          · omega
          have cc0 := h3 q hqt
          have cc2 := h4 q hqt
          have q1 := HXB.out q hqt
          have q3 := HU1.out q
          have q4 := HF1.out q
          have e1 := HE1.out q hqt
          have HN2 := Lib.hid (HN1.out q)
          have AB := Lib.hid (fun u : World => f6abs_any (lx.getD q 0 - lz.getD q 0) u (by omega) (by omega))
          rw [← e1] at AB
          have hkk : (q : Int) * 1000 ≤ 61000 := by omega
          have wd : IntKind.i64.wrap (lx.getD q 0 - lz.getD q 0) = lx.getD q 0 - lz.getD q 0 := IntWalk.i64_in _ (by omega)
          have ws : IntKind.i64.wrap (sumI fj q + fj q) = sumI fj q + fj q := IntWalk.i64_in _ (by omega)
          clear e1 h3 h4
          generalize lx.getD q 0 = x at *
          generalize lz.getD q 0 = y at *
          generalize sumI fj q = s at *
          generalize fj q = z at *
          go_wp2
          go_quiet ((go_at_call 53; exact quietEq (AB.out _)))
          go_wp2
          go_roundw
          case rel => exact ⟨q + 1, by omega, by go_num, by rw [HN2.out], Lib.hid (X'.out.drewN _), Lib.hid (Z'.out.drewN _), Lib.hid (A'.out.drewN _), Lib.hid (M'.out.drewN _), Lib.hid (bDrewN B'.out _)⟩
          case measure => simp [intOf]; omega
        · have hqn : q = lz.length := by omega
          subst hqn
          replace A := A'
          replace Z := Z'
          replace M := M'
          replace B := B'
          rw [← HD.out] at hdb ⊢
          go_wp2
          go_loopw [33, 32] (fun i s wr => ∃ q : Nat, q ≤ lz.length ∧ i = .int .i64 q ∧ s = .int .i64 (sumI f0 q) ∧ Hid (RdI wr EA lz.length la) ∧ Hid (RdI wr EZ lz.length lz) ∧ Hid (RdI wr EA lz.length la) ∧ Hid (RdI wr EM qs.length qs) ∧ Hid (Below w.heap.size w wr)) (fun i _ _ => lz.length - (intOf i).toNat)
          case atStart => exact ⟨0, Nat.zero_le _, rfl, rfl, A, Z, A, M, B⟩
          case round =>
            obtain ⟨q, hq, rfl, rfl, X', Z', A', M', B'⟩ := hrel
            by_cases hqt : q < lz.length
            · obtain ⟨_, _, h3⟩ := X'.out
              obtain ⟨_, _, h4⟩ := Z'.out
              rcases h3 with h0 | ⟨g, rfl, hg, h3⟩
              · omega
              rcases h4 with h0 | ⟨g2, rfl, hg2, h4⟩
              · omega
              have cc0 := h3 q hqt
              have cc2 := h4 q hqt
              have q1 := HAB.out q hqt
              have q3 := HU2.out q
              have q4 := HF2.out q
              have e1 := HE2.out q hqt
              have HN2 := Lib.hid (HN2.out q)
              have AB := Lib.hid (fun u : World => f6abs_any (la.getD q 0 - lz.getD q 0) u (by omega) (by omega))
              rw [← e1] at AB
              have hkk : (q : Int) * 1000 ≤ 61000 := by omega
              have wd : IntKind.i64.wrap (la.getD q 0 - lz.getD q 0) = la.getD q 0 - lz.getD q 0 := IntWalk.i64_in _ (by omega)
              have ws : IntKind.i64.wrap (sumI f0 q + f0 q) = sumI f0 q + f0 q := IntWalk.i64_in _ (by omega)
              clear e1 h3 h4
              generalize la.getD q 0 = x at *
              generalize lz.getD q 0 = y at *
              generalize sumI f0 q = s at *
              generalize f0 q = z at *
              go_wp2
              go_quiet ((go_at_call 53; exact quietEq (AB.out _)))
              go_wp2
              go_roundw
              case rel => exact ⟨q + 1, by omega, by go_num, by rw [HN2.out], Lib.hid (X'.out.drewN _), Lib.hid (Z'.out.drewN _), Lib.hid (A'.out.drewN _), Lib.hid (M'.out.drewN _), Lib.hid (bDrewN B'.out _)⟩
              case measure => simp [intOf]; omega
            · have hqn : q = lz.length := by omega
              subst hqn
              replace A := A'
              replace Z := Z'
              replace M := M'
              replace B := B'
              generalize sumI f0 lz.length = s2 at *
              have hs2 : ¬ s2 < d := by omega
              by_cases h1 : z1 = 0
              · subst h1
                have HQL := Lib.hid (HZS.out rfl)
                go_wp2_with fail
                refine (f6sum_any EM qs.length fM qs _ M.out (by omega) HBQ.out).mono ?_
                rintro e u ⟨rfl, rfl⟩
                rw [HQL.out.1]
                have hqb : ((qs.length : Int) == (lp.length : Int)) = true := by rw [HQL.out.2]; exact beq_self_eq_true _
                have hqn : (qs.length == lp.length) = true := by rw [HQL.out.2]; exact beq_self_eq_true _
                have hqe : ((qs.length : Int) = (lp.length : Int)) := by rw [HQL.out.2]
                go_wp2
                go_ret
                exact ⟨rfl, B.out⟩
              · have hz1b : (z1 != 0) = true := by rw [bne_iff_ne]; exact h1
                go_wp2
                go_ret
                exact ⟨rfl, B.out⟩
    · have hz2b : (z2 == 0) = false := beq_eq_false_iff_ne.2 h2
      by_cases h1 : z1 = 0
      · subst h1
        have HQL := Lib.hid (HZS.out rfl)
        go_wp2_with fail
        refine (f6sum_any EM qs.length fM qs _ M.out (by omega) HBQ.out).mono ?_
        rintro e u ⟨rfl, rfl⟩
        rw [HQL.out.1]
        have hqb : ((qs.length : Int) == (lp.length : Int)) = true := by rw [HQL.out.2]; exact beq_self_eq_true _
        have hqn : (qs.length == lp.length) = true := by rw [HQL.out.2]; exact beq_self_eq_true _
        have hqe : ((qs.length : Int) = (lp.length : Int)) := by rw [HQL.out.2]
        go_wp2
        go_ret
        exact ⟨rfl, B.out⟩
      · have hz1b : (z1 != 0) = true := by rw [bne_iff_ne]; exact h1
        go_wp2
        go_ret
        exact ⟨rfl, B.out⟩
  · have hz3b : (z3 == 0) = false := beq_eq_false_iff_ne.2 h3
    by_cases h2 : z2 = 0
    · subst h2
      obtain ⟨hn, hx, hy, hj⟩ := HZB.out rfl
      obtain ⟨j, rfl, hjn, hdj, hmin⟩ := hj (by first | trivial | rfl)
      have HD := Lib.hid hdj
      have hmin0 := hmin 0 (by omega)
      clear hj hdj hmin
      have HXL := Lib.hid (show (turnL la j).length = lz.length by unfold turnL; rw [genL_length]; exact hn)
      have HL := Lib.hid hn
      clear hn
      go_wp2_with fail
      refine (implTurn_ok EA la.length fA la j _ A.out hx (by omega)).mono ?_
      rintro e u14 ⟨vX, rfl, p14, hb14⟩
      obtain ⟨EX, fX, rfl, -⟩ := p14.rd (by rw [HXL.out]; omega)
      have X := Lib.hid (Ints.rdOf p14 rfl (by rw [HXL.out]; omega))
      replace HR := Lib.hid (Row.below HR.out hb14)
      replace P := Lib.hid (RdI.below P.out hb14)
      replace S := Lib.hid (RdI.below S.out hb14)
      replace M := Lib.hid (RdI.below M.out hb14)
      replace A := Lib.hid (RdI.below A.out hb14)
      replace Z := Lib.hid (RdI.below Z.out hb14)
      replace B := Lib.hid (bTrans B.out hb14)
      clear p14 hb14
      rw [HXL.out] at X ⊢
      rw [HL.out] at A ⊢
      clear HXL
      have HXG := Lib.hid (fun (i : Nat) (hi : i < lz.length) => show (turnL la j).getD i 0 = ringI la ((j : Int) + i) from genL_get _ _ _ (by rw [HL.out]; exact hi))
      generalize turnL la j = lx at *
      have hl60 := loopB_len hy
      have HD1 := Lib.hid (show distI la lz j = sumI (farI la lz j) lz.length by unfold distI; rw [HL.out])
      have HF1 := Lib.hid (fun q => farI_bd hx hy j q)
      have HU1 := Lib.hid (fun q => sumI_bd (farI la lz j) 1000 (farI_bd hx hy j) q)
      have HE1 := Lib.hid (fun (q : Nat) (hq : q < lz.length) => show farI la lz j q = ((lx.getD q 0 - lz.getD q 0).natAbs : Nat) by rw [HXG.out q hq]; unfold farI; rw [ringI_lt lz q hq])
      have HN1 := Lib.hid (fun q : Nat => show sumI (farI la lz j) (q + 1) = sumI (farI la lz j) q + farI la lz j q from rfl)
      have HD2 := Lib.hid (show distI la lz 0 = sumI (farI la lz 0) lz.length by unfold distI; rw [HL.out])
      have HF2 := Lib.hid (fun q => farI_bd hx hy 0 q)
      have HU2 := Lib.hid (fun q => sumI_bd (farI la lz 0) 1000 (farI_bd hx hy 0) q)
      have HE2 := Lib.hid (fun (q : Nat) (hq : q < lz.length) => show farI la lz 0 q = ((la.getD q 0 - lz.getD q 0).natAbs : Nat) by unfold farI; rw [show (((0 : Nat) : Int) + (q : Int)) = (q : Int) by omega, ringI_lt lz q hq, ringI_lt la q (by rw [HL.out]; exact hq)])
      have HN2 := Lib.hid (fun q : Nat => show sumI (farI la lz 0) (q + 1) = sumI (farI la lz 0) q + farI la lz 0 q from rfl)
      have hdb := distI_bd hx hy j
      rw [HD1.out] at HD hdb
      rw [HD2.out] at hmin0
      clear HD1 HD2 HXG
      have HXB := Lib.hid (fun (q : Nat) (hq : q < lz.length) => show 0 ≤ lx.getD q 0 - lz.getD q 0 + 1000 ∧ lx.getD q 0 - lz.getD q 0 ≤ 1000 from by have h1 := HE1.out q hq; have h2 := HF1.out q; omega)
      have HAB := Lib.hid (fun (q : Nat) (hq : q < lz.length) => show 0 ≤ la.getD q 0 - lz.getD q 0 + 1000 ∧ la.getD q 0 - lz.getD q 0 ≤ 1000 from by have h1 := HE2.out q hq; have h2 := HF2.out q; omega)
      generalize farI la lz j = fj at *
      generalize farI la lz 0 = f0 at *
      go_wp2
      go_loopw [31, 30] (fun i s wr => ∃ q : Nat, q ≤ lz.length ∧ i = .int .i64 q ∧ s = .int .i64 (sumI fj q) ∧ Hid (RdI wr EX lz.length lx) ∧ Hid (RdI wr EZ lz.length lz) ∧ Hid (RdI wr EA lz.length la) ∧ Hid (RdI wr EM qs.length qs) ∧ Hid (Below w.heap.size w wr)) (fun i _ _ => lz.length - (intOf i).toNat)
      case atStart => exact ⟨0, Nat.zero_le _, rfl, rfl, X, Z, A, M, B⟩
      case round =>
        obtain ⟨q, hq, rfl, rfl, X', Z', A', M', B'⟩ := hrel
        by_cases hqt : q < lz.length
        · obtain ⟨_, _, h3⟩ := X'.out
          obtain ⟨_, _, h4⟩ := Z'.out
          rcases h3 with h0 | ⟨g, rfl, hg, h3⟩
          · omega
          rcases h4 with h0 | ⟨g2, rfl, hg2, h4⟩
          · omega
          have cc0 := h3 q hqt
          have cc2 := h4 q hqt
          have q1 := HXB.out q hqt
          have q3 := HU1.out q
          have q4 := HF1.out q
          have e1 := HE1.out q hqt
          have HN2 := Lib.hid (HN1.out q)
          have AB := Lib.hid (fun u : World => f6abs_any (lx.getD q 0 - lz.getD q 0) u (by omega) (by omega))
          rw [← e1] at AB
          have hkk : (q : Int) * 1000 ≤ 61000 := by omega
          have wd : IntKind.i64.wrap (lx.getD q 0 - lz.getD q 0) = lx.getD q 0 - lz.getD q 0 := IntWalk.i64_in _ (by omega)
          have ws : IntKind.i64.wrap (sumI fj q + fj q) = sumI fj q + fj q := IntWalk.i64_in _ (by omega)
          clear e1 h3 h4
          generalize lx.getD q 0 = x at *
          generalize lz.getD q 0 = y at *
          generalize sumI fj q = s at *
          generalize fj q = z at *
          go_wp2
          go_quiet ((go_at_call 53; exact quietEq (AB.out _)))
          go_wp2
          go_roundw
          case rel => exact ⟨q + 1, by omega, by go_num, by rw [HN2.out], Lib.hid (X'.out.drewN _), Lib.hid (Z'.out.drewN _), Lib.hid (A'.out.drewN _), Lib.hid (M'.out.drewN _), Lib.hid (bDrewN B'.out _)⟩
          case measure => simp [intOf]; omega
        · have hqn : q = lz.length := by omega
          subst hqn
          replace A := A'
          replace Z := Z'
          replace M := M'
          replace B := B'
          rw [← HD.out] at hdb ⊢
          go_wp2
          go_loopw [33, 32] (fun i s wr => ∃ q : Nat, q ≤ lz.length ∧ i = .int .i64 q ∧ s = .int .i64 (sumI f0 q) ∧ Hid (RdI wr EA lz.length la) ∧ Hid (RdI wr EZ lz.length lz) ∧ Hid (RdI wr EA lz.length la) ∧ Hid (RdI wr EM qs.length qs) ∧ Hid (Below w.heap.size w wr)) (fun i _ _ => lz.length - (intOf i).toNat)
          case atStart => exact ⟨0, Nat.zero_le _, rfl, rfl, A, Z, A, M, B⟩
          case round =>
            obtain ⟨q, hq, rfl, rfl, X', Z', A', M', B'⟩ := hrel
            by_cases hqt : q < lz.length
            · obtain ⟨_, _, h3⟩ := X'.out
              obtain ⟨_, _, h4⟩ := Z'.out
              rcases h3 with h0 | ⟨g, rfl, hg, h3⟩
              · omega
              rcases h4 with h0 | ⟨g2, rfl, hg2, h4⟩
              · omega
              have cc0 := h3 q hqt
              have cc2 := h4 q hqt
              have q1 := HAB.out q hqt
              have q3 := HU2.out q
              have q4 := HF2.out q
              have e1 := HE2.out q hqt
              have HN2 := Lib.hid (HN2.out q)
              have AB := Lib.hid (fun u : World => f6abs_any (la.getD q 0 - lz.getD q 0) u (by omega) (by omega))
              rw [← e1] at AB
              have hkk : (q : Int) * 1000 ≤ 61000 := by omega
              have wd : IntKind.i64.wrap (la.getD q 0 - lz.getD q 0) = la.getD q 0 - lz.getD q 0 := IntWalk.i64_in _ (by omega)
              have ws : IntKind.i64.wrap (sumI f0 q + f0 q) = sumI f0 q + f0 q := IntWalk.i64_in _ (by omega)
              clear e1 h3 h4
              generalize la.getD q 0 = x at *
              generalize lz.getD q 0 = y at *
              generalize sumI f0 q = s at *
              generalize f0 q = z at *
              go_wp2
              go_quiet ((go_at_call 53; exact quietEq (AB.out _)))
              go_wp2
              go_roundw
              case rel => exact ⟨q + 1, by omega, by go_num, by rw [HN2.out], Lib.hid (X'.out.drewN _), Lib.hid (Z'.out.drewN _), Lib.hid (A'.out.drewN _), Lib.hid (M'.out.drewN _), Lib.hid (bDrewN B'.out _)⟩
              case measure => simp [intOf]; omega
            · have hqn : q = lz.length := by omega
              subst hqn
              replace A := A'
              replace Z := Z'
              replace M := M'
              replace B := B'
              generalize sumI f0 lz.length = s2 at *
              have hs2 : ¬ s2 < d := by omega
              by_cases h1 : z1 = 0
              · subst h1
                have HQL := Lib.hid (HZS.out rfl)
                go_wp2_with fail
                refine (f6sum_any EM qs.length fM qs _ M.out (by omega) HBQ.out).mono ?_
                rintro e u ⟨rfl, rfl⟩
                rw [HQL.out.1]
                have hqb : ((qs.length : Int) == (lp.length : Int)) = true := by rw [HQL.out.2]; exact beq_self_eq_true _
                have hqn : (qs.length == lp.length) = true := by rw [HQL.out.2]; exact beq_self_eq_true _
                have hqe : ((qs.length : Int) = (lp.length : Int)) := by rw [HQL.out.2]
                go_wp2
                go_ret
                exact ⟨rfl, B.out⟩
              · have hz1b : (z1 != 0) = true := by rw [bne_iff_ne]; exact h1
                go_wp2
                go_ret
                exact ⟨rfl, B.out⟩
    · have hz2b : (z2 == 0) = false := beq_eq_false_iff_ne.2 h2
      by_cases h1 : z1 = 0
      · subst h1
        have HQL := Lib.hid (HZS.out rfl)
        go_wp2_with fail
        refine (f6sum_any EM qs.length fM qs _ M.out (by omega) HBQ.out).mono ?_
        rintro e u ⟨rfl, rfl⟩
        rw [HQL.out.1]
        have hqb : ((qs.length : Int) == (lp.length : Int)) = true := by rw [HQL.out.2]; exact beq_self_eq_true _
        have hqn : (qs.length == lp.length) = true := by rw [HQL.out.2]; exact beq_self_eq_true _
        have hqe : ((qs.length : Int) = (lp.length : Int)) := by rw [HQL.out.2]
        go_wp2
        go_ret
        exact ⟨rfl, B.out⟩
      · have hz1b : (z1 != 0) = true := by rw [bne_iff_ne]; exact h1
        go_wp2
        go_ret
        exact ⟨rfl, B.out⟩

set_option maxRecDepth 100000 in
/-- laws.FnLoops. -/
theorem law_FnLoops (a : Option Addr) (len cap : Nat) (cs : List Int) (w : World) (hr : Row w a len cap cs) :
    Calls Try.prog 12 #[.slice a len cap] w fun e w' => e = .returned (.bool true) ∧ Below w.heap.size w w' := by
  by_cases hlen : 4096 < (len : Int)
  · clear hr
    go_enter Try.func12, Try.ntmps12
    go_wp2_with fail
    refine (f6bigI_any a len cap _).mono ?_
    rintro e u ⟨rfl, rfl⟩
    rw [decide_eq_true hlen]
    go_wp2
    go_ret
    exact ⟨rfl, Below.refl _ _⟩
  · exact lawFnLoops_ok a len cap cs w hr (Int.not_lt.1 hlen)

end Go.Proofs.Ytfbdeeobmjndlaa
