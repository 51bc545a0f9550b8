/- The law of joined loops: pairs, closed, thinned and turned loops. -/
import Derived.Test.YtfbdeeobmjndlaaProg
import Derived.Test.YtfbdeeobmjndlaaLoopMath
import Derived.Test.YtfbdeeobmjndlaaInts
import Derived.Test.YtfbdeeobmjndlaaLoop
import Derived.Test.YtfbdeeobmjndlaaLoop2
import Derived.Test.YtfbdeeobmjndlaaLoop3
import Derived.Test.YtfbdeeobmjndlaaJoinBoth
import Derived.Test.YtfbdeeobmjndlaaLoopDraw
import Derived.Deep.Cut
import Derived.Deep.DeepCutAuto
import Derived.Deep.AppendLies
import Derived.Deep.DrawnRows
import Derived.Test.YtfbdeeobmjndlaaHold
import Derived.IntWalk
import Derived.WalkSpells
import Derived.OwnWalk
import Derived.Laws.AppendOwn
import Derived.Laws.OwnMore
import Derived.Deep.RegionWith
import Derived.Deep.DrawnRows
import Derived.Deep.RegionHeld3
import Derived.Tactics
import Derived.Tactics2
import Derived.WalkKit
import Derived.LoopTactic
import Derived.BigQuiet
import Derived.RegionTactic
import Derived.Deep.QuietTactic
import Derived.Outline
import Derived.Lib.Hide
import Derived.Below
import Derived.KernelRfl
namespace Go.Proofs.Ytfbdeeobmjndlaa
set_option linter.unusedSimpArgs false
set_option linter.unusedVariables false
open Go.RowKit


set_option maxHeartbeats 4000000 in
set_option maxRecDepth 100000 in
/-- laws.FnJoinedLoops, of bytes that are not too many. -/
theorem lawFnJoined_ok (a : Option Addr) (len cap : Nat) (cs : List Int) (w : World) (hr : Row w a len cap cs) (hlen : (len : Int) ≤ 4096) :
    Calls Try.prog 13 #[.slice a len cap] w fun e w' => e = .returned (.bool true) ∧ Below w.heap.size w w' := by
  have HR := Lib.hid hr
  clear hr
  have B := Lib.hid (Below.refl w.heap.size w)
  go_enter Try.func13, Try.ntmps13
  go_wp2_with fail
  refine (f6bigI_any a len cap _).mono ?_
  rintro e u ⟨rfl, rfl⟩
  rw [decide_eq_false (Int.not_lt.2 hlen)]
  go_wp2_with fail
  refine (drawJoin_any a len cap cs _ HR.out).mono ?_
  rintro e u1 ⟨vA, vZ, la, lz, rfl, p1, q1, hlA, hlZ, hb1⟩
  obtain ⟨EA, fA, rfl, -⟩ := p1.rd (by omega)
  have A := Lib.hid (Ints.rdOf p1 rfl (by omega))
  obtain ⟨EZ, fZ, rfl, -⟩ := q1.rd (by omega)
  have Z := Lib.hid (Ints.rdOf q1 rfl (by omega))
  replace HR := Lib.hid (Row.below HR.out hb1)
  replace B := Lib.hid (bTrans B.out hb1)
  clear p1 q1 hb1
  obtain ⟨z1, gq, JI, JS, hg1, hg2, hgx, hgz⟩ := join_both la.length lz.length la lz rfl rfl
  replace JI := Lib.hid JI
  replace JS := Lib.hid JS
  have HGX := Lib.hid hgx
  have HGZ := Lib.hid hgz
  clear hgx hgz
  go_wp2_with fail
  refine (JI.out _ _ _ _ _ A.out Z.out).mono ?_
  rintro e u2 ⟨vG, usG, rfl, p2, hb2⟩
  obtain ⟨EG, fG, rfl, r2⟩ := p2.rd (by omega) (by omega)
  have G := Lib.hid r2
  replace HR := Lib.hid (Row.below HR.out hb2)
  replace A := Lib.hid (RdI.below A.out hb2)
  replace Z := Lib.hid (RdI.below Z.out hb2)
  replace B := Lib.hid (bTrans B.out hb2)
  clear p2 r2 hb2
  go_wp2_with fail
  refine (JS.out _ _ _ _ _ A.out Z.out).mono ?_
  rintro e u3 ⟨vM, usM, rfl, p3, hb3⟩
  obtain ⟨EM, fM, rfl, r3⟩ := p3.rd (by omega) (by omega)
  have M := Lib.hid r3
  replace HR := Lib.hid (Row.below HR.out hb3)
  replace A := Lib.hid (RdI.below A.out hb3)
  replace Z := Lib.hid (RdI.below Z.out hb3)
  replace G := Lib.hid (RdG.below G.out hb3)
  replace B := Lib.hid (bTrans B.out hb3)
  clear p3 r3 hb3
  go_wp2_with fail
  refine (drawClose_any a len cap cs _ HR.out).mono ?_
  rintro e u4 ⟨vC, lc, o1, rfl, p4, hlC, n0C, n1C, hb4⟩
  obtain ⟨EC, fC, rfl, -⟩ := p4.rd (by omega)
  have C := Lib.hid (Ints.rdOf p4 rfl (by omega))
  replace HR := Lib.hid (Row.below HR.out hb4)
  replace A := Lib.hid (RdI.below A.out hb4)
  replace Z := Lib.hid (RdI.below Z.out hb4)
  replace G := Lib.hid (RdG.below G.out hb4)
  replace M := Lib.hid (RdG.below M.out hb4)
  replace B := Lib.hid (bTrans B.out hb4)
  clear p4 hb4
  obtain ⟨z2, xq, CI, CS, hx1, hxz⟩ := close_both lc.length lc o1 rfl
  replace CI := Lib.hid CI
  replace CS := Lib.hid CS
  have HXZ := Lib.hid hxz
  clear hxz
  go_wp2_with fail
  refine (CI.out _ _ _ C.out).mono ?_
  rintro e u5 ⟨vW, rfl, p5, hb5⟩
  obtain ⟨EW, fW, rfl, -⟩ := p5.rd (by omega)
  have W := Lib.hid (Ints.rdOf p5 rfl (by omega))
  replace HR := Lib.hid (Row.below HR.out hb5)
  replace A := Lib.hid (RdI.below A.out hb5)
  replace Z := Lib.hid (RdI.below Z.out hb5)
  replace G := Lib.hid (RdG.below G.out hb5)
  replace M := Lib.hid (RdG.below M.out hb5)
  replace C := Lib.hid (RdI.below C.out hb5)
  replace B := Lib.hid (bTrans B.out hb5)
  clear p5 hb5
  go_wp2_with fail
  refine (CS.out _ _ _ C.out).mono ?_
  rintro e u6 ⟨vX, rfl, p6, hb6⟩
  obtain ⟨EX, fX, rfl, -⟩ := p6.rd (by omega)
  have X := Lib.hid (Ints.rdOf p6 rfl (by omega))
  replace HR := Lib.hid (Row.below HR.out hb6)
  replace A := Lib.hid (RdI.below A.out hb6)
  replace Z := Lib.hid (RdI.below Z.out hb6)
  replace G := Lib.hid (RdG.below G.out hb6)
  replace M := Lib.hid (RdG.below M.out hb6)
  replace C := Lib.hid (RdI.below C.out hb6)
  replace W := Lib.hid (RdI.below W.out hb6)
  replace B := Lib.hid (bTrans B.out hb6)
  clear p6 hb6
  go_wp2_with fail
  refine (drawThin_any a len cap cs _ HR.out).mono ?_
  rintro e u7 ⟨vD, ld, o2, rfl, p7, hlD, n0D, n1D, hb7⟩
  obtain ⟨ED, fD, rfl, -⟩ := p7.rd (by omega)
  have D := Lib.hid (Ints.rdOf p7 rfl (by omega))
  replace HR := Lib.hid (Row.below HR.out hb7)
  replace A := Lib.hid (RdI.below A.out hb7)
  replace Z := Lib.hid (RdI.below Z.out hb7)
  replace G := Lib.hid (RdG.below G.out hb7)
  replace M := Lib.hid (RdG.below M.out hb7)
  replace C := Lib.hid (RdI.below C.out hb7)
  replace W := Lib.hid (RdI.below W.out hb7)
  replace X := Lib.hid (RdI.below X.out hb7)
  replace B := Lib.hid (bTrans B.out hb7)
  clear p7 hb7
  obtain ⟨z3, yq, TI, TS, hy1, hyz⟩ := thin_both ld.length ld o2 rfl
  replace TI := Lib.hid TI
  replace TS := Lib.hid TS
  have HYZ := Lib.hid hyz
  clear hyz
  go_wp2_with fail
  refine (TI.out _ _ _ D.out).mono ?_
  rintro e u8 ⟨vV, rfl, p8, hb8⟩
  obtain ⟨EV, fV, rfl, -⟩ := p8.rd (by omega)
  have V := Lib.hid (Ints.rdOf p8 rfl (by omega))
  replace HR := Lib.hid (Row.below HR.out hb8)
  replace A := Lib.hid (RdI.below A.out hb8)
  replace Z := Lib.hid (RdI.below Z.out hb8)
  replace G := Lib.hid (RdG.below G.out hb8)
  replace M := Lib.hid (RdG.below M.out hb8)
  replace C := Lib.hid (RdI.below C.out hb8)
  replace W := Lib.hid (RdI.below W.out hb8)
  replace X := Lib.hid (RdI.below X.out hb8)
  replace D := Lib.hid (RdI.below D.out hb8)
  replace B := Lib.hid (bTrans B.out hb8)
  clear p8 hb8
  go_wp2_with fail
  refine (TS.out _ _ _ D.out).mono ?_
  rintro e u9 ⟨vT, rfl, p9, hb9⟩
  obtain ⟨ET, fT, rfl, -⟩ := p9.rd (by omega)
  have T := Lib.hid (Ints.rdOf p9 rfl (by omega))
  replace HR := Lib.hid (Row.below HR.out hb9)
  replace A := Lib.hid (RdI.below A.out hb9)
  replace Z := Lib.hid (RdI.below Z.out hb9)
  replace G := Lib.hid (RdG.below G.out hb9)
  replace M := Lib.hid (RdG.below M.out hb9)
  replace C := Lib.hid (RdI.below C.out hb9)
  replace W := Lib.hid (RdI.below W.out hb9)
  replace X := Lib.hid (RdI.below X.out hb9)
  replace D := Lib.hid (RdI.below D.out hb9)
  replace V := Lib.hid (RdI.below V.out hb9)
  replace B := Lib.hid (bTrans B.out hb9)
  clear p9 hb9
  go_wp2_with fail
  refine (drawTurn_any a len cap cs _ HR.out).mono ?_
  rintro e u10 ⟨vE, le, o3, rfl, p10, hlE, n0E, n1E, hb10⟩
  obtain ⟨EE, fE, rfl, -⟩ := p10.rd (by omega)
  have E := Lib.hid (Ints.rdOf p10 rfl (by omega))
  replace HR := Lib.hid (Row.below HR.out hb10)
  replace A := Lib.hid (RdI.below A.out hb10)
  replace Z := Lib.hid (RdI.below Z.out hb10)
  replace G := Lib.hid (RdG.below G.out hb10)
  replace M := Lib.hid (RdG.below M.out hb10)
  replace C := Lib.hid (RdI.below C.out hb10)
  replace W := Lib.hid (RdI.below W.out hb10)
  replace X := Lib.hid (RdI.below X.out hb10)
  replace D := Lib.hid (RdI.below D.out hb10)
  replace V := Lib.hid (RdI.below V.out hb10)
  replace T := Lib.hid (RdI.below T.out hb10)
  replace B := Lib.hid (bTrans B.out hb10)
  clear p10 hb10
  obtain ⟨z4, tq, UI, US, ht1, htz⟩ := turn_both le.length le o3 rfl
  replace UI := Lib.hid UI
  replace US := Lib.hid US
  have HTZ := Lib.hid htz
  clear htz
  go_wp2_with fail
  refine (UI.out _ _ _ E.out).mono ?_
  rintro e u11 ⟨vY, rfl, p11, hb11⟩
  obtain ⟨EY, fY, rfl, -⟩ := p11.rd (by omega)
  have Y := Lib.hid (Ints.rdOf p11 rfl (by omega))
  replace HR := Lib.hid (Row.below HR.out hb11)
  replace A := Lib.hid (RdI.below A.out hb11)
  replace Z := Lib.hid (RdI.below Z.out hb11)
  replace G := Lib.hid (RdG.below G.out hb11)
  replace M := Lib.hid (RdG.below M.out hb11)
  replace C := Lib.hid (RdI.below C.out hb11)
  replace W := Lib.hid (RdI.below W.out hb11)
  replace X := Lib.hid (RdI.below X.out hb11)
  replace D := Lib.hid (RdI.below D.out hb11)
  replace V := Lib.hid (RdI.below V.out hb11)
  replace T := Lib.hid (RdI.below T.out hb11)
  replace E := Lib.hid (RdI.below E.out hb11)
  replace B := Lib.hid (bTrans B.out hb11)
  clear p11 hb11
  go_wp2_with fail
  refine (US.out _ _ _ E.out).mono ?_
  rintro e u12 ⟨vU, rfl, p12, hb12⟩
  obtain ⟨EU, fU, rfl, -⟩ := p12.rd (by omega)
  have U := Lib.hid (Ints.rdOf p12 rfl (by omega))
  replace HR := Lib.hid (Row.below HR.out hb12)
  replace A := Lib.hid (RdI.below A.out hb12)
  replace Z := Lib.hid (RdI.below Z.out hb12)
  replace G := Lib.hid (RdG.below G.out hb12)
  replace M := Lib.hid (RdG.below M.out hb12)
  replace C := Lib.hid (RdI.below C.out hb12)
  replace W := Lib.hid (RdI.below W.out hb12)
  replace X := Lib.hid (RdI.below X.out hb12)
  replace D := Lib.hid (RdI.below D.out hb12)
  replace V := Lib.hid (RdI.below V.out hb12)
  replace T := Lib.hid (RdI.below T.out hb12)
  replace E := Lib.hid (RdI.below E.out hb12)
  replace Y := Lib.hid (RdI.below Y.out hb12)
  replace B := Lib.hid (bTrans B.out hb12)
  clear p12 hb12
  clear JI JS CI CS TI TS UI US
  go_wp2_with fail
  refine (f6ints_rd EW EX xq.length fW fX xq _ W.out X.out).mono ?_
  rintro e u13 ⟨rfl, hd13⟩
  have hb13 := drewBelow hd13
  clear hd13
  replace HR := Lib.hid (Row.below HR.out hb13)
  replace A := Lib.hid (RdI.below A.out hb13)
  replace Z := Lib.hid (RdI.below Z.out hb13)
  replace G := Lib.hid (RdG.below G.out hb13)
  replace M := Lib.hid (RdG.below M.out hb13)
  replace C := Lib.hid (RdI.below C.out hb13)
  replace W := Lib.hid (RdI.below W.out hb13)
  replace X := Lib.hid (RdI.below X.out hb13)
  replace D := Lib.hid (RdI.below D.out hb13)
  replace V := Lib.hid (RdI.below V.out hb13)
  replace T := Lib.hid (RdI.below T.out hb13)
  replace E := Lib.hid (RdI.below E.out hb13)
  replace Y := Lib.hid (RdI.below Y.out hb13)
  replace U := Lib.hid (RdI.below U.out hb13)
  replace B := Lib.hid (bTrans B.out hb13)
  clear hb13
  go_wp2_with fail
  refine (f6ints_rd EV ET yq.length fV fT yq _ V.out T.out).mono ?_
  rintro e u14 ⟨rfl, hd14⟩
  have hb14 := drewBelow hd14
  clear hd14
  replace HR := Lib.hid (Row.below HR.out hb14)
  replace A := Lib.hid (RdI.below A.out hb14)
  replace Z := Lib.hid (RdI.below Z.out hb14)
  replace G := Lib.hid (RdG.below G.out hb14)
  replace M := Lib.hid (RdG.below M.out hb14)
  replace C := Lib.hid (RdI.below C.out hb14)
  replace W := Lib.hid (RdI.below W.out hb14)
  replace X := Lib.hid (RdI.below X.out hb14)
  replace D := Lib.hid (RdI.below D.out hb14)
  replace V := Lib.hid (RdI.below V.out hb14)
  replace T := Lib.hid (RdI.below T.out hb14)
  replace E := Lib.hid (RdI.below E.out hb14)
  replace Y := Lib.hid (RdI.below Y.out hb14)
  replace U := Lib.hid (RdI.below U.out hb14)
  replace B := Lib.hid (bTrans B.out hb14)
  clear hb14
  go_wp2_with fail
  refine (f6ints_rd EY EU tq.length fY fU tq _ Y.out U.out).mono ?_
  rintro e u15 ⟨rfl, hd15⟩
  have hb15 := drewBelow hd15
  clear hd15
  replace HR := Lib.hid (Row.below HR.out hb15)
  replace A := Lib.hid (RdI.below A.out hb15)
  replace Z := Lib.hid (RdI.below Z.out hb15)
  replace G := Lib.hid (RdG.below G.out hb15)
  replace M := Lib.hid (RdG.below M.out hb15)
  replace C := Lib.hid (RdI.below C.out hb15)
  replace W := Lib.hid (RdI.below W.out hb15)
  replace X := Lib.hid (RdI.below X.out hb15)
  replace D := Lib.hid (RdI.below D.out hb15)
  replace V := Lib.hid (RdI.below V.out hb15)
  replace T := Lib.hid (RdI.below T.out hb15)
  replace E := Lib.hid (RdI.below E.out hb15)
  replace Y := Lib.hid (RdI.below Y.out hb15)
  replace U := Lib.hid (RdI.below U.out hb15)
  replace B := Lib.hid (bTrans B.out hb15)
  clear hb15
  clear W V T D
  go_upto_if 143 with fail
  go_cut [] from 34 (fun wx => Hid (RdG wx EG gq.length gq) ∧ Hid (RdG wx EM gq.length gq) ∧ Hid (RdI wx EA la.length la) ∧ Hid (RdI wx EZ lz.length lz) ∧ Hid (RdI wx EX xq.length xq) ∧ Hid (RdI wx EC lc.length lc) ∧ Hid (RdI wx EY tq.length tq) ∧ Hid (RdI wx EU tq.length tq) ∧ Hid (RdI wx EE le.length le) ∧ Hid (Below w.heap.size w wx))
  case first =>
    as_aux_lemma =>
    by_cases h2 : z2 = 0
    · subst h2
      obtain ⟨o, rfl, d1, d2, hql, hqq⟩ := HXZ.out rfl
      have HQL := Lib.hid hql
      have HQQ := Lib.hid hqq
      clear hql hqq
      have wno : IntKind.i64.wrap ((lc.length : Int) - o) = (lc.length : Int) - o := IntWalk.i64_in _ (by omega)
      have HB0 := B
      go_wp2
      go_loopw [27] (fun i wr => ∃ q : Nat, q ≤ lc.length - o ∧ i = .int .i64 q ∧ ∃ m, Hid (wr = u15.drewN m)) (fun i _ => lc.length - (intOf i).toNat)
      case atStart => exact ⟨0, Nat.zero_le _, rfl, 0, Lib.hid rfl⟩
      case round =>
        obtain ⟨q, hq, rfl, m, HM⟩ := hrel
        by_cases hqt : q < lc.length - o
        · obtain ⟨_, _, h3⟩ := X.out
          obtain ⟨_, _, h4⟩ := C.out
          rcases h3 with h0 | ⟨g, rfl, hg, h3⟩
          · have := HQL.out
            omega
          rcases h4 with h0 | ⟨g2, rfl, hg2, h4⟩
          · omega
          have hx2 : q < xq.length := by rw [HQL.out]; omega
          have cc0 : wr.cell? ⟨g, q, none⟩ = some (.int .i64 (xq.getD q 0)) := by rw [HM.out]; exact h3 q hx2
          have cc2 : wr.cell? ⟨g2, q, none⟩ = some (.int .i64 (lc.getD q 0)) := by rw [HM.out]; exact h4 q (by omega)
          rw [HQQ.out q hqt] at cc0
          have y1 : (q : Int) < xq.length := by omega
          have y2 : (q : Int) < lc.length := by omega
          have hqo : (q : Int) < (lc.length : Int) - o := by omega
          clear h3 h4
          generalize lc.getD q 0 = x at *
          go_wp2
          go_quiet (fail)
          go_wp2
          go_roundw
          case rel => exact ⟨q + 1, by omega, by go_num, _, Lib.hid (by rw [HM.out, World.drewN_drewN])⟩
          case measure => simp [intOf]; omega
        · have hqo : ¬ (q : Int) < (lc.length : Int) - o := by omega
          have hw := HM.out
          subst hw
          go_wp2
          go_meet
          case rel => exact ⟨Lib.hid (RdG.below G.out (bDrewN (Below.refl _ _) m)), Lib.hid (RdG.below M.out (bDrewN (Below.refl _ _) m)), Lib.hid (A.out.drewN m), Lib.hid (Z.out.drewN m), Lib.hid (X.out.drewN m), Lib.hid (C.out.drewN m), Lib.hid (Y.out.drewN m), Lib.hid (U.out.drewN m), Lib.hid (E.out.drewN m), Lib.hid (bDrewN B.out m)⟩
    · have hz2b : (z2 == 0) = false := beq_eq_false_iff_ne.2 h2
      go_wp2
      go_meet
      case rel => exact ⟨G, M, A, Z, X, C, Y, U, E, B⟩
  case rest =>
    as_aux_lemma =>
    obtain ⟨G, M, A, Z, X, C, Y, U, E, B⟩ := hcut
    go_upto_region 23 with fail
    go_cut [171] from 34 (fun s wx => s = .bool false ∧ Hid (RdG wx EG gq.length gq) ∧ Hid (RdG wx EM gq.length gq) ∧ Hid (RdI wx EA la.length la) ∧ Hid (RdI wx EZ lz.length lz) ∧ Hid (RdI wx EX xq.length xq) ∧ Hid (RdI wx EC lc.length lc) ∧ Hid (RdI wx EY tq.length tq) ∧ Hid (RdI wx EU tq.length tq) ∧ Hid (RdI wx EE le.length le) ∧ Hid (Below w.heap.size w wx))
    case first =>
      as_aux_lemma =>
      by_cases h3 : z3 = 0
      · subst h3
        have hyy := HYZ.out rfl
        have wy : IntKind.i64.wrap ((yq.length : Int) * o2) = (yq.length : Int) * o2 := IntWalk.i64_in _ (by omega)
        have hyb : ((yq.length : Int) * o2 != (ld.length : Int)) = false := by rw [hyy]; exact bne_self_eq_false _
        go_wp2
        go_meet
        case rel => exact ⟨rfl, G, M, A, Z, X, C, Y, U, E, B⟩
      · have hz3b : (z3 == 0) = false := beq_eq_false_iff_ne.2 h3
        go_wp2
        go_meet
        case rel => exact ⟨rfl, G, M, A, Z, X, C, Y, U, E, B⟩
    case rest =>
      as_aux_lemma =>
      obtain ⟨rfl, G, M, A, Z, X, C, Y, U, E, B⟩ := hcut
      go_upto_region 25 with fail
      go_cut [180] from 34 (fun s wx => s = .bool false ∧ Hid (RdG wx EG gq.length gq) ∧ Hid (RdG wx EM gq.length gq) ∧ Hid (RdI wx EA la.length la) ∧ Hid (RdI wx EZ lz.length lz) ∧ Hid (RdI wx EX xq.length xq) ∧ Hid (RdI wx EC lc.length lc) ∧ Hid (RdI wx EY tq.length tq) ∧ Hid (RdI wx EU tq.length tq) ∧ Hid (RdI wx EE le.length le) ∧ Hid (Below w.heap.size w wx))
      case first =>
        as_aux_lemma =>
        by_cases h4 : z4 = 0
        · subst h4
          have HT4 := Lib.hid (HTZ.out rfl)
          go_wp2_with fail
          refine (f6sum_any EU tq.length fU tq _ U.out (by omega) HT4.out.2.1).mono ?_
          rintro e u ⟨rfl, rfl⟩
          go_wp2_with fail
          refine (f6sum_any EE le.length fE le _ E.out (by omega) HT4.out.2.2).mono ?_
          rintro e u ⟨rfl, rfl⟩
          rw [HT4.out.1]
          go_wp2
          go_meet
          case rel => exact ⟨rfl, G, M, A, Z, X, C, Y, U, E, B⟩
        · have hz4b : (z4 == 0) = false := beq_eq_false_iff_ne.2 h4
          go_wp2
          go_meet
          case rel => exact ⟨rfl, G, M, A, Z, X, C, Y, U, E, B⟩
      case rest =>
        as_aux_lemma =>
        obtain ⟨rfl, G, M, A, Z, X, C, Y, U, E, B⟩ := hcut
        clear X C Y U E
        go_wp2
        go_loopw [28] (fun i wr => ∃ q : Nat, q ≤ gq.length ∧ i = .int .i64 q ∧ Hid (RdG wr EG gq.length gq) ∧ Hid (RdG wr EM gq.length gq) ∧ Hid (RdI wr EA la.length la) ∧ Hid (RdI wr EZ lz.length lz) ∧ Hid (Below w.heap.size w wr)) (fun i _ => gq.length - (intOf i).toNat)
        case atStart => exact ⟨0, Nat.zero_le _, rfl, G, M, A, Z, B⟩
        case round =>
          obtain ⟨q, hq, rfl, G', M', A', Z', B'⟩ := hrel
          by_cases hqt : q < gq.length
          · obtain ⟨hgi, l1, l2, l3, l4⟩ := HGX.out q hqt
            obtain ⟨_, _, h3⟩ := G'.out
            obtain ⟨_, _, h4⟩ := M'.out
            obtain ⟨_, _, h5⟩ := A'.out
            obtain ⟨_, _, h6⟩ := Z'.out
            rcases h3 with h0 | ⟨g, rfl, hg, h3⟩
            · omega
            rcases h4 with h0 | ⟨g2, rfl, hg2, h4⟩
            · omega
            rcases h5 with h0 | ⟨g5, rfl, hg5, h5⟩
            · omega
            rcases h6 with h0 | ⟨g6, rfl, hg6, h6⟩
            · omega
            obtain ⟨A1, d1, c1, r1⟩ := h3 q hqt
            obtain ⟨A2, d2, c2, r2⟩ := h4 q hqt
            have hm1 : q % la.length < la.length := Nat.mod_lt _ (by omega)
            have hm2 : q % lz.length < lz.length := Nat.mod_lt _ (by omega)
            have c5 := h5 _ hm1
            have c6 := h6 _ hm2
            rw [hgi] at c1 c2 r1 r2
            have R1 := Lib.hid r1
            have R2 := Lib.hid r2
            have hr : Int.tmod (q : Int) la.length = ((q % la.length : Nat) : Int) := by rw [Int.tmod_eq_emod_of_nonneg (by omega), Int.natCast_emod]
            have hr2 : (q : Int) % la.length = ((q % la.length : Nat) : Int) := (Int.natCast_emod _ _).symm
            have hs : Int.tmod (q : Int) lz.length = ((q % lz.length : Nat) : Int) := by rw [Int.tmod_eq_emod_of_nonneg (by omega), Int.natCast_emod]
            have hs2 : (q : Int) % lz.length = ((q % lz.length : Nat) : Int) := (Int.natCast_emod _ _).symm
            have hn00 : ¬ la.length = 0 := by omega
            have hn11 : ¬ lz.length = 0 := by omega
            generalize q % la.length = j at *
            generalize q % lz.length = k at *
            generalize la.getD j 0 = x at *
            generalize lz.getD k 0 = y at *
            obtain ⟨_, _, h7⟩ := R2.out
            rcases h7 with h0 | ⟨g7, rfl, hg7, h7⟩
            · simp at h0
            have c7 := h7 0 (by simp)
            have c8 := h7 1 (by simp)
            simp only [List.getD_cons_zero, List.getD_cons_succ] at c7 c8
            have hl2 : ([x, y] : List Int).length = 2 := rfl
            rw [hl2] at c1 c2 R1 R2
            have j0 : (0 : Int) ≤ (j : Int) := by omega
            have j1 : (j : Int) < la.length := by omega
            have k0 : (0 : Int) ≤ (k : Int) := by omega
            have k1 : (k : Int) < lz.length := by omega
            have q0 : (0 : Int) ≤ (q : Int) := by omega
            have q1 : (q : Int) < gq.length := by omega
            clear h3 h4 h5 h6 h7 r1 r2 hgi hl2
            go_wp2
            go_quiet ((go_at_call 52; exact Calls.quiet_of (f6ints_rd _ _ 2 _ _ [x, y] _ (R1.out.drewN _) (R2.out.drewN _))))
            go_wp2
            go_roundw
            case rel => exact ⟨q + 1, by omega, by go_num, Lib.hid (RdG.below G'.out (bDrewN (Below.refl _ _) _)), Lib.hid (RdG.below M'.out (bDrewN (Below.refl _ _) _)), Lib.hid (A'.out.drewN _), Lib.hid (Z'.out.drewN _), Lib.hid (bDrewN B'.out _)⟩
            case measure => simp [intOf]; omega
          · have hqn : q = gq.length := by omega
            subst hqn
            by_cases h1 : z1 = 0
            · subst h1
              obtain ⟨m1, m2, l1, l2, l3, l4⟩ := HGZ.out rfl
              have hr : Int.tmod (gq.length : Int) la.length = 0 := by rw [Int.tmod_eq_emod_of_nonneg (by omega), ← Int.natCast_emod, m1]; rfl
              have hr2 : (gq.length : Int) % la.length = 0 := by rw [← Int.natCast_emod, m1]; rfl
              have hs : Int.tmod (gq.length : Int) lz.length = 0 := by rw [Int.tmod_eq_emod_of_nonneg (by omega), ← Int.natCast_emod, m2]; rfl
              have hs2 : (gq.length : Int) % lz.length = 0 := by rw [← Int.natCast_emod, m2]; rfl
              have hn00 : ¬ la.length = 0 := by omega
              have hn11 : ¬ lz.length = 0 := by omega
              go_wp2
              go_ret
              exact ⟨rfl, B'.out⟩
            · have hz1b : (z1 != 0) = true := by rw [bne_iff_ne]; exact h1
              go_wp2
              go_ret
              exact ⟨rfl, B'.out⟩

set_option maxRecDepth 100000 in
/-- laws.FnJoinedLoops. -/
theorem law_FnJoinedLoops (a : Option Addr) (len cap : Nat) (cs : List Int) (w : World) (hr : Row w a len cap cs) :
    Calls Try.prog 13 #[.slice a len cap] w fun e w' => e = .returned (.bool true) ∧ Below w.heap.size w w' := by
  by_cases hlen : 4096 < (len : Int)
  · clear hr
    go_enter Try.func13, Try.ntmps13
    go_wp2_with fail
    refine (f6bigI_any a len cap _).mono ?_
    rintro e u ⟨rfl, rfl⟩
    rw [decide_eq_true hlen]
    go_wp2
    go_ret
    exact ⟨rfl, Below.refl _ _⟩
  · exact lawFnJoined_ok a len cap cs w hr (Int.not_lt.1 hlen)

end Go.Proofs.Ytfbdeeobmjndlaa
