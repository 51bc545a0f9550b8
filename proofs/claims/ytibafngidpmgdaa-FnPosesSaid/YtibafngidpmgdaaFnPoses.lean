/- The law of poses: between, at a tick, mirrored, moved. -/
import Derived.Test.YtibafngidpmgdaaProg
import Derived.Test.YtibafngidpmgdaaInts
import Derived.Test.YtibafngidpmgdaaPoseBoth
import Derived.Test.YtibafngidpmgdaaKeyBoth
import Derived.Test.YtibafngidpmgdaaDSame
import Derived.Test.YtibafngidpmgdaaDraws4
import Derived.Test.YtibafngidpmgdaaF6a
import Derived.Deep.AppendLies
import Derived.Deep.DrawnRows
import Derived.IntWalk
import Derived.WalkSpells
import Derived.OwnWalk
import Derived.Laws.AppendOwn
import Derived.Laws.OwnMore
import Derived.Deep.RegionWith
import Derived.Deep.DrawnRows
import Derived.Deep.RegionHeld3
import Derived.Tactics
import Derived.Tactics2
import Derived.WalkKit
import Derived.LoopTactic
import Derived.BigQuiet
import Derived.RegionTactic
import Derived.Deep.QuietTactic
import Derived.Outline
import Derived.Lib.Hide
import Derived.Below
import Derived.KernelRfl
namespace Go.Proofs.Ytibafngidpmgdaa
set_option linter.unusedSimpArgs false
set_option linter.unusedVariables false
open Go.RowKit


/-- The lesser and the greater of two, as Go's min and max tell. -/
def loI (a b : Int) : Int := if b < a then b else a
def hiI (a b : Int) : Int := if b > a then b else a
theorem loI_eq (a b : Int) : loI a b = min a b := by
  unfold loI
  split <;> omega
theorem hiI_eq (a b : Int) : hiI a b = max a b := by
  unfold hiI
  split <;> omega
@[local go_sem high] theorem run_min_lo {P : Program} (w : World) (ts : Array TypeId) (t : TypeId) (k k' : IntKind) (x y : Int) : (Builtin.min_ ts t #[.int k x, .int k' y]).run P w = .ok (.int k (loI x y)) w := by
  simp [Builtin.min_, Builtin.min2, loI]
@[local go_sem high] theorem run_max_hi {P : Program} (w : World) (ts : Array TypeId) (t : TypeId) (k k' : IntKind) (x y : Int) : (Builtin.max_ ts t #[.int k x, .int k' y]).run P w = .ok (.int k (hiI x y)) w := by
  simp [Builtin.max_, Builtin.max2, hiI]

set_option maxHeartbeats 4000000 in
set_option maxRecDepth 100000 in
/-- laws.FnPoses, of bytes that are not too many. -/
theorem lawFnPoses_ok (a : Option Addr) (len cap : Nat) (cs : List Int) (w : World) (hr : Row w a len cap cs) (hlen : (len : Int) ≤ 4096) :
    Calls Try.prog 5 #[.slice a len cap] w fun e w' => e = .returned (.bool true) ∧ Below w.heap.size w w' := by
  have HR := Lib.hid hr
  clear hr
  have B := Lib.hid (Below.refl w.heap.size w)
  go_enter Try.func5, Try.ntmps5
  go_wp2_with fail
  refine (f6bigI_any a len cap _).mono ?_
  rintro e u ⟨rfl, rfl⟩
  rw [decide_eq_false (Int.not_lt.2 hlen)]
  go_wp2_with fail
  refine (drawBetween_any a len cap cs _ HR.out).mono ?_
  rintro e u1 ⟨vA, vD, la, lb, mm, NN, rfl, pA, pD, hlA, hlD, -, -, hb1⟩
  obtain ⟨EA, fA, rfl, rA⟩ := pA.rd (by omega)
  have A := Lib.hid rA
  obtain ⟨ED, fD, rfl, rD⟩ := pD.rd (by omega)
  have D := Lib.hid rD
  replace HR := Lib.hid (Row.below HR.out hb1)
  replace B := Lib.hid (bTrans B.out hb1)
  clear pA pD rA rD hb1
  obtain ⟨zb, qb, TI, TS, hqb, hbz⟩ := between_both la.length lb.length la lb mm NN rfl
  replace TI := Lib.hid TI
  replace TS := Lib.hid TS
  have HBZ := Lib.hid hbz
  clear hbz
  go_wp2_with fail
  refine (TI.out _ _ _ _ _ A.out D.out).mono ?_
  rintro e u2 ⟨vX, rfl, p2, hb2⟩
  obtain ⟨EX, fX, rfl, r2⟩ := p2.rd (by omega)
  have X := Lib.hid r2
  replace HR := Lib.hid (Row.below HR.out hb2)
  replace A := Lib.hid (Rd.below A.out hb2)
  replace D := Lib.hid (Rd.below D.out hb2)
  replace B := Lib.hid (bTrans B.out hb2)
  clear p2 r2 hb2
  go_wp2_with fail
  refine (TS.out _ _ _ _ _ A.out D.out).mono ?_
  rintro e u3 ⟨vM, rfl, p3, hb3⟩
  obtain ⟨EM, fM, rfl, r3⟩ := p3.rd (by omega)
  have M := Lib.hid r3
  replace HR := Lib.hid (Row.below HR.out hb3)
  replace A := Lib.hid (Rd.below A.out hb3)
  replace D := Lib.hid (Rd.below D.out hb3)
  replace X := Lib.hid (Rd.below X.out hb3)
  replace B := Lib.hid (bTrans B.out hb3)
  clear p3 r3 hb3
  go_wp2_with fail
  refine (drawAt_any a len cap cs _ HR.out).mono ?_
  rintro e u4 ⟨vK, esK, lk, tick, rfl, pK, hlK, htK, -, -, hb4⟩
  obtain ⟨EK, fK, rfl, rK⟩ := pK.rd (by omega) (by omega)
  have K := Lib.hid rK
  replace HR := Lib.hid (Row.below HR.out hb4)
  replace A := Lib.hid (Rd.below A.out hb4)
  replace D := Lib.hid (Rd.below D.out hb4)
  replace X := Lib.hid (Rd.below X.out hb4)
  replace M := Lib.hid (Rd.below M.out hb4)
  replace B := Lib.hid (bTrans B.out hb4)
  clear pK rK hb4
  obtain ⟨za, qa, AI, AS, hqa, haz⟩ := at_both lk.length lk tick rfl
  replace AI := Lib.hid AI
  replace AS := Lib.hid AS
  have HAZ := Lib.hid haz
  clear haz
  go_wp2_with fail
  refine (AI.out _ _ _ K.out).mono ?_
  rintro e u5 ⟨vY, rfl, p5, hb5⟩
  obtain ⟨EY, fY, rfl, r5⟩ := p5.rd (by omega)
  have Y := Lib.hid r5
  replace HR := Lib.hid (Row.below HR.out hb5)
  replace A := Lib.hid (Rd.below A.out hb5)
  replace D := Lib.hid (Rd.below D.out hb5)
  replace X := Lib.hid (Rd.below X.out hb5)
  replace M := Lib.hid (Rd.below M.out hb5)
  replace K := Lib.hid (RdK.below K.out hb5)
  replace B := Lib.hid (bTrans B.out hb5)
  clear p5 r5 hb5
  go_wp2_with fail
  refine (AS.out _ _ _ K.out).mono ?_
  rintro e u6 ⟨vP, rfl, p6, hb6⟩
  obtain ⟨EP, fP, rfl, r6⟩ := p6.rd (by omega)
  have P := Lib.hid r6
  replace HR := Lib.hid (Row.below HR.out hb6)
  replace A := Lib.hid (Rd.below A.out hb6)
  replace D := Lib.hid (Rd.below D.out hb6)
  replace X := Lib.hid (Rd.below X.out hb6)
  replace M := Lib.hid (Rd.below M.out hb6)
  replace K := Lib.hid (RdK.below K.out hb6)
  replace Y := Lib.hid (Rd.below Y.out hb6)
  replace B := Lib.hid (bTrans B.out hb6)
  clear p6 r6 hb6
  go_wp2_with fail
  refine (drawMirror_any a len cap cs _ HR.out).mono ?_
  rintro e u7 ⟨vC, lc, width, rfl, pC, hlC, -, -, hb7⟩
  obtain ⟨EC, fC, rfl, rC⟩ := pC.rd (by omega)
  have C := Lib.hid rC
  replace HR := Lib.hid (Row.below HR.out hb7)
  replace A := Lib.hid (Rd.below A.out hb7)
  replace D := Lib.hid (Rd.below D.out hb7)
  replace X := Lib.hid (Rd.below X.out hb7)
  replace M := Lib.hid (Rd.below M.out hb7)
  replace K := Lib.hid (RdK.below K.out hb7)
  replace Y := Lib.hid (Rd.below Y.out hb7)
  replace P := Lib.hid (Rd.below P.out hb7)
  replace B := Lib.hid (bTrans B.out hb7)
  clear pC rC hb7
  obtain ⟨zm, qm, MI, MS, hqm, hmz⟩ := mirror_both lc.length lc width rfl
  replace MI := Lib.hid MI
  replace MS := Lib.hid MS
  have HMZ := Lib.hid hmz
  clear hmz
  go_wp2_with fail
  refine (MI.out _ _ _ C.out).mono ?_
  rintro e u8 ⟨vZ, rfl, p8, hb8⟩
  obtain ⟨EZ, fZ, rfl, r8⟩ := p8.rd (by omega)
  have Z := Lib.hid r8
  replace HR := Lib.hid (Row.below HR.out hb8)
  replace A := Lib.hid (Rd.below A.out hb8)
  replace D := Lib.hid (Rd.below D.out hb8)
  replace X := Lib.hid (Rd.below X.out hb8)
  replace M := Lib.hid (Rd.below M.out hb8)
  replace K := Lib.hid (RdK.below K.out hb8)
  replace Y := Lib.hid (Rd.below Y.out hb8)
  replace P := Lib.hid (Rd.below P.out hb8)
  replace C := Lib.hid (Rd.below C.out hb8)
  replace B := Lib.hid (bTrans B.out hb8)
  clear p8 r8 hb8
  go_wp2_with fail
  refine (MS.out _ _ _ C.out).mono ?_
  rintro e u9 ⟨vR, rfl, p9, hb9⟩
  obtain ⟨ER, fR, rfl, r9⟩ := p9.rd (by omega)
  have R := Lib.hid r9
  replace HR := Lib.hid (Row.below HR.out hb9)
  replace A := Lib.hid (Rd.below A.out hb9)
  replace D := Lib.hid (Rd.below D.out hb9)
  replace X := Lib.hid (Rd.below X.out hb9)
  replace M := Lib.hid (Rd.below M.out hb9)
  replace K := Lib.hid (RdK.below K.out hb9)
  replace Y := Lib.hid (Rd.below Y.out hb9)
  replace P := Lib.hid (Rd.below P.out hb9)
  replace C := Lib.hid (Rd.below C.out hb9)
  replace Z := Lib.hid (Rd.below Z.out hb9)
  replace B := Lib.hid (bTrans B.out hb9)
  clear p9 r9 hb9
  go_wp2_with fail
  refine (drawMove_any a len cap cs _ HR.out).mono ?_
  rintro e u10 ⟨vG, vH, lg, lh, rfl, pG, pH, hlG, hlH, hb10⟩
  obtain ⟨EG, fG, rfl, rG⟩ := pG.rd (by omega)
  have G := Lib.hid rG
  obtain ⟨EH, fH, rfl, rH⟩ := pH.rd (by omega)
  have H := Lib.hid rH
  replace HR := Lib.hid (Row.below HR.out hb10)
  replace A := Lib.hid (Rd.below A.out hb10)
  replace D := Lib.hid (Rd.below D.out hb10)
  replace X := Lib.hid (Rd.below X.out hb10)
  replace M := Lib.hid (Rd.below M.out hb10)
  replace K := Lib.hid (RdK.below K.out hb10)
  replace Y := Lib.hid (Rd.below Y.out hb10)
  replace P := Lib.hid (Rd.below P.out hb10)
  replace C := Lib.hid (Rd.below C.out hb10)
  replace Z := Lib.hid (Rd.below Z.out hb10)
  replace R := Lib.hid (Rd.below R.out hb10)
  replace B := Lib.hid (bTrans B.out hb10)
  clear pG pH rG rH hb10
  obtain ⟨k1, k2, k3, VI, VS⟩ := move_both lg.length lh.length lg lh
  replace VI := Lib.hid VI
  replace VS := Lib.hid VS
  go_wp2_with fail
  refine (VI.out _ _ _ _ _ G.out H.out).mono ?_
  rintro e u11 ⟨rfl, hd11⟩
  have hb11 := hd11
  clear hd11
  replace HR := Lib.hid (Row.below HR.out hb11)
  replace A := Lib.hid (Rd.below A.out hb11)
  replace D := Lib.hid (Rd.below D.out hb11)
  replace X := Lib.hid (Rd.below X.out hb11)
  replace M := Lib.hid (Rd.below M.out hb11)
  replace K := Lib.hid (RdK.below K.out hb11)
  replace Y := Lib.hid (Rd.below Y.out hb11)
  replace P := Lib.hid (Rd.below P.out hb11)
  replace C := Lib.hid (Rd.below C.out hb11)
  replace Z := Lib.hid (Rd.below Z.out hb11)
  replace R := Lib.hid (Rd.below R.out hb11)
  replace G := Lib.hid (Rd.below G.out hb11)
  replace H := Lib.hid (Rd.below H.out hb11)
  replace B := Lib.hid (bTrans B.out hb11)
  clear hb11
  go_wp2_with fail
  refine (VS.out _ _ _ _ _ G.out H.out).mono ?_
  rintro e u12 ⟨rfl, hd12⟩
  have hb12 := hd12
  clear hd12
  replace HR := Lib.hid (Row.below HR.out hb12)
  replace A := Lib.hid (Rd.below A.out hb12)
  replace D := Lib.hid (Rd.below D.out hb12)
  replace X := Lib.hid (Rd.below X.out hb12)
  replace M := Lib.hid (Rd.below M.out hb12)
  replace K := Lib.hid (RdK.below K.out hb12)
  replace Y := Lib.hid (Rd.below Y.out hb12)
  replace P := Lib.hid (Rd.below P.out hb12)
  replace C := Lib.hid (Rd.below C.out hb12)
  replace Z := Lib.hid (Rd.below Z.out hb12)
  replace R := Lib.hid (Rd.below R.out hb12)
  replace G := Lib.hid (Rd.below G.out hb12)
  replace H := Lib.hid (Rd.below H.out hb12)
  replace B := Lib.hid (bTrans B.out hb12)
  clear hb12
  clear G H
  clear TI TS AI AS MI MS VI VS
  go_wp2_with fail
  refine (drawSame_any a len cap cs _ HR.out).mono ?_
  rintro e u13 ⟨vF, vI, lf, li, rfl, pF, pI, hlF, hlI, hb13⟩
  obtain ⟨EF, fF, rfl, rF⟩ := pF.rd (by omega)
  have F := Lib.hid rF
  obtain ⟨EI, fI, rfl, rI⟩ := pI.rd (by omega)
  have I := Lib.hid rI
  replace HR := Lib.hid (Row.below HR.out hb13)
  replace A := Lib.hid (Rd.below A.out hb13)
  replace D := Lib.hid (Rd.below D.out hb13)
  replace X := Lib.hid (Rd.below X.out hb13)
  replace M := Lib.hid (Rd.below M.out hb13)
  replace K := Lib.hid (RdK.below K.out hb13)
  replace Y := Lib.hid (Rd.below Y.out hb13)
  replace P := Lib.hid (Rd.below P.out hb13)
  replace C := Lib.hid (Rd.below C.out hb13)
  replace Z := Lib.hid (Rd.below Z.out hb13)
  replace R := Lib.hid (Rd.below R.out hb13)
  replace B := Lib.hid (bTrans B.out hb13)
  clear pF pI rF rI hb13
  clear HR
  go_wp2_with fail
  refine (specSame1 EX EM qb.length fX fM qb _ X.out M.out).mono ?_
  rintro e u14 ⟨rfl, hd14⟩
  have hb14 := belowDrewn hd14
  clear hd14
  replace A := Lib.hid (Rd.below A.out hb14)
  replace D := Lib.hid (Rd.below D.out hb14)
  replace X := Lib.hid (Rd.below X.out hb14)
  replace M := Lib.hid (Rd.below M.out hb14)
  replace K := Lib.hid (RdK.below K.out hb14)
  replace Y := Lib.hid (Rd.below Y.out hb14)
  replace P := Lib.hid (Rd.below P.out hb14)
  replace C := Lib.hid (Rd.below C.out hb14)
  replace Z := Lib.hid (Rd.below Z.out hb14)
  replace R := Lib.hid (Rd.below R.out hb14)
  replace F := Lib.hid (Rd.below F.out hb14)
  replace I := Lib.hid (Rd.below I.out hb14)
  replace B := Lib.hid (bTrans B.out hb14)
  clear hb14
  clear X
  go_wp2_with fail
  refine (specSame1 EY EP qa.length fY fP qa _ Y.out P.out).mono ?_
  rintro e u15 ⟨rfl, hd15⟩
  have hb15 := belowDrewn hd15
  clear hd15
  replace A := Lib.hid (Rd.below A.out hb15)
  replace D := Lib.hid (Rd.below D.out hb15)
  replace M := Lib.hid (Rd.below M.out hb15)
  replace K := Lib.hid (RdK.below K.out hb15)
  replace Y := Lib.hid (Rd.below Y.out hb15)
  replace P := Lib.hid (Rd.below P.out hb15)
  replace C := Lib.hid (Rd.below C.out hb15)
  replace Z := Lib.hid (Rd.below Z.out hb15)
  replace R := Lib.hid (Rd.below R.out hb15)
  replace F := Lib.hid (Rd.below F.out hb15)
  replace I := Lib.hid (Rd.below I.out hb15)
  replace B := Lib.hid (bTrans B.out hb15)
  clear hb15
  clear Y P
  go_wp2_with fail
  refine (specSame1 EZ ER qm.length fZ fR qm _ Z.out R.out).mono ?_
  rintro e u16 ⟨rfl, hd16⟩
  have hb16 := belowDrewn hd16
  clear hd16
  replace A := Lib.hid (Rd.below A.out hb16)
  replace D := Lib.hid (Rd.below D.out hb16)
  replace M := Lib.hid (Rd.below M.out hb16)
  replace K := Lib.hid (RdK.below K.out hb16)
  replace C := Lib.hid (Rd.below C.out hb16)
  replace Z := Lib.hid (Rd.below Z.out hb16)
  replace R := Lib.hid (Rd.below R.out hb16)
  replace F := Lib.hid (Rd.below F.out hb16)
  replace I := Lib.hid (Rd.below I.out hb16)
  replace B := Lib.hid (bTrans B.out hb16)
  clear hb16
  clear R
  have SA := Lib.hid (fun u => samePose_any EF EI lf.length li.length fF fI lf li u)
  have SS := Lib.hid (fun u => specSamePose_any EF EI lf.length li.length fF fI lf li u)
  generalize sameB lf li = sb at SA SS
  go_wp2_with fail
  refine (SA.out _ F.out I.out).mono ?_
  rintro e u17 ⟨rfl, hd17⟩
  have hb17 := belowDrewn hd17
  clear hd17
  replace A := Lib.hid (Rd.below A.out hb17)
  replace D := Lib.hid (Rd.below D.out hb17)
  replace M := Lib.hid (Rd.below M.out hb17)
  replace K := Lib.hid (RdK.below K.out hb17)
  replace C := Lib.hid (Rd.below C.out hb17)
  replace Z := Lib.hid (Rd.below Z.out hb17)
  replace F := Lib.hid (Rd.below F.out hb17)
  replace I := Lib.hid (Rd.below I.out hb17)
  replace B := Lib.hid (bTrans B.out hb17)
  clear hb17
  go_wp2_with fail
  refine (SS.out _ F.out I.out).mono ?_
  rintro e u18 ⟨rfl, hd18⟩
  have hb18 := belowDrewn hd18
  clear hd18
  replace A := Lib.hid (Rd.below A.out hb18)
  replace D := Lib.hid (Rd.below D.out hb18)
  replace M := Lib.hid (Rd.below M.out hb18)
  replace K := Lib.hid (RdK.below K.out hb18)
  replace C := Lib.hid (Rd.below C.out hb18)
  replace Z := Lib.hid (Rd.below Z.out hb18)
  replace F := Lib.hid (Rd.below F.out hb18)
  replace I := Lib.hid (Rd.below I.out hb18)
  replace B := Lib.hid (bTrans B.out hb18)
  clear hb18
  clear F I
  clear SA SS
  have SA := Lib.hid (fun u => validPose_any EC lc.length fC lc u)
  have SS := Lib.hid (fun u => specValidPose_any EC lc.length fC lc u)
  generalize poseB lc = sc at SA SS
  go_wp2_with fail
  refine (SA.out _ C.out).mono ?_
  rintro e u19 ⟨rfl, hd19⟩
  have hb19 := hd19
  clear hd19
  replace A := Lib.hid (Rd.below A.out hb19)
  replace D := Lib.hid (Rd.below D.out hb19)
  replace M := Lib.hid (Rd.below M.out hb19)
  replace K := Lib.hid (RdK.below K.out hb19)
  replace C := Lib.hid (Rd.below C.out hb19)
  replace Z := Lib.hid (Rd.below Z.out hb19)
  replace B := Lib.hid (bTrans B.out hb19)
  clear hb19
  go_wp2_with fail
  refine (SS.out _ C.out).mono ?_
  rintro e u20 ⟨rfl, hd20⟩
  have hb20 := belowSame hd20
  clear hd20
  replace A := Lib.hid (Rd.below A.out hb20)
  replace D := Lib.hid (Rd.below D.out hb20)
  replace M := Lib.hid (Rd.below M.out hb20)
  replace K := Lib.hid (RdK.below K.out hb20)
  replace C := Lib.hid (Rd.below C.out hb20)
  replace Z := Lib.hid (Rd.below Z.out hb20)
  replace B := Lib.hid (bTrans B.out hb20)
  clear hb20
  clear SA SS
  have SA := Lib.hid (fun u => validKeys_any EK lk.length fK lk u)
  have SS := Lib.hid (fun u => specValidKeys_any EK lk.length fK lk u)
  generalize keysB lk = sk at SA SS
  go_wp2_with fail
  refine (SA.out _ K.out).mono ?_
  rintro e u21 ⟨rfl, hd21⟩
  have hb21 := hd21
  clear hd21
  replace A := Lib.hid (Rd.below A.out hb21)
  replace D := Lib.hid (Rd.below D.out hb21)
  replace M := Lib.hid (Rd.below M.out hb21)
  replace K := Lib.hid (RdK.below K.out hb21)
  replace C := Lib.hid (Rd.below C.out hb21)
  replace Z := Lib.hid (Rd.below Z.out hb21)
  replace B := Lib.hid (bTrans B.out hb21)
  clear hb21
  go_wp2_with fail
  refine (SS.out _ K.out).mono ?_
  rintro e u22 ⟨rfl, hd22⟩
  have hb22 := belowDrewn hd22
  clear hd22
  replace A := Lib.hid (Rd.below A.out hb22)
  replace D := Lib.hid (Rd.below D.out hb22)
  replace M := Lib.hid (Rd.below M.out hb22)
  replace K := Lib.hid (RdK.below K.out hb22)
  replace C := Lib.hid (Rd.below C.out hb22)
  replace Z := Lib.hid (Rd.below Z.out hb22)
  replace B := Lib.hid (bTrans B.out hb22)
  clear hb22
  clear SA SS
  go_upto_if 193 with fail
  go_cut [] from 33 (fun wx => Hid (RdK wx EK lk.length lk) ∧ Hid (Rd wx EM qb.length qb) ∧ Hid (Rd wx EA la.length la) ∧ Hid (Rd wx ED lb.length lb) ∧ Hid (Below w.heap.size w wx))
  case first =>
    as_aux_lemma =>
    by_cases hthree : zm = 0
    · subst hthree
      have MZ := Lib.hid (HMZ.out rfl)
      go_wp2_with fail
      refine (MZ.out _ _ _ Z.out).mono ?_
      rintro e u23 ⟨vQ, rfl, p23, hb23⟩
      obtain ⟨EQ, fQ, rfl, r23⟩ := p23.rd (by omega)
      have Q := Lib.hid r23
      replace A := Lib.hid (Rd.below A.out hb23)
      replace D := Lib.hid (Rd.below D.out hb23)
      replace M := Lib.hid (Rd.below M.out hb23)
      replace K := Lib.hid (RdK.below K.out hb23)
      replace C := Lib.hid (Rd.below C.out hb23)
      replace Z := Lib.hid (Rd.below Z.out hb23)
      replace B := Lib.hid (bTrans B.out hb23)
      clear p23 r23 hb23
      go_wp2_with fail
      refine (specSame1 EQ EC lc.length fQ fC lc _ Q.out C.out).mono ?_
      rintro e u24 ⟨rfl, hd24⟩
      have hb24 := belowDrewn hd24
      clear hd24
      replace A := Lib.hid (Rd.below A.out hb24)
      replace D := Lib.hid (Rd.below D.out hb24)
      replace M := Lib.hid (Rd.below M.out hb24)
      replace K := Lib.hid (RdK.below K.out hb24)
      replace C := Lib.hid (Rd.below C.out hb24)
      replace Z := Lib.hid (Rd.below Z.out hb24)
      replace Q := Lib.hid (Rd.below Q.out hb24)
      replace B := Lib.hid (bTrans B.out hb24)
      clear hb24
      clear Q C Z
      go_wp2
      go_meet
      case rel => exact ⟨K, M, A, D, B⟩
    · have hth2 : (zm == 0) = false := by rw [beq_eq_false_iff_ne]; exact hthree
      go_wp2
      go_meet
      case rel => exact ⟨K, M, A, D, B⟩
  case rest =>
    as_aux_lemma =>
    clear K M A D B Z C
    obtain ⟨K, M, A, D, B⟩ := hcut
    go_upto_if 209 with fail
    go_cut [] from 33 (fun wx => Hid (Rd wx EM qb.length qb) ∧ Hid (Rd wx EA la.length la) ∧ Hid (Rd wx ED lb.length lb) ∧ Hid (Below w.heap.size w wx))
    case first =>
      as_aux_lemma =>
      by_cases hone : za = 0
      · subst hone
        go_wp2
        go_loopw [35] (fun i wq => ∃ q : Nat, q ≤ lk.length ∧ i = .int .i64 q ∧ Hid (RdK wq EK lk.length lk) ∧ Hid (Rd wq EM qb.length qb) ∧ Hid (Rd wq EA la.length la) ∧ Hid (Rd wq ED lb.length lb) ∧ Hid (Below w.heap.size w wq)) (fun i _ => lk.length - (intOf i).toNat)
        case atStart => exact ⟨0, Nat.zero_le _, rfl, K, M, A, D, B⟩
        case round =>
          obtain ⟨q, hq, rfl, K', M', A', D', B'⟩ := hrel
          by_cases hqt : q < lk.length
          · obtain ⟨hj8, hat⟩ := HAZ.out (by first | rfl | trivial) q hqt
            have AT := Lib.hid hat
            clear hat
            obtain ⟨_, _, h5⟩ := K'.out
            rcases h5 with h0 | ⟨g5, rfl, hg5, h5⟩
            · omega
            obtain ⟨t5, A5, d5, c5, r5⟩ := h5 q hqt
            clear h5
            simp only [tk, jt] at AT hj8
            have q0 : (0 : Int) ≤ (q : Int) := by omega
            have q1 : (q : Int) < lk.length := by omega
            generalize (lk.getD q Go.Proofs.Ytibafngidpmgdaa.k0).1 = tt at *
            generalize hpp : (lk.getD q Go.Proofs.Ytibafngidpmgdaa.k0).2 = pp at *
            go_wp2_with fail
            refine (AT.out _ _ _ K'.out).mono ?_
            rintro e u ⟨vo, rfl, po, hbo⟩
            have K2 := Lib.hid (RdK.below K'.out hbo)
            have M2 := Lib.hid (Rd.below M'.out hbo)
            have A2 := Lib.hid (Rd.below A'.out hbo)
            have D2 := Lib.hid (Rd.below D'.out hbo)
            have B2 := Lib.hid (bTrans B'.out hbo)
            clear t5 c5 r5 A5 d5
            obtain ⟨_, _, h5⟩ := K2.out
            rcases h5 with h0 | ⟨g6, hg6e, -, h5⟩
            · omega
            obtain rfl : g5 = g6 := by cases hg6e; rfl
            clear hg6e
            obtain ⟨t5, A5, d5, c5, r5⟩ := h5 q hqt
            rw [hpp] at c5 r5
            clear hpp h5 t5
            obtain ⟨EO, fO, rfl, ro⟩ := po.rd (by omega)
            obtain ⟨np, hnp⟩ : ∃ np, np = pp.length := ⟨_, rfl⟩
            rw [← hnp] at c5 r5 ro ⊢
            clear hnp po hbo
            have R5 := Lib.hid r5
            have RO := Lib.hid ro
            clear r5 ro
            go_wp2_with fail
            refine (specSame1 EO A5 np fO d5 pp _ RO.out R5.out).mono ?_
            rintro e u8 ⟨rfl, hd8⟩
            have hb8 := belowDrewn hd8
            clear hd8
            go_wp2
            go_roundw
            case rel => exact ⟨q + 1, by omega, by go_num, Lib.hid (RdK.below K2.out hb8), Lib.hid (Rd.below M2.out hb8), Lib.hid (Rd.below A2.out hb8), Lib.hid (Rd.below D2.out hb8), Lib.hid (bTrans B2.out hb8)⟩
            case measure => simp [intOf]; omega
          · have hqn : q = lk.length := by omega
            subst hqn
            clear K M A D B
            go_wp2
            go_meet
            case rel => exact ⟨M', A', D', B'⟩
      · have hone2 : (za == 0) = false := by rw [beq_eq_false_iff_ne]; exact hone
        go_wp2
        go_meet
        case rel => exact ⟨M, A, D, B⟩
    case rest =>
      as_aux_lemma =>
      clear K M A D B
      obtain ⟨HM2, HA2, HD2, HB2⟩ := hcut
      by_cases h1 : zb = 0
      · subst h1
        go_wp2
        go_loopw [38] (fun i wq => ∃ q : Nat, q ≤ qb.length ∧ i = .int .i64 q ∧ Hid (Rd wq EM qb.length qb) ∧ Hid (Rd wq EA la.length la) ∧ Hid (Rd wq ED lb.length lb) ∧ Hid (Below w.heap.size w wq)) (fun i _ => qb.length - (intOf i).toNat)
        case atStart => exact ⟨0, Nat.zero_le _, rfl, HM2, HA2, HD2, HB2⟩
        case round =>
          obtain ⟨q, hq, rfl, M', A', D', B'⟩ := hrel
          by_cases hqt : q < qb.length
          · obtain ⟨qa1, qa2, x1, x2, y1, y2⟩ := HBZ.out (by first | rfl | trivial) q hqt
            obtain ⟨_, _, h3⟩ := M'.out
            obtain ⟨_, _, h4⟩ := A'.out
            obtain ⟨_, _, h5⟩ := D'.out
            rcases h3 with h0 | ⟨g, rfl, hg, h3⟩
            · omega
            rcases h4 with h0 | ⟨g4, rfl, hg4, h4⟩
            · omega
            rcases h5 with h0 | ⟨g5, rfl, hg5, h5⟩
            · omega
            obtain ⟨c0, c1⟩ := h3 q hqt
            obtain ⟨c2, c3⟩ := h4 q qa1
            obtain ⟨c4, c5⟩ := h5 q qa2
            clear h3 h4 h5
            obtain ⟨px, hpx⟩ : ∃ x, x = (qb.getD q (0, 0)).1 := ⟨_, rfl⟩
            obtain ⟨py, hpy⟩ : ∃ x, x = (qb.getD q (0, 0)).2 := ⟨_, rfl⟩
            obtain ⟨ax, hax⟩ : ∃ x, x = (la.getD q (0, 0)).1 := ⟨_, rfl⟩
            obtain ⟨ay, hay⟩ : ∃ x, x = (la.getD q (0, 0)).2 := ⟨_, rfl⟩
            obtain ⟨dx, hdx⟩ : ∃ x, x = (lb.getD q (0, 0)).1 := ⟨_, rfl⟩
            obtain ⟨dy, hdy⟩ : ∃ x, x = (lb.getD q (0, 0)).2 := ⟨_, rfl⟩
            rw [← hpx] at c0 x1 x2
            rw [← hpy] at c1 y1 y2
            rw [← hax] at x1 x2
            rw [← hay] at y1 y2
            rw [← hdx] at x1 x2
            rw [← hdy] at y1 y2
            clear hpx hpy
            rw [← loI_eq] at x1 y1
            rw [← hiI_eq] at x2 y2
            have q0 : (0 : Int) ≤ (q : Int) := by omega
            have q1 : (q : Int) < qb.length := by omega
            have q2 : (q : Int) < la.length := by omega
            have q3 : (q : Int) < lb.length := by omega
            have X1 := Lib.hid x1
            have X2 := Lib.hid x2
            have X3 := Lib.hid y1
            have X4 := Lib.hid y2
            clear x1 x2 y1 y2 c2 c3 c4 c5
            go_wp2
            have M2 := Lib.hid (M'.out.below (bAlloc (Below.refl _ wr) (.cells #[.int .i64 px, .int .i64 py] 57)))
            have A2 := Lib.hid (A'.out.below (bAlloc (Below.refl _ wr) (.cells #[.int .i64 px, .int .i64 py] 57)))
            have D2 := Lib.hid (D'.out.below (bAlloc (Below.refl _ wr) (.cells #[.int .i64 px, .int .i64 py] 57)))
            have B2 := Lib.hid (bAlloc B'.out (.cells #[.int .i64 px, .int .i64 py] 57))
            have e0 : (wr.alloc (.cells #[.int .i64 px, .int .i64 py] 57)).cell? ⟨wr.heap.size, 0, none⟩ = some (.int .i64 px) := two_new wr px py 57 0 _ rfl
            have e1 : (wr.alloc (.cells #[.int .i64 px, .int .i64 py] 57)).cell? ⟨wr.heap.size, 1, none⟩ = some (.int .i64 py) := by
              have h9 := two_new wr px py 57 1 _ rfl
              rw [addP] at h9
              exact h9
            generalize wr.alloc (.cells #[.int .i64 px, .int .i64 py] 57) = W at e0 e1 M2 A2 D2 B2 ⊢
            generalize wr.heap.size = nb at e0 e1 ⊢
            obtain ⟨_, _, h4⟩ := A2.out
            obtain ⟨_, _, h5⟩ := D2.out
            rcases h4 with h0 | ⟨g8, e8, -, h4⟩
            · omega
            rcases h5 with h0 | ⟨g9, e9, -, h5⟩
            · omega
            obtain rfl : g4 = g8 := by cases e8; rfl
            obtain rfl : g5 = g9 := by cases e9; rfl
            clear e8 e9
            obtain ⟨c2, c3⟩ := h4 q qa1
            obtain ⟨c4, c5⟩ := h5 q qa2
            clear h4 h5 c0 c1 M' A' D' B'
            rw [← hax] at c2
            rw [← hay] at c3
            rw [← hdx] at c4
            rw [← hdy] at c5
            clear hax hay hdx hdy
            have f1 : decide (px < loI ax dx) = false := decide_eq_false (Int.not_lt.2 X1.out)
            have f2 : decide (hiI ax dx < px) = false := decide_eq_false (Int.not_lt.2 X2.out)
            have f3 : decide (py < loI ay dy) = false := decide_eq_false (Int.not_lt.2 X3.out)
            have f4 : decide (hiI ay dy < py) = false := decide_eq_false (Int.not_lt.2 X4.out)
            go_quiet (fail)
            go_wp2
            go_roundw
            case rel => exact ⟨q + 1, by omega, by go_num, Lib.hid (Rd.below M2.out (bDrewN (Below.refl _ _) _)), Lib.hid (Rd.below A2.out (bDrewN (Below.refl _ _) _)), Lib.hid (Rd.below D2.out (bDrewN (Below.refl _ _) _)), Lib.hid (bDrewN B2.out _)⟩
            case measure => simp [intOf]; omega
          · have hqn : q = qb.length := by omega
            subst hqn
            go_wp2
            go_ret
            exact ⟨rfl, B'.out⟩
      · have hb2 : (zb != 0) = true := by rw [bne_iff_ne]; exact h1
        go_wp2
        go_ret
        exact ⟨rfl, HB2.out⟩

set_option maxRecDepth 100000 in
/-- laws.FnPoses. -/
theorem law_FnPoses (a : Option Addr) (len cap : Nat) (cs : List Int) (w : World) (hr : Row w a len cap cs) :
    Calls Try.prog 5 #[.slice a len cap] w fun e w' => e = .returned (.bool true) ∧ Below w.heap.size w w' := by
  by_cases hlen : 4096 < (len : Int)
  · clear hr
    go_enter Try.func5, Try.ntmps5
    go_wp2_with fail
    refine (f6bigI_any a len cap _).mono ?_
    rintro e u ⟨rfl, rfl⟩
    rw [decide_eq_true hlen]
    go_wp2
    go_ret
    exact ⟨rfl, Below.refl _ _⟩
  · exact lawFnPoses_ok a len cap cs w hr (Int.not_lt.1 hlen)

end Go.Proofs.Ytibafngidpmgdaa
