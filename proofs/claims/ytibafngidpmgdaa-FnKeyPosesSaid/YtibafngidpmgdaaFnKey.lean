/- The law of key poses: all poses, stretched and needless keys. -/
import Derived.Test.YtibafngidpmgdaaProg
import Derived.Test.YtibafngidpmgdaaInts
import Derived.Test.YtibafngidpmgdaaKeyBoth
import Derived.Test.YtibafngidpmgdaaDraws5
import Derived.Test.YtibafngidpmgdaaDraws4
import Derived.Test.YtibafngidpmgdaaF6a
import Derived.Deep.AppendLies
import Derived.Deep.DrawnRows
import Derived.IntWalk
import Derived.WalkSpells
import Derived.OwnWalk
import Derived.Laws.AppendOwn
import Derived.Laws.OwnMore
import Derived.Deep.RegionWith
import Derived.Deep.DrawnRows
import Derived.Deep.RegionHeld3
import Derived.Tactics
import Derived.Tactics2
import Derived.WalkKit
import Derived.LoopTactic
import Derived.BigQuiet
import Derived.RegionTactic
import Derived.Deep.QuietTactic
import Derived.Outline
import Derived.Lib.Hide
import Derived.Below
import Derived.KernelRfl
namespace Go.Proofs.Ytibafngidpmgdaa
set_option linter.unusedSimpArgs false
set_option linter.unusedVariables false
open Go.RowKit


set_option maxHeartbeats 4000000 in
set_option maxRecDepth 100000 in
/-- laws.FnKeyPoses, of bytes that are not too many. -/
theorem lawFnKey_ok (a : Option Addr) (len cap : Nat) (cs : List Int) (w : World) (hr : Row w a len cap cs) (hlen : (len : Int) ≤ 4096) :
    Calls Try.prog 6 #[.slice a len cap] w fun e w' => e = .returned (.bool true) ∧ Below w.heap.size w w' := by
  have HR := Lib.hid hr
  clear hr
  have B := Lib.hid (Below.refl w.heap.size w)
  go_enter Try.func6, Try.ntmps6
  go_wp2_with fail
  refine (f6bigI_any a len cap _).mono ?_
  rintro e u ⟨rfl, rfl⟩
  rw [decide_eq_false (Int.not_lt.2 hlen)]
  go_wp2_with fail
  refine (drawAll_any a len cap cs _ HR.out).mono ?_
  rintro e u1 ⟨vL, esL, lk, s1, rfl, p1, hlL, htL, n0L, n1L, hb1⟩
  obtain ⟨EL, fL, rfl, r1⟩ := p1.rd (by omega) (by omega)
  have L := Lib.hid r1
  replace HR := Lib.hid (Row.below HR.out hb1)
  replace B := Lib.hid (bTrans B.out hb1)
  clear p1 r1 hb1
  obtain ⟨z1, gq, AI, AS, hg1, hg2, hgz⟩ := all_both lk.length lk s1 rfl
  replace AI := Lib.hid AI
  replace AS := Lib.hid AS
  have HGZ := Lib.hid hgz
  clear hgz
  go_wp2_with fail
  refine (AI.out _ _ _ L.out).mono ?_
  rintro e u2 ⟨vG, usG, rfl, p2, hb2⟩
  obtain ⟨EG, fG, rfl, r2⟩ := p2.rd (by omega) (by omega)
  have G := Lib.hid r2
  replace HR := Lib.hid (Row.below HR.out hb2)
  replace L := Lib.hid (RdK.below L.out hb2)
  replace B := Lib.hid (bTrans B.out hb2)
  clear p2 r2 hb2
  go_wp2_with fail
  refine (AS.out _ _ _ L.out).mono ?_
  rintro e u3 ⟨vM, usM, rfl, p3, hb3⟩
  obtain ⟨EM, fM, rfl, r3⟩ := p3.rd (by omega) (by omega)
  have M := Lib.hid r3
  replace HR := Lib.hid (Row.below HR.out hb3)
  replace L := Lib.hid (RdK.below L.out hb3)
  replace G := Lib.hid (RdQ.below G.out hb3)
  replace B := Lib.hid (bTrans B.out hb3)
  clear p3 r3 hb3
  go_wp2_with fail
  refine (drawStretch_any a len cap cs _ HR.out).mono ?_
  rintro e u4 ⟨vA, esA, la, s2, rfl, p4, hlA, htA, n0A, n1A, hb4⟩
  obtain ⟨EA, fA, rfl, r4⟩ := p4.rd (by omega) (by omega)
  have A := Lib.hid r4
  replace HR := Lib.hid (Row.below HR.out hb4)
  replace L := Lib.hid (RdK.below L.out hb4)
  replace G := Lib.hid (RdQ.below G.out hb4)
  replace M := Lib.hid (RdQ.below M.out hb4)
  replace B := Lib.hid (bTrans B.out hb4)
  clear p4 r4 hb4
  obtain ⟨z2, xq, SI, SS, hx1, hx2, hxx⟩ := str_both la.length la s2 rfl
  replace SI := Lib.hid SI
  replace SS := Lib.hid SS
  have HXX := Lib.hid hxx
  clear hxx
  go_wp2_with fail
  refine (SI.out _ _ _ A.out).mono ?_
  rintro e u5 ⟨vX, esX, rfl, p5, hb5⟩
  obtain ⟨EX, fX, rfl, r5⟩ := p5.rd (by omega) (by omega)
  have X := Lib.hid r5
  replace HR := Lib.hid (Row.below HR.out hb5)
  replace L := Lib.hid (RdK.below L.out hb5)
  replace G := Lib.hid (RdQ.below G.out hb5)
  replace M := Lib.hid (RdQ.below M.out hb5)
  replace A := Lib.hid (RdK.below A.out hb5)
  replace B := Lib.hid (bTrans B.out hb5)
  clear p5 r5 hb5
  go_wp2_with fail
  refine (SS.out _ _ _ A.out).mono ?_
  rintro e u6 ⟨vY, esY, rfl, p6, hb6⟩
  obtain ⟨EY, fY, rfl, r6⟩ := p6.rd (by omega) (by omega)
  have Y := Lib.hid r6
  replace HR := Lib.hid (Row.below HR.out hb6)
  replace L := Lib.hid (RdK.below L.out hb6)
  replace G := Lib.hid (RdQ.below G.out hb6)
  replace M := Lib.hid (RdQ.below M.out hb6)
  replace A := Lib.hid (RdK.below A.out hb6)
  replace X := Lib.hid (RdK.below X.out hb6)
  replace B := Lib.hid (bTrans B.out hb6)
  clear p6 r6 hb6
  go_wp2_with fail
  refine (drawNeed_any a len cap cs _ HR.out).mono ?_
  rintro e u7 ⟨vN, esN, lb, rfl, p7, hlN, htN, hb7⟩
  obtain ⟨EN, fN, rfl, r7⟩ := p7.rd (by omega) (by omega)
  have N := Lib.hid r7
  replace HR := Lib.hid (Row.below HR.out hb7)
  replace L := Lib.hid (RdK.below L.out hb7)
  replace G := Lib.hid (RdQ.below G.out hb7)
  replace M := Lib.hid (RdQ.below M.out hb7)
  replace A := Lib.hid (RdK.below A.out hb7)
  replace X := Lib.hid (RdK.below X.out hb7)
  replace Y := Lib.hid (RdK.below Y.out hb7)
  replace B := Lib.hid (bTrans B.out hb7)
  clear p7 r7 hb7
  obtain ⟨z3, nq, NI, NS, hn1, hnx⟩ := need_both lb.length lb rfl
  replace NI := Lib.hid NI
  replace NS := Lib.hid NS
  have HNX := Lib.hid hnx
  clear hnx
  go_wp2_with fail
  refine (NI.out _ _ _ N.out).mono ?_
  rintro e u8 ⟨vI, rfl, p8, hb8⟩
  obtain ⟨EI, fI, rfl, r8⟩ := p8.rd (by omega)
  have I := Lib.hid r8
  replace HR := Lib.hid (Row.below HR.out hb8)
  replace L := Lib.hid (RdK.below L.out hb8)
  replace G := Lib.hid (RdQ.below G.out hb8)
  replace M := Lib.hid (RdQ.below M.out hb8)
  replace A := Lib.hid (RdK.below A.out hb8)
  replace X := Lib.hid (RdK.below X.out hb8)
  replace Y := Lib.hid (RdK.below Y.out hb8)
  replace N := Lib.hid (RdK.below N.out hb8)
  replace B := Lib.hid (bTrans B.out hb8)
  clear p8 r8 hb8
  go_wp2_with fail
  refine (NS.out _ _ _ N.out).mono ?_
  rintro e u9 ⟨vJ, rfl, p9, hb9⟩
  obtain ⟨EJ, fJ, rfl, r9⟩ := p9.rd (by omega)
  have J := Lib.hid r9
  replace HR := Lib.hid (Row.below HR.out hb9)
  replace L := Lib.hid (RdK.below L.out hb9)
  replace G := Lib.hid (RdQ.below G.out hb9)
  replace M := Lib.hid (RdQ.below M.out hb9)
  replace A := Lib.hid (RdK.below A.out hb9)
  replace X := Lib.hid (RdK.below X.out hb9)
  replace Y := Lib.hid (RdK.below Y.out hb9)
  replace N := Lib.hid (RdK.below N.out hb9)
  replace I := Lib.hid (RdI.below I.out hb9)
  replace B := Lib.hid (bTrans B.out hb9)
  clear p9 r9 hb9
  clear AI AS SI SS NI NS HR
  go_wp2_with fail
  refine (f6ints_rd EI EJ nq.length fI fJ nq _ I.out J.out).mono ?_
  rintro e u10 ⟨rfl, hd10⟩
  have hb10 := belowDrewn hd10
  clear hd10
  replace L := Lib.hid (RdK.below L.out hb10)
  replace G := Lib.hid (RdQ.below G.out hb10)
  replace M := Lib.hid (RdQ.below M.out hb10)
  replace A := Lib.hid (RdK.below A.out hb10)
  replace X := Lib.hid (RdK.below X.out hb10)
  replace Y := Lib.hid (RdK.below Y.out hb10)
  replace N := Lib.hid (RdK.below N.out hb10)
  replace I := Lib.hid (RdI.below I.out hb10)
  replace J := Lib.hid (RdI.below J.out hb10)
  replace B := Lib.hid (bTrans B.out hb10)
  clear hb10
  clear I N
  go_wp2
  go_loopw [20] (fun i wr => ∃ q : Nat, q ≤ xq.length ∧ i = .int .i64 q ∧ ∃ m, Hid (wr = u10.drewN m)) (fun i _ => xq.length - (intOf i).toNat)
  case atStart => exact ⟨0, Nat.zero_le _, rfl, 0, Lib.hid rfl⟩
  case round =>
    obtain ⟨q, hq, rfl, m, HM⟩ := hrel
    by_cases hqt : q < xq.length
    · obtain ⟨hqa, hqe⟩ := HXX.out q hqt
      obtain ⟨_, _, h3⟩ := X.out
      obtain ⟨_, _, h4⟩ := Y.out
      obtain ⟨_, _, h5⟩ := A.out
      rcases h3 with h0 | ⟨g, rfl, hg, h3⟩
      · omega
      rcases h4 with h0 | ⟨g2, rfl, hg2, h4⟩
      · omega
      rcases h5 with h0 | ⟨g5, rfl, hg5, h5⟩
      · omega
      obtain ⟨t1, A1, d1, c1, r1⟩ := h3 q hqt
      obtain ⟨t2, A2, d2, c2, r2⟩ := h4 q hqt
      obtain ⟨-, A3, d3, c3, r3⟩ := h5 q hqa
      rw [← hqe] at c3 r3
      clear h3 h4 h5 hqe
      generalize (xq.getD q Go.Proofs.Ytibafngidpmgdaa.k0).1 = tk1 at *
      generalize (xq.getD q Go.Proofs.Ytibafngidpmgdaa.k0).2 = pp at *
      obtain ⟨np, hnp⟩ : ∃ np, np = pp.length := ⟨_, rfl⟩
      rw [← hnp] at c1 r1 c2 r2 c3 r3
      clear hnp
      have R1 := Lib.hid r1
      have R2 := Lib.hid r2
      have R3 := Lib.hid r3
      have cc1 : wr.cell? ⟨g, q * 2, none⟩ = some (.int .i64 tk1) := by rw [HM.out]; exact t1
      have cc2 : wr.cell? ⟨g2, q * 2, none⟩ = some (.int .i64 tk1) := by rw [HM.out]; exact t2
      have cc3 : wr.cell? ⟨g, q * 2 + 1, none⟩ = some (.slice A1 np d1) := by rw [HM.out]; exact c1
      have cc4 : wr.cell? ⟨g2, q * 2 + 1, none⟩ = some (.slice A2 np d2) := by rw [HM.out]; exact c2
      have cc5 : wr.cell? ⟨g5, q * 2 + 1, none⟩ = some (.slice A3 np d3) := by rw [HM.out]; exact c3
      have HW := HM.out
      have q0 : (0 : Int) ≤ (q : Int) := by omega
      have q1 : (q : Int) < xq.length := by omega
      have q2 : (q : Int) < la.length := by omega
      clear t1 t2 c1 c2 c3 r1 r2 r3
      have SP1 := Lib.hid (fun k => specSame1 A1 A2 np d1 d2 pp (wr.drewN k) (by rw [HW]; exact R1.out) (by rw [HW]; exact R2.out))
      have SP2 := Lib.hid (fun k => specSame1 A2 A3 np d2 d3 pp (wr.drewN k) (by rw [HW]; exact R2.out) (by rw [HW]; exact R3.out))
      clear HW
      go_wp2
      go_quiet (first | (go_at_call 45; first | with_reducible exact Calls.quiet_of (SP1.out _) | with_reducible exact Calls.quiet_of (SP2.out _)))
      go_wp2
      go_roundw
      case rel => exact ⟨q + 1, by omega, by go_num, _, Lib.hid (by rw [HM.out, World.drewN_drewN])⟩
      case measure => simp [intOf]; omega
    · have hqn : q = xq.length := by omega
      subst hqn
      have HJ := Lib.hid (show RdI wr EJ nq.length nq by rw [HM.out]; exact J.out.drewN m)
      have HL := Lib.hid (show RdK wr EL lk.length lk by rw [HM.out]; exact RdK.below L.out (bDrewN (Below.refl _ _) m))
      have HG := Lib.hid (show RdQ wr EG gq.length gq by rw [HM.out]; exact RdQ.below G.out (bDrewN (Below.refl _ _) m))
      have HMM := Lib.hid (show RdQ wr EM gq.length gq by rw [HM.out]; exact RdQ.below M.out (bDrewN (Below.refl _ _) m))
      have HBB := Lib.hid (show Below w.heap.size w wr by rw [HM.out]; exact bDrewN B.out m)
      clear J L G M B X Y A HM
      go_wp2
      go_loop [21] (fun i => ∃ q : Nat, q ≤ nq.length ∧ i = .int .i64 q) (fun i => nq.length - (intOf i).toNat)
      case atStart => exact ⟨0, Nat.zero_le _, rfl⟩
      case round =>
        obtain ⟨q, hq, rfl⟩ := hrel
        by_cases hqt : q < nq.length
        · obtain ⟨b1, b2⟩ := HNX.out q hqt
          obtain ⟨_, _, h3⟩ := HJ.out
          rcases h3 with h0 | ⟨g, rfl, hg, h3⟩
          · omega
          have c1 := h3 q hqt
          clear h3
          generalize nq.getD q 0 = x at *
          have wx : IntKind.i64.wrap (x + 1) = x + 1 := IntWalk.i64_in _ (by omega)
          have hx1 : ¬ x < 1 := by omega
          have hx2 : ¬ (lb.length : Int) ≤ x + 1 := by omega
          go_wp2
          go_round
          case rel => exact ⟨q + 1, by omega, by go_num⟩
          case measure => simp [intOf]; omega
        · have hqn : q = nq.length := by omega
          subst hqn
          by_cases h1 : z1 = 0
          · subst h1
            obtain ⟨hk, l1, t0, s1a, s1b, hall⟩ := HGZ.out rfl
            have HALL := Lib.hid hall
            clear hall
            go_wp2
            go_loopw [22] (fun i wq => ∃ q : Nat, q ≤ gq.length ∧ i = .int .i64 q ∧ Hid (RdQ wq EG gq.length gq) ∧ Hid (RdQ wq EM gq.length gq) ∧ Hid (RdK wq EL lk.length lk) ∧ Hid (Below w.heap.size w wq)) (fun i _ => gq.length - (intOf i).toNat)
            case atStart => exact ⟨0, Nat.zero_le _, rfl, HG, HMM, HL, HBB⟩
            case round =>
              obtain ⟨q, hq, rfl, G', M', L', B'⟩ := hrel
              by_cases hqt : q < gq.length
              · obtain ⟨e1, e2, e3, e4⟩ := HALL.out q hqt
                have AT := Lib.hid (fun u r => implAt_ok EL lk.length fL lk (tk lk 0 + (q : Int) * s1) u r hk e4)
                obtain ⟨_, _, h5⟩ := L'.out
                rcases h5 with h0 | ⟨g5, rfl, hg5, h5⟩
                · omega
                obtain ⟨c5, -⟩ := h5 0 (by omega)
                simp only [Nat.zero_mul, Nat.zero_add] at c5
                simp only [tk] at AT e1 e3 e4 t0
                generalize (lk.getD 0 Go.Proofs.Ytibafngidpmgdaa.k0).1 = tt at *
                generalize hqs : (q : Int) * s1 = qs at *
                have wq1 : IntKind.i64.wrap qs = qs := IntWalk.i64_in _ (by omega)
                have wq2 : IntKind.i64.wrap (tt + qs) = tt + qs := IntWalk.i64_in _ (by omega)
                have k0' : (0 : Int) < lk.length := by omega
                generalize poseAtN lk (tt + qs) = pp at *
                clear h5
                go_wp2_with fail
                refine (AT.out _ L'.out).mono ?_
                rintro e u ⟨vo, rfl, po, hbo⟩
                have G2 := Lib.hid (RdQ.below G'.out hbo)
                have M2 := Lib.hid (RdQ.below M'.out hbo)
                have L2 := Lib.hid (RdK.below L'.out hbo)
                have B2 := Lib.hid (bTrans B'.out hbo)
                obtain ⟨_, _, h3⟩ := G2.out
                obtain ⟨_, _, h4⟩ := M2.out
                rcases h3 with h0 | ⟨g, rfl, hg, h3⟩
                · omega
                rcases h4 with h0 | ⟨g2, rfl, hg2, h4⟩
                · omega
                obtain ⟨A1, d1, c1, r1⟩ := h3 q hqt
                obtain ⟨A2, d2, c2, r2⟩ := h4 q hqt
                rw [e1] at c1 r1 c2 r2
                have hpl := r1.2.1
                obtain ⟨EO, fO, rfl, ro⟩ := po.rd (by omega)
                obtain ⟨np, hnp⟩ : ∃ np, np = pp.length := ⟨_, rfl⟩
                rw [← hnp] at c1 r1 c2 r2 ro ⊢
                clear hnp hpl po hbo h3 h4
                have R1 := Lib.hid r1
                have R2 := Lib.hid r2
                have R3 := Lib.hid ro
                clear r1 r2 ro
                have q0 : (0 : Int) ≤ (q : Int) := by omega
                have q1 : (q : Int) < gq.length := by omega
                have SP1 := Lib.hid (fun k => specSame1 A1 A2 np d1 d2 pp (u.drewN k) R1.out R2.out)
                have SP2 := Lib.hid (fun k => specSame1 EO A2 np fO d2 pp (u.drewN k) R3.out R2.out)
                go_wp2
                go_quiet (first | (go_at_call 45; first | with_reducible exact Calls.quiet_of (SP1.out _) | with_reducible exact Calls.quiet_of (SP2.out _)))
                go_wp2
                go_roundw
                case rel => exact ⟨q + 1, by omega, by go_num, Lib.hid (RdQ.below G2.out (bDrewN (Below.refl _ _) _)), Lib.hid (RdQ.below M2.out (bDrewN (Below.refl _ _) _)), Lib.hid (RdK.below L2.out (bDrewN (Below.refl _ _) _)), Lib.hid (bDrewN B2.out _)⟩
                case measure => simp [intOf]; omega
              · have hqn : q = gq.length := by omega
                subst hqn
                go_wp2
                go_ret
                exact ⟨rfl, B'.out⟩
          · have hz1b : (z1 != 0) = true := by rw [bne_iff_ne]; exact h1
            go_wp2
            go_ret
            exact ⟨rfl, HBB.out⟩

set_option maxRecDepth 100000 in
/-- laws.FnKeyPoses. -/
theorem law_FnKeyPoses (a : Option Addr) (len cap : Nat) (cs : List Int) (w : World) (hr : Row w a len cap cs) :
    Calls Try.prog 6 #[.slice a len cap] w fun e w' => e = .returned (.bool true) ∧ Below w.heap.size w w' := by
  by_cases hlen : 4096 < (len : Int)
  · clear hr
    go_enter Try.func6, Try.ntmps6
    go_wp2_with fail
    refine (f6bigI_any a len cap _).mono ?_
    rintro e u ⟨rfl, rfl⟩
    rw [decide_eq_true hlen]
    go_wp2
    go_ret
    exact ⟨rfl, Below.refl _ _⟩
  · exact lawFnKey_ok a len cap cs w hr (Int.not_lt.1 hlen)

end Go.Proofs.Ytibafngidpmgdaa
