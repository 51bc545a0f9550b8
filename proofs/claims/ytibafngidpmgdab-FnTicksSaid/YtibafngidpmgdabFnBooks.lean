/- The law of books: its own walk. -/
import Derived.Test.YtibafngidpmgdabBookTop
import Derived.Test.YtibafngidpmgdabBookFor
import Derived.Test.YtibafngidpmgdabScnDraw
import Derived.Test.YtibafngidpmgdabScnEq
import Derived.IntWalk
import Derived.WalkSpells
import Derived.OwnWalk
import Derived.Tactics
import Derived.Tactics2
import Derived.WalkKit
import Derived.LoopTactic
import Derived.BigQuiet
import Derived.RegionTactic
import Derived.Deep.QuietTactic
import Derived.Outline
import Derived.Lib.Hide
import Derived.Below
import Derived.KernelRfl
namespace Go.Proofs.Ytibafngidpmgdab
set_option linter.unusedSimpArgs false
set_option linter.unusedVariables false
open Go.RowKit

/-- spec.A2Scenes. -/
theorem A2Scenes_any (a : Option Addr) (len cap : Nat) (zs : List Int) (w : World) (hr : Row w a len cap zs) :
    Calls Try.prog 16 #[.slice a len cap] w fun e w' => ∃ A c ps, e = .returned (.slice A ps.length c) ∧ RdC w' A ps.length ps ∧ scnsB ps = true ∧ ps.length ≤ 6 ∧ (∀ j, j < ps.length → (ps.getD j s0).2 ≤ 73) ∧ Below w.heap.size w w' := by
  go_enter Try.func16, Try.ntmps16
  go_wp2_with fail
  refine (fromS a len cap zs _ hr).mono ?_
  rintro e u1 ⟨rfl, hs, hb1, hz⟩
  have HS := Lib.hid hs
  have HB := Lib.hid hb1
  have HZ := Lib.hid hz
  clear hs hb1 hz hr
  go_wp2_with fail
  refine (l08Draw_any w.heap.size _ HS.out).mono ?_
  rintro e u2 ⟨v, ps, rfl, hp, hv, h6, h73, ho⟩
  obtain ⟨A, c, rfl, hrd⟩ := hp.rd (by omega)
  have B2 := Lib.hid (HB.out.trans (ho.below (Nat.le_refl _) HB.out.size))
  have HR := Lib.hid hrd
  have H73 := Lib.hid h73
  clear hp hrd ho h73
  go_wp2_with fail
  go_ret
  exact ⟨A, c, ps, rfl, HR.out, hv, h6, H73.out, B2.out⟩

theorem sizesOf {ps : List Scn} (h : scnsB ps = true) : Sizes ps ps.length := fun j hj => by
  rw [(scns_scene h hj).1.1]
  decide

set_option maxHeartbeats 8000000 in
set_option maxRecDepth 100000 in
/-- laws.FnBooks. -/
theorem law_FnBooks (a : Option Addr) (l c : Nat) (zs : List Int) (b : Option Addr) (m k : Nat) (ys : List Int) (w : World) (hr : Row w a l c zs) (hs : Row w b m k ys) :
    Calls Try.prog 3 #[.slice a l c, .slice b m k] w fun e w' => e = .returned (.bool true) ∧ Below w.heap.size w w' := by
  by_cases hlong : 3000 < l ∨ 3000 < m
  · have L := Lib.hid (fun u => a2Long_any a b l c m k u)
    have hd : (decide (3000 < (l : Int)) || decide (3000 < (m : Int))) = true := by simp; omega
    rw [hd] at L
    clear hr hs
    go_enter Try.func3, Try.ntmps3
    go_wp2_with fail
    refine (L.out _).mono ?_
    rintro e u ⟨rfl, rfl⟩
    go_wp2_with fail
    go_ret
    exact ⟨rfl, Below.refl _ _⟩
  · have L := Lib.hid (fun u => a2Long_any a b l c m k u)
    have hd : (decide (3000 < (l : Int)) || decide (3000 < (m : Int))) = false := by simp; omega
    rw [hd] at L
    have hm3 : m ≤ 3000 := by omega
    have HR := Lib.hid hr
    have HY := Lib.hid hs
    clear hr hs hlong hd
    go_enter Try.func3, Try.ntmps3
    go_wp2_with fail
    refine (L.out _).mono ?_
    rintro e u ⟨rfl, rfl⟩
    go_wp2_with fail
    refine (A2Scenes_any a l c zs _ HR.out).mono ?_
    rintro e u1 ⟨A, c', ps, rfl, hrd, hv, h6, h73, hb1⟩
    have RD := Lib.hid hrd
    have B := Lib.hid hb1
    have HV := Lib.hid hv
    have HX := Lib.hid (exact_facts hv)
    have HS := Lib.hid (ticks_sum hv)
    have HBK := Lib.hid (exact_book hv)
    have SZ := Lib.hid (sizesOf hv)
    have HT := Lib.hid (ticksIn hv)
    have EX := Lib.hid (fun u h => implExact_yes A ps.length c' ps u h SZ.out hv)
    have LN := Lib.hid (fun u h => implLength_yes A ps.length c' ps u h SZ.out hv)
    obtain ⟨e, he⟩ : ∃ e : Int, (exactN ps : Int) = e := ⟨_, rfl⟩
    have BK := Lib.hid (fun u h => implBook_any A ps.length c' ps e u h SZ.out)
    have ER := Lib.hid (fun u h => implError_any A ps.length c' ps e u h SZ.out)
    rw [he] at HX EX HBK
    have BD := Lib.hid (fun i => ticks_bd HT.out (by omega) i)
    have HTK := Lib.hid (fun k (hk : k < ps.length) => sumC_take (fun x => x.2) ps k hk)
    have HTA := Lib.hid (show sumC (fun x => x.2) (ps.take ps.length) = ticksN ps by rw [List.take_length]; rfl)
    obtain ⟨S, hS⟩ : ∃ S, ticksN ps = S := ⟨_, rfl⟩
    rw [hS] at HS HBK LN HTA
    obtain ⟨e1, e2, _⟩ := HX.out
    have e1' : 1 ≤ e := by omega
    have e2' : e ≤ 100 := by omega
    obtain ⟨S1, S2⟩ := HS.out
    have hn6 : ps.length ≤ 6 := h6
    clear hrd hv h73 hb1 he hS HS h6 e1 e2
    go_wp2_with fail
    refine (EX.out _ RD.out).mono ?_
    rintro r u2 ⟨rfl, hb2⟩
    replace RD := Lib.hid (RD.out.below hb2)
    replace B := Lib.hid (bTrans B.out hb2)
    clear hb2
    go_wp2_with fail
    refine (LN.out _ RD.out).mono ?_
    rintro r u3 ⟨rfl, hb3⟩
    replace RD := Lib.hid (RD.out.below hb3)
    replace B := Lib.hid (bTrans B.out hb3)
    clear hb3
    go_wp2_with fail
    go_loop [11, 10] (fun i s => ∃ q : Nat, q ≤ ps.length ∧ i = .int .i64 q ∧ s = .int .i64 (sumC (fun x => x.2) (ps.take q))) (fun i _ => ps.length - (intOf i).toNat)
    case atStart => exact ⟨0, Nat.zero_le _, rfl, by simp [sumC]⟩
    case round =>
      obtain ⟨q, hq, rfl, rfl⟩ := hrel
      by_cases hlt : q < ps.length
      · obtain ⟨_, _, h3⟩ := RD.out
        rcases h3 with h0 | ⟨g, rfl, hg, h3⟩
        · omega
        obtain ⟨c0, c1⟩ := h3 q hlt
        obtain ⟨t1, t2⟩ := HT.out q hlt
        obtain ⟨s1, s2⟩ := BD.out q
        have HSk := Lib.hid (HTK.out q hlt)
        have hdv := HX.out.2.2 q hlt
        clear h3
        generalize ps.getD q Go.Proofs.Ytibafngidpmgdab.s0 = z at *
        obtain ⟨x, y⟩ := z
        simp only at c0 c1 t1 t2 HSk hdv
        have hdb : (y % e != 0) = false := by rw [hdv]; rfl
        have e0 : ¬ e = 0 := by omega
        have HDV := Lib.hid hdv
        clear hdv
        generalize sumC (fun x => x.2) (ps.take q) = T at *
        go_wp2
        go_round
        case rel => exact ⟨q + 1, by omega, by go_num, by rw [HSk.out]⟩
        case measure => simp [intOf]; omega
      · have : q = ps.length := by omega
        subst this
        rw [HTA.out]
        have h60 : 60 * e ≤ 6000 := by omega
        rcases HBK.out with ⟨hc5, hs60⟩ | ⟨hc0, hs60, he0, hsz, hle, hk0, hq0, hpl, hpg⟩
        · have HC := Lib.hid hc5
          rw [hc5] at BK ER
          have hn60 : ¬ S ≤ 60 * e := by omega
          clear HBK hc5
          generalize bookT ps e = T at *
          generalize err8 ps e = E at *
          go_wp2_with fail
          refine (BK.out _ RD.out).mono ?_
          rintro r u4 ⟨rfl, hb4⟩
          replace RD := Lib.hid (RD.out.below hb4)
          replace B := Lib.hid (bTrans B.out hb4)
          clear hb4
          go_wp2_with fail
          refine (ER.out _ RD.out).mono ?_
          rintro r u5 ⟨rfl, hb5⟩
          replace B := Lib.hid (bTrans B.out hb5)
          clear hb5
          go_wp2_with fail
          go_ret
          exact ⟨rfl, B.out⟩
        · rw [hc0] at BK ER
          rw [he0] at ER
          have SO := Lib.hid (fun u => implScenesOf_any (bookT ps e) e u (by unfold maxLen; omega))
          have P1 := Lib.hid (fun t u => implPageAt_any (bookT ps e) e t u (by unfold maxLen; omega))
          have P2 := Lib.hid (fun u => implPageAt_any (bookT ps e) e S u (by unfold maxLen; omega))
          unfold ScenesR at SO
          rw [hk0, hq0] at SO
          rw [hpl] at P2
          have HPG := Lib.hid hpg
          have HSZ := Lib.hid hsz
          have hszb : (((bookT ps e).size : Int) * e != S) = false := by rw [hsz]; simp
          have hmw : IntKind.i64.wrap (((bookT ps e).size : Int) * e) = S := by rw [hsz, IntWalk.i64_in _ (by omega)]
          clear HBK hc0 he0 hk0 hq0 hpl hpg hsz
          generalize bookT ps e = T at *
          go_wp2_with fail
          refine (BK.out _ RD.out).mono ?_
          rintro r u4 ⟨rfl, hb4⟩
          replace RD := Lib.hid (RD.out.below hb4)
          replace B := Lib.hid (bTrans B.out hb4)
          clear hb4
          go_wp2_with fail
          refine (ER.out _ RD.out).mono ?_
          rintro r u5 ⟨rfl, hb5⟩
          replace RD := Lib.hid (RD.out.below hb5)
          replace B := Lib.hid (bTrans B.out hb5)
          clear hb5
          go_wp2_with fail
          refine (SO.out _).mono ?_
          rintro r u6 ⟨vG, rfl, hp6, hb6⟩
          obtain ⟨AG, cG, rfl, rG⟩ := hp6.rd
          have RG := Lib.hid rG
          replace RD := Lib.hid (RD.out.below hb6)
          replace B := Lib.hid (bTrans B.out hb6)
          clear hb6 hp6 rG
          have HSA := Lib.hid (show sameC ps ps = true by simp [sameC])
          go_wp2_with fail
          refine (specSameScenes_any AG A ps.length ps.length cG c' ps ps _ RG.out RD.out).mono ?_
          rintro r u7 ⟨rfl, d7, hd7⟩
          rw [HSA.out]
          have hb7 : Below u6.heap.size u6 u7 := by rw [hd7]; exact bDrewN (Below.refl _ _) _
          replace RD := Lib.hid (RD.out.below hb7)
          replace B := Lib.hid (bTrans B.out hb7)
          clear hd7 hb7
          go_wp2_with fail
          refine (a2At_any b m k ys 0 S _ (HY.out.below B.out) (by omega) (by omega) (by omega) (by omega) hm3).mono ?_
          rintro r u8 ⟨t, t0, t1, rfl, hb8⟩
          replace RD := Lib.hid (RD.out.below hb8)
          replace B := Lib.hid (bTrans B.out hb8)
          clear hb8
          go_wp2_with fail
          refine (P1.out t _).mono ?_
          rintro r u9 ⟨rfl, hb9⟩
          replace RD := Lib.hid (RD.out.below hb9)
          replace B := Lib.hid (bTrans B.out hb9)
          clear hb9
          go_wp2_with fail
          refine (P2.out _).mono ?_
          rintro r u10 ⟨rfl, hb10⟩
          replace RD := Lib.hid (RD.out.below hb10)
          replace B := Lib.hid (bTrans B.out hb10)
          clear hb10
          go_wp2_with fail
          go_loop [24, 23] (fun i s => ∃ q : Nat, q ≤ ps.length ∧ i = .int .i64 q ∧ s = .int .i64 (sumC (fun x => x.2) (ps.take q)) ∧ Hid (sumC (fun x => x.2) (ps.take q) ≤ t)) (fun i _ => ps.length - (intOf i).toNat)
          case atStart => exact ⟨0, Nat.zero_le _, rfl, by simp [sumC], Lib.hid (by simp [sumC]; exact t0)⟩
          case round =>
            obtain ⟨q, hq, rfl, rfl, HQ⟩ := hrel
            by_cases hlt : q < ps.length
            · obtain ⟨_, _, h3⟩ := RD.out
              rcases h3 with h0 | ⟨g, rfl, hg, h3⟩
              · omega
              obtain ⟨c0, c1⟩ := h3 q hlt
              obtain ⟨t3, t4⟩ := HT.out q hlt
              obtain ⟨s1, s2⟩ := BD.out q
              have HSk := Lib.hid (HTK.out q hlt)
              have HP := Lib.hid (fun h => HPG.out t q hlt HQ.out h t0 t1)
              clear h3
              generalize ps.getD q Go.Proofs.Ytibafngidpmgdab.s0 = z at *
              obtain ⟨x, y⟩ := z
              simp only at c0 c1 t3 t4 HSk HP
              have HQ2 := HQ.out
              generalize sumC (fun x => x.2) (ps.take q) = T2 at *
              by_cases hgo : T2 + y ≤ t
              · go_wp2
                go_round
                case rel => exact ⟨q + 1, by omega, by go_num, by rw [HSk.out], Lib.hid (by rw [HSk.out]; exact hgo)⟩
                case measure => simp [intOf]; omega
              · obtain ⟨hz1, hz2⟩ := HP.out (by omega)
                rw [hz1, hz2]
                have HZ := Lib.hid (And.intro hz1 hz2)
                clear hz1 hz2
                go_wp2
                go_ret
                exact ⟨rfl, B.out⟩
            · have : q = ps.length := by omega
              subst this
              have h1 := HQ.out
              rw [HTA.out] at h1
              omega

end Go.Proofs.Ytibafngidpmgdab
