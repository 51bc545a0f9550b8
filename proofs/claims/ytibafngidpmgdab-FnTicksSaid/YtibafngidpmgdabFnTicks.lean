/- The law of ticks: its facts in numbers, its own walk. -/
import Derived.Test.YtibafngidpmgdabFnBooks
import Derived.IntWalk
import Derived.WalkSpells
import Derived.OwnWalk
import Derived.Tactics
import Derived.Tactics2
import Derived.WalkKit
import Derived.LoopTactic
import Derived.BigQuiet
import Derived.RegionTactic
import Derived.Deep.QuietTactic
import Derived.Outline
import Derived.Lib.Hide
import Derived.Below
import Derived.KernelRfl
namespace Go.Proofs.Ytibafngidpmgdab
set_option linter.unusedSimpArgs false
set_option linter.unusedVariables false
open Go.RowKit

/-- What the best number of ticks is so far. -/
theorem bestS_inv {ps : List Scn} {most : Int} : ∀ k : Nat, ((bestS ps most k).1 = 0 → ∀ j : Int, 1 ≤ j → j ≤ k → most < pagesN j ps) ∧
    ((bestS ps most k).1 ≠ 0 → 1 ≤ (bestS ps most k).1 ∧ (bestS ps most k).1 ≤ k ∧ pagesN (bestS ps most k).1 ps ≤ most ∧ (bestS ps most k).2 = wrongN (bestS ps most k).1 ps ∧ ∀ j : Int, 1 ≤ j → j ≤ k → pagesN j ps ≤ most → (bestS ps most k).2 ≤ wrongN j ps ∧ (wrongN j ps = (bestS ps most k).2 → j ≤ (bestS ps most k).1))
  | 0 => ⟨fun _ j h1 h2 => by simp at h2; omega, fun h => absurd rfl h⟩
  | k + 1 => by
    obtain ⟨i1, i2⟩ := bestS_inv (ps := ps) (most := most) k
    by_cases hp : most < pagesN ((k : Int) + 1) ps
    · rw [bestS_skip hp]
      refine ⟨fun h j h1 h2 => ?_, fun h => ?_⟩
      · by_cases e : j = (k : Int) + 1
        · rw [e]; exact hp
        · exact i1 h j h1 (by omega)
      · obtain ⟨a1, a2, a3, a4, a5⟩ := i2 h
        refine ⟨a1, by omega, a3, a4, fun j h1 h2 h3 => ?_⟩
        by_cases e : j = (k : Int) + 1
        · rw [e] at h3; omega
        · exact a5 j h1 (by omega) h3
    · by_cases hb : (bestS ps most k).1 = 0 ∨ wrongN ((k : Int) + 1) ps ≤ (bestS ps most k).2
      · rw [bestS_take hp hb]
        refine ⟨fun h => absurd h (by dsimp only; omega), fun _ => ⟨by dsimp only; omega, by dsimp only; omega, by dsimp only; omega, rfl, fun j h1 h2 h3 => ?_⟩⟩
        by_cases e : j = (k : Int) + 1
        · rw [e]
          exact ⟨Int.le_refl _, fun _ => Int.le_refl _⟩
        · by_cases h0 : (bestS ps most k).1 = 0
          · have := i1 h0 j h1 (by omega)
            omega
          · have h4 := hb.resolve_left h0
            obtain ⟨a1, a2, a3, a4, a5⟩ := i2 h0
            obtain ⟨b1, b2⟩ := a5 j h1 (by omega) h3
            exact ⟨by dsimp only; omega, fun _ => by dsimp only; omega⟩
      · rw [bestS_keep hp hb]
        have h0 : (bestS ps most k).1 ≠ 0 := fun h => hb (.inl h)
        have h4 : ¬ wrongN ((k : Int) + 1) ps ≤ (bestS ps most k).2 := fun h => hb (.inr h)
        obtain ⟨a1, a2, a3, a4, a5⟩ := i2 h0
        refine ⟨fun h => absurd h h0, fun _ => ⟨a1, by omega, a3, a4, fun j h1 h2 h3 => ?_⟩⟩
        by_cases e : j = (k : Int) + 1
        · rw [e]
          exact ⟨by omega, fun h => by omega⟩
        · exact a5 j h1 (by omega) h3

theorem sumC_one {f : Scn → Int} : ∀ (ps : List Scn), (∀ j, j < ps.length → f (ps.getD j s0) = 1) → sumC f ps = ps.length
  | [], _ => rfl
  | x :: xs, h => by
    have h0 := h 0 (by simp)
    have h1 := sumC_one (f := f) xs (fun j hj => by have := h (j + 1) (by simp; omega); simpa using this)
    simp only [List.getD_cons_zero] at h0
    rw [sumC, h0, h1, List.length_cons]
    omega
theorem sumC_least {f : Scn → Int} : ∀ (ps : List Scn), (∀ j, j < ps.length → 1 ≤ f (ps.getD j s0)) → (ps.length : Int) ≤ sumC f ps
  | [], _ => Int.le_refl _
  | x :: xs, h => by
    have h0 := h 0 (by simp)
    have h1 := sumC_least (f := f) xs (fun j hj => by have := h (j + 1) (by simp; omega); simpa using this)
    simp only [List.getD_cons_zero] at h0
    rw [sumC, List.length_cons]
    omega
theorem pages_least {ps : List Scn} {e : Int} (h : scnsB ps = true) (e1 : 1 ≤ e) (e2 : e ≤ 100) : (ps.length : Int) ≤ pagesN e ps :=
  sumC_least _ fun j hj => by
    have ht := ticksIn h j hj
    exact (cnt_bd ht.1 ht.2 e1 e2).1
theorem pages_hundred {ps : List Scn} (h : scnsB ps = true) (h73 : ∀ j, j < ps.length → (ps.getD j s0).2 ≤ 73) : pagesN 100 ps = ps.length :=
  sumC_one _ fun j hj => by
    have ht := (ticksIn h j hj).1
    have h2 := h73 j hj
    have : near (ps.getD j s0).2 100 ≤ 1 := by
      unfold near
      omega
    unfold cnt
    omega

/-- The best tick of scenes that are drawn. -/
theorem best_facts {ps : List Scn} {most : Int} (h : scnsB ps = true) (h73 : ∀ j, j < ps.length → (ps.getD j s0).2 ≤ 73) (m1 : 1 ≤ most) (m2 : most ≤ 40) :
    (bestV ps most = (0, 0, 3) ∧ most < ps.length ∧ ∀ j : Int, 1 ≤ j → j ≤ 100 → most < pagesN j ps) ∨
    (∃ B W : Int, bestV ps most = (B, W, 0) ∧ 1 ≤ B ∧ B ≤ 100 ∧ pagesN B ps ≤ most ∧ W = wrongN B ps ∧ 0 ≤ W ∧ ∀ j : Int, 1 ≤ j → j ≤ 100 → pagesN j ps ≤ most → W ≤ wrongN j ps ∧ (wrongN j ps = W → j ≤ B)) := by
  have hin : inB most 1 60 = true := inB_iff.2 ⟨m1, by omega⟩
  obtain ⟨i1, i2⟩ := bestS_inv (ps := ps) (most := most) 100
  have hl := scnsB_len h
  have bd := bestS_bd (most := most) (ticksIn h) hl.2 100 (Nat.le_refl _)
  by_cases h0 : (bestS ps most 100).1 = 0
  · refine .inl ⟨by simp [bestV, h, hin, h0], ?_, fun j h1 h2 => i1 h0 j h1 (by omega)⟩
    have h3 := i1 h0 100 (by omega) (by omega)
    rw [pages_hundred h h73] at h3
    exact h3
  · obtain ⟨a1, a2, a3, a4, a5⟩ := i2 h0
    exact .inr ⟨(bestS ps most 100).1, (bestS ps most 100).2, by simp [bestV, h, hin, h0], a1, by omega, a3, a4, bd.2.2.1, fun j h1 h2 h3 => a5 j h1 (by omega) h3⟩
/-- The book of some ticks. -/
theorem drawn_book {ps : List Scn} {e : Int} (h : scnsB ps = true) (e1 : 1 ≤ e) (e2 : e ≤ 100) : (code8 ps e = 5 ∧ 60 < pagesN e ps) ∨ (code8 ps e = 0 ∧ ((bookT ps e).size : Int) = pagesN e ps ∧ err8 ps e = wrongN e ps) := by
  have hE : inB e 1 100 = true := inB_iff.2 ⟨e1, e2⟩
  rcases code8_cases ps e with ⟨h1, _⟩ | ⟨_, h2, _⟩ | ⟨_, _, h3, h5⟩ | ⟨_, _, h3, h5⟩
  · rw [h] at h1; cases h1
  · rw [hE] at h2; cases h2
  · exact .inl ⟨h5, h3⟩
  · refine .inr ⟨h5, ?_, by rw [err8, if_pos h5]⟩
    have hlen := bookB_length (e := e) h e1 e2 ps.length (Nat.le_refl _)
    rw [List.take_length] at hlen
    rw [bookT, if_pos h5, txt_size]
    exact hlen

set_option maxHeartbeats 8000000 in
set_option maxRecDepth 100000 in
/-- laws.FnTicks. -/
theorem law_FnTicks (a : Option Addr) (l c : Nat) (zs : List Int) (b : Option Addr) (m k : Nat) (ys : List Int) (w : World) (hr : Row w a l c zs) (hs : Row w b m k ys) :
    Calls Try.prog 4 #[.slice a l c, .slice b m k] w fun e w' => e = .returned (.bool true) ∧ Below w.heap.size w w' := by
  by_cases hlong : 3000 < l ∨ 3000 < m
  · have L := Lib.hid (fun u => a2Long_any a b l c m k u)
    have hd : (decide (3000 < (l : Int)) || decide (3000 < (m : Int))) = true := by simp; omega
    rw [hd] at L
    clear hr hs
    go_enter Try.func4, Try.ntmps4
    go_wp2_with fail
    refine (L.out _).mono ?_
    rintro e u ⟨rfl, rfl⟩
    go_wp2_with fail
    go_ret
    exact ⟨rfl, Below.refl _ _⟩
  · have L := Lib.hid (fun u => a2Long_any a b l c m k u)
    have hd : (decide (3000 < (l : Int)) || decide (3000 < (m : Int))) = false := by simp; omega
    rw [hd] at L
    have hm3 : m ≤ 3000 := by omega
    have HR := Lib.hid hr
    have HY := Lib.hid hs
    clear hr hs hlong hd
    go_enter Try.func4, Try.ntmps4
    go_wp2_with fail
    refine (L.out _).mono ?_
    rintro e u ⟨rfl, rfl⟩
    go_wp2_with fail
    refine (A2Scenes_any a l c zs _ HR.out).mono ?_
    rintro e u1 ⟨A, c', ps, rfl, hrd, hv, h6, h73, hb1⟩
    have RD := Lib.hid hrd
    have B := Lib.hid hb1
    have HV := Lib.hid hv
    have H73 := Lib.hid h73
    have SZ := Lib.hid (sizesOf hv)
    clear hrd hb1 hv h73
    go_wp2_with fail
    refine (a2At_any b m k ys 0 40 _ (HY.out.below B.out) (by omega) (by omega) (by omega) (by omega) hm3).mono ?_
    rintro r u2 ⟨t, t0, t1, rfl, hb2⟩
    replace RD := Lib.hid (RD.out.below hb2)
    replace B := Lib.hid (bTrans B.out hb2)
    clear hb2
    obtain ⟨most, hmost⟩ : ∃ M, 1 + t = M := ⟨_, rfl⟩
    have m1 : 1 ≤ most := by omega
    have m2 : most ≤ 40 := by omega
    have HMO := Lib.hid hmost
    clear hmost
    have BT := Lib.hid (fun u h => implBest_any A ps.length c' ps most u h SZ.out)
    have BF := Lib.hid (best_facts HV.out H73.out m1 m2)
    have DB := Lib.hid (fun e (e1 : 1 ≤ e) (e2 : e ≤ 100) => drawn_book (ps := ps) (e := e) HV.out e1 e2)
    have PL := Lib.hid (fun e (e1 : 1 ≤ e) (e2 : e ≤ 100) => pages_least (ps := ps) (e := e) HV.out e1 e2)
    have BK := Lib.hid (fun e u h => implBook_any A ps.length c' ps e u h SZ.out)
    have ER := Lib.hid (fun e u h => implError_any A ps.length c' ps e u h SZ.out)
    rcases BF.out with ⟨hbv, hmn, hall⟩ | ⟨E, W, hbv, E1, E2, hpm, hW, hW0, hall⟩
    · rw [hbv] at BT
      have HALL := Lib.hid hall
      clear hbv hall BF
      go_wp2_with fail
      rw [HMO.out]
      refine (BT.out _ RD.out).mono ?_
      rintro r u3 ⟨rfl, hb3⟩
      replace RD := Lib.hid (RD.out.below hb3)
      replace B := Lib.hid (bTrans B.out hb3)
      clear hb3
      go_wp2_with fail
      refine (a2At_any b m k ys 1 100 _ (HY.out.below B.out) (by omega) (by omega) (by omega) (by omega) hm3).mono ?_
      rintro r u4 ⟨d, d0, d1, rfl, hb4⟩
      replace RD := Lib.hid (RD.out.below hb4)
      replace B := Lib.hid (bTrans B.out hb4)
      clear hb4
      obtain ⟨D, hD⟩ : ∃ D, 1 + d = D := ⟨_, rfl⟩
      have D1 : 1 ≤ D := by omega
      have D2 : D ≤ 100 := by omega
      have HDD := Lib.hid hD
      clear hD
      have BKD := Lib.hid (fun u h => BK.out D u h)
      have ERD := Lib.hid (fun u h => ER.out D u h)
      have hpd := HALL.out D D1 D2
      have hcase : (code8 ps D = 5) ∨ (code8 ps D = 0 ∧ most < ((bookT ps D).size : Int)) := by
        rcases DB.out D D1 D2 with ⟨h, _⟩ | ⟨h, h2, _⟩
        · exact .inl h
        · exact .inr ⟨h, by omega⟩
      clear hpd
      generalize bookT ps D = T at *
      generalize err8 ps D = Z at *
      generalize code8 ps D = C at *
      rcases hcase with hC | ⟨hC, hTm⟩
      all_goals
        subst hC
        go_wp2_with fail
        rw [HDD.out]
        refine (BKD.out _ RD.out).mono ?_
        rintro r u5 ⟨rfl, hb5⟩
        replace RD := Lib.hid (RD.out.below hb5)
        replace B := Lib.hid (bTrans B.out hb5)
        clear hb5
        go_wp2_with fail
        refine (ERD.out _ RD.out).mono ?_
        rintro r u6 ⟨rfl, hb6⟩
        replace B := Lib.hid (bTrans B.out hb6)
        clear hb6
        go_wp2_with fail
        go_ret
        exact ⟨rfl, B.out⟩
    · rw [hbv] at BT
      have HALL := Lib.hid hall
      have HW := Lib.hid hW
      clear hbv hall BF hW
      have hEcase := DB.out E E1 E2
      have hEl := PL.out E E1 E2
      have hE0 : code8 ps E = 0 ∧ ((bookT ps E).size : Int) ≤ most ∧ (ps.length : Int) ≤ ((bookT ps E).size : Int) ∧ err8 ps E = W := by
        rcases hEcase with ⟨_, h⟩ | ⟨h, h2, h3⟩
        · omega
        · exact ⟨h, by omega, by omega, by rw [h3, HW.out]⟩
      obtain ⟨g1, g2, g3, g4⟩ := hE0
      have BKE := Lib.hid (fun u h => BK.out E u h)
      have ERE := Lib.hid (fun u h => ER.out E u h)
      rw [g1] at BKE ERE
      rw [g4] at ERE
      generalize bookT ps E = TE at *
      clear g1 g4 hEcase hEl
      go_wp2_with fail
      rw [HMO.out]
      refine (BT.out _ RD.out).mono ?_
      rintro r u3 ⟨rfl, hb3⟩
      replace RD := Lib.hid (RD.out.below hb3)
      replace B := Lib.hid (bTrans B.out hb3)
      clear hb3
      go_wp2_with fail
      refine (a2At_any b m k ys 1 100 _ (HY.out.below B.out) (by omega) (by omega) (by omega) (by omega) hm3).mono ?_
      rintro r u4 ⟨d, d0, d1, rfl, hb4⟩
      replace RD := Lib.hid (RD.out.below hb4)
      replace B := Lib.hid (bTrans B.out hb4)
      clear hb4
      obtain ⟨D, hD⟩ : ∃ D, 1 + d = D := ⟨_, rfl⟩
      have D1 : 1 ≤ D := by omega
      have D2 : D ≤ 100 := by omega
      have HDD := Lib.hid hD
      clear hD
      have BKD := Lib.hid (fun u h => BK.out D u h)
      have ERD := Lib.hid (fun u h => ER.out D u h)
      have hcase : (code8 ps D = 5) ∨ (code8 ps D = 0 ∧ most < ((bookT ps D).size : Int)) ∨ (code8 ps D = 0 ∧ ((bookT ps D).size : Int) ≤ most ∧ W < err8 ps D) ∨ (code8 ps D = 0 ∧ ((bookT ps D).size : Int) ≤ most ∧ err8 ps D = W ∧ D ≤ E) := by
        rcases DB.out D D1 D2 with ⟨h, _⟩ | ⟨h, h2, h3⟩
        · exact .inl h
        · by_cases hx : most < ((bookT ps D).size : Int)
          · exact .inr (.inl ⟨h, hx⟩)
          · obtain ⟨y1, y2⟩ := HALL.out D D1 D2 (by omega)
            by_cases hy : wrongN D ps = W
            · exact .inr (.inr (.inr ⟨h, by omega, by rw [h3]; exact hy, y2 hy⟩))
            · exact .inr (.inr (.inl ⟨h, by omega, by omega⟩))
      generalize bookT ps D = T at *
      generalize err8 ps D = Z at *
      generalize code8 ps D = C at *
      rcases hcase with hC | ⟨hC, hTm⟩ | ⟨hC, hTm, hZ⟩ | ⟨hC, hTm, hZ, hDE⟩
      case inr.inr.inl => 
        have hzb : (Z == W) = false := beq_eq_false_iff_ne.2 (by omega)
        subst hC
        go_wp2_with fail
        rw [HDD.out]
        refine (BKD.out _ RD.out).mono ?_
        rintro r u5 ⟨rfl, hb5⟩
        replace RD := Lib.hid (RD.out.below hb5)
        replace B := Lib.hid (bTrans B.out hb5)
        clear hb5
        go_wp2_with fail
        refine (ERD.out _ RD.out).mono ?_
        rintro r u6 ⟨rfl, hb6⟩
        replace RD := Lib.hid (RD.out.below hb6)
        replace B := Lib.hid (bTrans B.out hb6)
        clear hb6
        go_wp2_with fail
        refine (BKE.out _ RD.out).mono ?_
        rintro r u7 ⟨rfl, hb7⟩
        replace RD := Lib.hid (RD.out.below hb7)
        replace B := Lib.hid (bTrans B.out hb7)
        clear hb7
        go_wp2_with fail
        refine (ERE.out _ RD.out).mono ?_
        rintro r u8 ⟨rfl, hb8⟩
        replace B := Lib.hid (bTrans B.out hb8)
        clear hb8
        go_wp2_with fail
        go_ret
        exact ⟨rfl, B.out⟩
      case inr.inr.inr => 
        subst hZ
        subst hC
        go_wp2_with fail
        rw [HDD.out]
        refine (BKD.out _ RD.out).mono ?_
        rintro r u5 ⟨rfl, hb5⟩
        replace RD := Lib.hid (RD.out.below hb5)
        replace B := Lib.hid (bTrans B.out hb5)
        clear hb5
        go_wp2_with fail
        refine (ERD.out _ RD.out).mono ?_
        rintro r u6 ⟨rfl, hb6⟩
        replace RD := Lib.hid (RD.out.below hb6)
        replace B := Lib.hid (bTrans B.out hb6)
        clear hb6
        go_wp2_with fail
        refine (BKE.out _ RD.out).mono ?_
        rintro r u7 ⟨rfl, hb7⟩
        replace RD := Lib.hid (RD.out.below hb7)
        replace B := Lib.hid (bTrans B.out hb7)
        clear hb7
        go_wp2_with fail
        refine (ERE.out _ RD.out).mono ?_
        rintro r u8 ⟨rfl, hb8⟩
        replace B := Lib.hid (bTrans B.out hb8)
        clear hb8
        go_wp2_with fail
        go_ret
        exact ⟨rfl, B.out⟩
      case inl => 
        skip
        subst hC
        go_wp2_with fail
        rw [HDD.out]
        refine (BKD.out _ RD.out).mono ?_
        rintro r u5 ⟨rfl, hb5⟩
        replace RD := Lib.hid (RD.out.below hb5)
        replace B := Lib.hid (bTrans B.out hb5)
        clear hb5
        go_wp2_with fail
        refine (ERD.out _ RD.out).mono ?_
        rintro r u6 ⟨rfl, hb6⟩
        replace RD := Lib.hid (RD.out.below hb6)
        replace B := Lib.hid (bTrans B.out hb6)
        clear hb6
        go_wp2_with fail
        refine (BKE.out _ RD.out).mono ?_
        rintro r u7 ⟨rfl, hb7⟩
        replace RD := Lib.hid (RD.out.below hb7)
        replace B := Lib.hid (bTrans B.out hb7)
        clear hb7
        go_wp2_with fail
        refine (ERE.out _ RD.out).mono ?_
        rintro r u8 ⟨rfl, hb8⟩
        replace B := Lib.hid (bTrans B.out hb8)
        clear hb8
        go_wp2_with fail
        go_ret
        exact ⟨rfl, B.out⟩
      case inr.inl => 
        skip
        subst hC
        go_wp2_with fail
        rw [HDD.out]
        refine (BKD.out _ RD.out).mono ?_
        rintro r u5 ⟨rfl, hb5⟩
        replace RD := Lib.hid (RD.out.below hb5)
        replace B := Lib.hid (bTrans B.out hb5)
        clear hb5
        go_wp2_with fail
        refine (ERD.out _ RD.out).mono ?_
        rintro r u6 ⟨rfl, hb6⟩
        replace RD := Lib.hid (RD.out.below hb6)
        replace B := Lib.hid (bTrans B.out hb6)
        clear hb6
        go_wp2_with fail
        refine (BKE.out _ RD.out).mono ?_
        rintro r u7 ⟨rfl, hb7⟩
        replace RD := Lib.hid (RD.out.below hb7)
        replace B := Lib.hid (bTrans B.out hb7)
        clear hb7
        go_wp2_with fail
        refine (ERE.out _ RD.out).mono ?_
        rintro r u8 ⟨rfl, hb8⟩
        replace B := Lib.hid (bTrans B.out hb8)
        clear hb8
        go_wp2_with fail
        go_ret
        exact ⟨rfl, B.out⟩

end Go.Proofs.Ytibafngidpmgdab
