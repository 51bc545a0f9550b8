/- The law of pictures that are seen. -/
import Derived.Test.YtmgkoijnjhfinaaProg
import Derived.Test.YtmgkoijnjhfinaaSeenFacts
import Derived.Test.YtmgkoijnjhfinaaMissed
import Derived.OwnWalk
import Derived.Deep.RegionWith
import Derived.Deep.DrawnRows
import Derived.Laws.StructEq
import Derived.Deep.DeepCutAuto
import Derived.Tactics
import Derived.Tactics2
import Derived.WalkKit
import Derived.LoopTactic
import Derived.BigQuiet
import Derived.RegionTactic
import Derived.BigRegion
import Derived.Deep.QuietTactic
import Derived.Outline
import Derived.Lib.Hide
import Derived.Below
import Derived.KernelRfl
namespace Go.Proofs.Ytmgkoijnjhfinaa
open Go.RowKit
set_option linter.unusedSimpArgs false
set_option linter.unusedVariables false

set_option maxHeartbeats 4000000 in
set_option maxRecDepth 100000 in
theorem law_FnSeen (a : Option Addr) (l c : Nat) (zs : List Int) (b : Option Addr) (m k : Nat) (ys : List Int) (w : World) (r1 : Row w a l c zs) (r2 : Row w b m k ys) :
    Calls Try.prog 3 #[.slice a l c, .slice b m k] w fun e w' => e = .returned (.bool true) ∧ Below w.heap.size w w' := by
  by_cases hL : 3000 < (l : Int) ∨ 3000 < (m : Int)
  · have hL2 : (decide (3000 < (l : Int)) || decide (3000 < (m : Int))) = true := by simpa using hL
    have C1 := a2Long_any a b l c m k
    rw [hL2] at C1
    clear hL hL2 r1 r2
    go_enter Try.func3, Try.ntmps3
    go_wp2_with fail
    refine (C1 _).mono ?_
    rintro e u ⟨rfl, rfl⟩
    go_wp2_with fail
    go_ret
    exact ⟨rfl, Below.refl _ _⟩
  · have hL2 : (decide (3000 < (l : Int)) || decide (3000 < (m : Int))) = false := by simpa using hL
    have C1 := a2Long_any a b l c m k
    rw [hL2] at C1
    have hl : m ≤ 3000 := by omega
    clear hL hL2
    go_enter Try.func3, Try.ntmps3
    go_wp2_with fail
    refine (C1 _).mono ?_
    rintro e u ⟨rfl, rfl⟩
    go_wp2_with fail
    refine (A2Disc_any a l c zs _ r1).mono ?_
    rintro e u1 ⟨p, s, rfl, p1, p2, s1, s2, H1⟩
    clear C1 r1
    have dB : discB (p : Int) (s : Int) = true := by unfold discB; rw [inB_iff.2 (by omega), inB_iff.2 (by omega)]; rfl
    have K1 := Lib.hid (fun w => implSeenOrder_yes p s w dB)
    have K2 := Lib.hid (fun w => implMissed_yes p s w dB)
    have K3 := Lib.hid (fun (q t : Int) (q0 : 0 ≤ q) (q1 : q < s) (t0 : 0 ≤ t) (t1 : t < 9) => flash_facts (p := p) (s := s) (k := q) (t := t) (by omega) (by omega) (by omega) (by omega) q0 q1 t0 t1)
    have hOl := orderTo_length p s s
    have HG := Lib.hid (fun j h => orderTo_get p s s j h)
    generalize orderTo (p : Int) s s = L at *
    have HM := Lib.hid (fun j h => missTo_mem L p j h)
    have HR := Lib.hid (fun j h => missTo_rises L p j h)
    have HI := Lib.hid (fun q h => missTo_iff L p q h)
    have hMl := missTo_length L p
    generalize missTo L p = M at *
    clear dB
    go_wp2_with fail
    refine (K1.out _).mono ?_
    rintro e u2 ⟨v, rfl, iv, hb2⟩
    have hz1 := H1.size
    have H2 := bTrans H1 hb2
    have IV := Lib.hid iv
    have hV := iv.view
    clear hb2 H1 iv
    rcases hV with ⟨_, h0⟩ | ⟨g7, cap, rfl, _, hg7, _, hc, _⟩
    · subst h0
      simp at hOl
      omega
    have HC := Lib.hid hc
    clear hc
    rw [hOl] at IV HC ⊢
    go_wp2_with fail
    refine (K2.out _).mono ?_
    rintro e u3 ⟨v9, rfl, iv, hb3⟩
    have H3 := bTrans H2 hb3
    have I9 := Lib.hid iv
    have I7 := Lib.hid (owns_below IV.out hb3)
    have hg7 : g7 < u3.heap.size := Nat.lt_of_lt_of_le hg7 hb3.size
    have HC3 : Hid (∀ j, j < s → u3.cell? ⟨g7, j, none⟩ = some (.int .i64 (L.getD j 0))) := Lib.hid (fun j hj => (hb3.cell (by simp; have := (World.ownsRow.lt IV.out _ rfl).2; exact this)).trans (HC.out j hj))
    clear hb3 H2 iv IV HC
    go_wp2_with (first | (go_at_call 19; refine (a2Rises_yes _ v9 M p _ I9.out HM.out HR.out).mono ?_; rintro e u4 ⟨rfl, mm, rfl⟩) | fail)
    have H4 : Below w.heap.size w (u3.drewN mm) := bDrewN H3 mm
    have I9 : Hid (Ints (u3.drewN mm) u2.heap.size v9 M) := Lib.hid I9.out
    have I7 : Hid (Ints (u3.drewN mm) w.heap.size (.slice (some ⟨g7, 0, none⟩) s cap) L) := Lib.hid ⟨I7.out.1, I7.out.2.imp id (fun ⟨a, b, c, d, e, f⟩ => ⟨a, b, c, d, Nat.le_trans hz1 e, f⟩)⟩
    have HC4 : Hid (∀ j, j < s → (u3.drewN mm).cell? ⟨g7, j, none⟩ = some (.int .i64 (L.getD j 0))) := Lib.hid HC3.out
    have hg7 : g7 < (u3.drewN mm).heap.size := hg7
    clear H3 HC3 HM HR
    generalize u3.drewN mm = U at *
    go_loopw [11] (fun i wr => ∃ q : Nat, q ≤ s ∧ i = .int .i64 q ∧ Hid (Below U.heap.size U wr)) (fun i _ => s - (intOf i).toNat)
    case atStart => exact ⟨0, Nat.zero_le _, rfl, Lib.hid (Below.refl _ _)⟩
    case round =>
      obtain ⟨q, hq, rfl, HB⟩ := hrel
      have hbz := HB.out.size
      have Hw : Below w.heap.size w wr := bTrans H4 HB.out
      by_cases hlt : q < s
      · have r3 := r2.below Hw
        have c1 : wr.cell? ⟨g7, q, none⟩ = some (.int .i64 (L.getD q 0)) := (HB.out.cell (by exact hg7)).trans (HC4.out q hlt)
        rw [HG.out q (by omega)] at c1
        have lg : g7 < wr.heap.size := by omega
        go_wp2_with fail
        refine (a2At_any b m k ys q 9 _ r3 (by omega) (by omega) (by omega) (by omega) hl).mono ?_
        rintro e u5 ⟨t, t0, t1, rfl, hb5⟩
        have H5 : Below U.heap.size U u5 := bTrans HB.out hb5
        have c1 := (hb5.cell (p := ⟨g7, q, none⟩) (by exact lg)).trans c1
        have lg : g7 < u5.heap.size := Nat.lt_of_lt_of_le lg hb5.size
        clear hb5 r3
        obtain ⟨sq, N, D, V, fB, e0, f0, f1, f2, f3, f4, f5, f6, f7, f8, f9, f10, f11, f12, f13, f14, f15, f16, f17, f18, f19, f20, f21, f22, f23⟩ := K3.out q t (by omega) (by omega) t0 t1
        have S := Lib.hid (fun w => implSeenAt_yes p s (q + t * s) w fB)
        rw [V] at S
        rw [← e0] at c1
        clear e0 V fB
        go_wp2_with fail
        refine (S.out _).mono ?_
        rintro e u6 ⟨rfl, hb6⟩
        have H6 : Below U.heap.size U u6 := bTrans H5 hb6
        have c1 := (hb6.cell (p := ⟨g7, q, none⟩) (by exact lg)).trans c1
        have lg : g7 < u6.heap.size := Nat.lt_of_lt_of_le lg hb6.size
        have hnz : ¬ (s : Int) * D = 0 := by omega
        have hpz : ¬ (p : Int) = 0 := by omega
        clear hb6 H5 S
        have HB6 := Lib.hid (bAlloc H6 (.cells #[.int .i64 N, .int .i64 D] 32))
        clear H6
        go_wp2_with fail
        go_roundw
        case rel => exact ⟨q + 1, by omega, by go_num, HB6⟩
        case measure => simp [intOf]; omega
      · have : q = s := by omega
        subst this
        have J9 := Lib.hid (owns_below I9.out HB.out)
        have J7 := Lib.hid (owns_below I7.out HB.out)
        clear I9 I7 HC4 HG K1 K2 K3 H4 r2 hbz
        go_wp2
        go_loop [18] (fun i => ∃ x : Nat, x ≤ p ∧ i = .int .i64 x) (fun i => p - (intOf i).toNat)
        case atStart => exact ⟨0, Nat.zero_le _, rfl⟩
        case round =>
          obtain ⟨x, hx, rfl⟩ := hrel
          by_cases hxp : x < p
          · have E := HI.out x hxp
            have A1 := Lib.hid (a2Has_any _ v9 M x wr J9.out)
            have A2 := Lib.hid (fun h => a2Has_any w.heap.size (.slice (some ⟨g7, 0, none⟩) q cap) L x wr h)
            rw [E] at A1
            clear E
            have A2 := Lib.hid (A2.out J7.out)
            cases hh : hasI L x
            all_goals
              rw [hh] at A1 A2
              go_wp2_with fail
              refine A1.out.mono ?_
              rintro e u ⟨rfl, rfl⟩
              go_wp2_with fail
              refine A2.out.mono ?_
              rintro e u ⟨rfl, rfl⟩
              go_wp2_with fail
              go_round
              case rel => exact ⟨x + 1, by omega, by go_num⟩
              case measure => simp [intOf]; omega
          · have : x = p := by omega
            subst this
            go_wp2
            go_ret
            exact ⟨rfl, Hw⟩

end Go.Proofs.Ytmgkoijnjhfinaa
