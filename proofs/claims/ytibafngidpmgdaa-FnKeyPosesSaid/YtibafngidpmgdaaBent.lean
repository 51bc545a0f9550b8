/- What the laws of chapter 4 draw: poses, and pairs of them. -/
import Derived.Test.YtibafngidpmgdaaProg
import Derived.Test.YtibafngidpmgdaaPose
import Derived.Test.YtibafngidpmgdaaKeys
import Derived.Test.YtibafngidpmgdaaKeyOk
import Derived.Test.YtibafngidpmgdaaPoseLaw
import Derived.Test.YtibafngidpmgdaaBetween
import Derived.Test.YtibafngidpmgdaaAt2
import Derived.Test.YtibafngidpmgdaaAtLaw
import Derived.Test.YtibafngidpmgdaaGrids
import Derived.Test.YtibafngidpmgdaaAll
import Derived.Test.YtibafngidpmgdaaSrc
import Derived.Test.YtibafngidpmgdaaPick
import Derived.Test.YtibafngidpmgdaaPick2
import Derived.IntWalk
import Derived.WalkSpells
import Derived.OwnWalk
import Derived.Deep.RegionWith
import Derived.Deep.DrawnRows
import Derived.Deep.RegionHeld3
import Derived.Tactics
import Derived.Tactics2
import Derived.WalkKit
import Derived.LoopTactic
import Derived.BigQuiet
import Derived.RegionTactic
import Derived.Deep.QuietTactic
import Derived.Outline
import Derived.Lib.Hide
import Derived.Below
import Derived.KernelRfl
namespace Go.Proofs.Ytibafngidpmgdaa
set_option linter.unusedSimpArgs false
set_option linter.unusedVariables false
open Go.RowKit


theorem ptsOpen {w : World} {B : Nat} {v : Value} {ps : List Pt} (h : Pts w B v ps) (hn : 1 ≤ ps.length) : ∃ g cap, v = .slice (some ⟨g, 0, none⟩) ps.length cap ∧ B ≤ g ∧ g < w.heap.size := by
  rcases h.2 with ⟨rfl, h0⟩ | ⟨g, cap, cur, rfl, hB, hg, _⟩
  · omega
  · exact ⟨g, cap, rfl, hB, (Array.getElem?_eq_some_iff.1 hg).1⟩
theorem flat_set0 : ∀ (ps : List Pt) (z : Int), 1 ≤ ps.length → (flat ps).set 0 (.int .i64 z) = flat (ps.set 0 (z, (ps.getD 0 (0, 0)).2))
  | [], _, h => by simp at h
  | p :: ps, z, _ => by simp [flat]
theorem ptsSet0 {w : World} {B g cap : Nat} {ps : List Pt} (h : Pts w B (.slice (some ⟨g, 0, none⟩) ps.length cap) ps) (hn : 1 ≤ ps.length) (z : Int) :
    Pts (w.setCell ⟨g, 0, none⟩ (.int .i64 z)) B (.slice (some ⟨g, 0, none⟩) ps.length cap) (ps.set 0 (z, (ps.getD 0 (0, 0)).2)) := by
  obtain ⟨S1, _⟩ := World.ownsRow.stored h 0 (.int .i64 z)
  unfold Pts
  rw [← flat_set0 ps z hn, List.length_set]
  exact S1
theorem four_get {j : Nat} (hj : j < 4) : ∃ N : Nat, N ≤ 9 ∧ ([0, 1, 8, 9] : List Int).getD j 0 = (N : Int) := by
  match j, hj with
  | 0, _ => exact ⟨0, by omega, rfl⟩
  | 1, _ => exact ⟨1, by omega, rfl⟩
  | 2, _ => exact ⟨8, by omega, rfl⟩
  | 3, _ => exact ⟨9, by omega, rfl⟩

/-- What a draw of a pose leaves. -/
def BentR (w : World) (b K : Nat) (e : Ending) (w' : World) : Prop := ∃ v ps, e = .returned v ∧ Pts w' w.heap.size v ps ∧ ps.length ≤ 9 ∧ Sc w' b K ∧ Only b w w'

set_option maxHeartbeats 1000000 in
set_option maxRecDepth 100000 in
/-- spec.l04Bent. -/
theorem l04Bent_any (b K : Nat) (w : World) (h : Sc w b K) (hK : K ≤ 700000) :
    Calls Try.prog 111 #[.pointer (some ⟨b, 0, none⟩)] w (BentR w b (K + 100)) := by
  have hb := h.lt
  have H := Lib.hid h
  clear h
  go_enter Try.func111, Try.ntmps111
  go_wp2_with fail
  refine (pickS 4 b K _ (by omega) (by omega) H.out (by omega)).mono ?_
  rintro e u1 ⟨x, x0, x1, rfl, hs1, ho1⟩
  have HS1 := Lib.hid hs1
  have HO1 := Lib.hid ho1
  clear hs1 ho1
  have hw1 : IntKind.i64.wrap (1 + x) = 1 + x := IntWalk.i64_in _ (by omega)
  go_wp2_with fail
  refine (oneS 16 b _ _ (by omega) (by omega) HS1.out (by omega)).mono ?_
  rintro e u2 ⟨t1, rfl, hs2, ho2⟩
  have HS2 := Lib.hid hs2
  have HO2 := Lib.hid (HO1.out.trans ho2)
  clear hs2 ho2 HS1 HO1
  cases t1
  · obtain ⟨N, hN⟩ : ∃ N : Nat, 1 + x = N := ⟨(1 + x).toNat, by omega⟩
    have hN9 : N ≤ 9 := by omega
    have HSx := Lib.hid (HS2.out.mono (show K + 2 + 2 ≤ K + 6 by omega))
    have HOx := Lib.hid HO2.out
    rw [hN] at *
    clear HS2 HO2 hw1 hN
    go_wp2_with fail
    refine (l04New_any N b _ _ (by omega) HSx.out (by omega)).mono ?_
    rintro e u4 ⟨v, ps, rfl, p4, hl4, hs4, ho4⟩
    have HP4 := Lib.hid (p4.base (B' := w.heap.size) HOx.out.size)
    have HS4 := Lib.hid (hs4.mono (show _ ≤ K + 60 by omega))
    have HO4 := Lib.hid (HOx.out.trans ho4)
    clear p4 hs4 ho4
    by_cases hN0 : N = 0
    · subst hN0
      go_wp2
      go_ret
      exact ⟨v, ps, rfl, HP4.out, by omega, HS4.out.mono (by omega), HO4.out⟩
    · have hNp : (0:Int) < (N:Int) := by omega
      go_wp2_with fail
      refine (oneS 12 b _ _ (by omega) (by omega) HS4.out (by omega)).mono ?_
      rintro e u5 ⟨t2, rfl, hs5, ho5⟩
      have HP5 := Lib.hid (HP4.out.chg (chgOnly ho5) (fun j hj e => by have := (ownsLt HP4.out j hj).1; omega))
      have HS5 := Lib.hid hs5
      have HO5 := Lib.hid (HO4.out.trans ho5)
      clear hs5 ho5 HP4 HS4 HO4
      cases t2
      · go_wp2
        go_ret
        exact ⟨v, ps, rfl, HP5.out, by omega, HS5.out.mono (by omega), HO5.out⟩
      · obtain ⟨g, cap, rfl, hBg, hgl⟩ := ptsOpen HP5.out (by omega)
        have hbz5 := HO5.out.size
        go_wp2_with fail
        refine (amongS b (K + 60 + 2) u5.heap.size _ [-1, 0, 1000, 1001, -9223372036854775808] _ (World.ownsRow_lit u5 #[.int .i64 (-1), .int .i64 0, .int .i64 1000, .int .i64 1001, .int .i64 (-9223372036854775808)] 5 (Nat.le_refl _) (by decide) rfl) (by simp) (by simp) (by omega) (HS5.out.below (bAlloc (Below.refl _ _) _)) (by omega)).mono ?_
        rintro e u6 ⟨j, hj, rfl, hs6, ho6⟩
        generalize ([-1, 0, 1000, 1001, -9223372036854775808] : List Int).getD j 0 = z at *
        have hsep : ∀ j, own1 (.slice (some ⟨g, 0, none⟩) ps.length cap) j → ¬ (j = b) := fun j hj e => by
          have := (ownsLt HP5.out j hj).1
          omega
        have HP6 := Lib.hid ((HP5.out.below (bAlloc (Below.refl _ _) _)).chg (chgOnly ho6) hsep)
        have HS6 := Lib.hid hs6
        have HO6 := Lib.hid ((HO5.out.alloc _).trans ho6)
        have c0 := World.ownsRow.cellAt HP6.out 0 (by omega)
        have f0 : u6.frozen? ⟨g, 0, none⟩ = false := World.ownsRow.frozenAt HP6.out _
        rw [(show (flat ps)[0]? = some (.int .i64 (ps.getD 0 (0, 0)).1) from (flat_get ps 0 (by omega)).1)] at c0
        have P7 := Lib.hid (ptsSet0 HP6.out (by omega) z)
        have hl7 : (ps.set 0 (z, (ps.getD 0 (0, 0)).2)).length ≤ 9 := by rw [List.length_set]; omega
        rw [hl4] at P7
        have HS7 := Lib.hid (HS6.out.chg (u := u6.setCell ⟨g, 0, none⟩ (.int .i64 z)) (S := fun k => k = g) (by refine Chg.set (Chg.refl _ _) ?_ _; exact .inl rfl) (fun k hk => by omega))
        have HO7 := Lib.hid (HO6.out.setNew (p := ⟨g, 0, none⟩) (by dsimp only; omega) (.int .i64 z))
        have hps0 : (0:Int) < ps.length := by omega
        generalize (ps.getD 0 (0, 0)).1 = z0 at *
        clear hs6 ho6 HP5 HS5 HO5 HP6 HS6 HO6 hsep
        go_wp2
        go_ret
        exact ⟨_, _, rfl, P7.out, hl7, HS7.out.mono (by omega), HO7.out⟩
  · have hbz2 := HO2.out.size
    go_wp2_with fail
    refine (amongS b (K + 2 + 2) u2.heap.size _ [0, 1, 8, 9] _ (World.ownsRow_lit u2 #[.int .i64 0, .int .i64 1, .int .i64 8, .int .i64 9] 4 (Nat.le_refl _) (by decide) rfl) (by simp) (by simp) (by omega) (HS2.out.below (bAlloc (Below.refl _ _) _)) (by omega)).mono ?_
    rintro e u3 ⟨j, hj, rfl, hs3, ho3⟩
    obtain ⟨N, hN9, hN⟩ := four_get (j := j) (by simpa using hj)
    rw [hN]
    have HSx := Lib.hid hs3
    have HOx := Lib.hid ((HO2.out.alloc _).trans ho3)
    clear hs3 ho3 HS2 HO2 hN
    go_wp2_with fail
    refine (l04New_any N b _ _ (by omega) HSx.out (by omega)).mono ?_
    rintro e u4 ⟨v, ps, rfl, p4, hl4, hs4, ho4⟩
    have HP4 := Lib.hid (p4.base (B' := w.heap.size) HOx.out.size)
    have HS4 := Lib.hid (hs4.mono (show _ ≤ K + 60 by omega))
    have HO4 := Lib.hid (HOx.out.trans ho4)
    clear p4 hs4 ho4
    by_cases hN0 : N = 0
    · subst hN0
      go_wp2
      go_ret
      exact ⟨v, ps, rfl, HP4.out, by omega, HS4.out.mono (by omega), HO4.out⟩
    · have hNp : (0:Int) < (N:Int) := by omega
      go_wp2_with fail
      refine (oneS 12 b _ _ (by omega) (by omega) HS4.out (by omega)).mono ?_
      rintro e u5 ⟨t2, rfl, hs5, ho5⟩
      have HP5 := Lib.hid (HP4.out.chg (chgOnly ho5) (fun j hj e => by have := (ownsLt HP4.out j hj).1; omega))
      have HS5 := Lib.hid hs5
      have HO5 := Lib.hid (HO4.out.trans ho5)
      clear hs5 ho5 HP4 HS4 HO4
      cases t2
      · go_wp2
        go_ret
        exact ⟨v, ps, rfl, HP5.out, by omega, HS5.out.mono (by omega), HO5.out⟩
      · obtain ⟨g, cap, rfl, hBg, hgl⟩ := ptsOpen HP5.out (by omega)
        have hbz5 := HO5.out.size
        go_wp2_with fail
        refine (amongS b (K + 60 + 2) u5.heap.size _ [-1, 0, 1000, 1001, -9223372036854775808] _ (World.ownsRow_lit u5 #[.int .i64 (-1), .int .i64 0, .int .i64 1000, .int .i64 1001, .int .i64 (-9223372036854775808)] 5 (Nat.le_refl _) (by decide) rfl) (by simp) (by simp) (by omega) (HS5.out.below (bAlloc (Below.refl _ _) _)) (by omega)).mono ?_
        rintro e u6 ⟨j, hj, rfl, hs6, ho6⟩
        generalize ([-1, 0, 1000, 1001, -9223372036854775808] : List Int).getD j 0 = z at *
        have hsep : ∀ j, own1 (.slice (some ⟨g, 0, none⟩) ps.length cap) j → ¬ (j = b) := fun j hj e => by
          have := (ownsLt HP5.out j hj).1
          omega
        have HP6 := Lib.hid ((HP5.out.below (bAlloc (Below.refl _ _) _)).chg (chgOnly ho6) hsep)
        have HS6 := Lib.hid hs6
        have HO6 := Lib.hid ((HO5.out.alloc _).trans ho6)
        have c0 := World.ownsRow.cellAt HP6.out 0 (by omega)
        have f0 : u6.frozen? ⟨g, 0, none⟩ = false := World.ownsRow.frozenAt HP6.out _
        rw [(show (flat ps)[0]? = some (.int .i64 (ps.getD 0 (0, 0)).1) from (flat_get ps 0 (by omega)).1)] at c0
        have P7 := Lib.hid (ptsSet0 HP6.out (by omega) z)
        have hl7 : (ps.set 0 (z, (ps.getD 0 (0, 0)).2)).length ≤ 9 := by rw [List.length_set]; omega
        rw [hl4] at P7
        have HS7 := Lib.hid (HS6.out.chg (u := u6.setCell ⟨g, 0, none⟩ (.int .i64 z)) (S := fun k => k = g) (by refine Chg.set (Chg.refl _ _) ?_ _; exact .inl rfl) (fun k hk => by omega))
        have HO7 := Lib.hid (HO6.out.setNew (p := ⟨g, 0, none⟩) (by dsimp only; omega) (.int .i64 z))
        have hps0 : (0:Int) < ps.length := by omega
        generalize (ps.getD 0 (0, 0)).1 = z0 at *
        clear hs6 ho6 HP5 HS5 HO5 HP6 HS6 HO6 hsep
        go_wp2
        go_ret
        exact ⟨_, _, rfl, P7.out, hl7, HS7.out.mono (by omega), HO7.out⟩

/-- spec.l04Pair. -/
theorem l04Pair_any (b K : Nat) (w : World) (h : Sc w b K) (hK : K ≤ 600000) :
    Calls Try.prog 99 #[.pointer (some ⟨b, 0, none⟩)] w fun e w' => ∃ v u ps qs, e = .returned (.tuple #[v, u]) ∧ Pts w' w.heap.size v ps ∧ Pts w' w.heap.size u qs ∧ ps.length ≤ 9 ∧ qs.length ≤ 9 ∧ Sc w' b (K + 300) ∧ Only b w w' := by
  have hb := h.lt
  have H := Lib.hid h
  clear h
  go_enter Try.func99, Try.ntmps99
  go_wp2_with fail
  refine (l04Bent_any b K _ H.out (by omega)).mono ?_
  rintro e u1 ⟨v, ps, rfl, p1, hl1, hs1, ho1⟩
  have HP1 := Lib.hid p1
  have HS1 := Lib.hid hs1
  have HO1 := Lib.hid ho1
  obtain ⟨A1, c1, rfl, -⟩ := p1.rd (by omega)
  clear hs1 ho1 p1
  go_wp2_with fail
  refine (oneS 6 b _ _ (by omega) (by omega) HS1.out (by omega)).mono ?_
  rintro e u2 ⟨t1, rfl, hs2, ho2⟩
  have HP2 := Lib.hid (HP1.out.chg (chgOnly ho2) (fun j hj e => by have := (ownsLt HP1.out j hj).1; omega))
  have HS2 := Lib.hid hs2
  have HO2 := Lib.hid (HO1.out.trans ho2)
  clear hs2 ho2 HP1 HS1 HO1
  cases t1
  · go_wp2_with fail
    refine (l04New_any ps.length b _ _ (by omega) HS2.out (by omega)).mono ?_
    rintro e u3 ⟨v3, qs, rfl, p3, hl3, hs3, ho3⟩
    have HP3 := Lib.hid (HP2.out.chg (chgOnly ho3) (fun j hj e => by have := (ownsLt HP2.out j hj).1; omega))
    have HQ3 := Lib.hid (p3.base (B' := w.heap.size) HO2.out.size)
    have HS3 := Lib.hid (hs3.mono (show _ ≤ K + 300 by omega))
    have HO3 := Lib.hid (HO2.out.trans ho3)
    clear p3 hs3 ho3 HP2 HS2 HO2
    go_wp2
    go_ret2
    exact ⟨_, _, ps, qs, rfl, HP3.out, HQ3.out, hl1, by omega, HS3.out, HO3.out⟩
  · go_wp2_with fail
    refine (l04Bent_any b _ _ HS2.out (by omega)).mono ?_
    rintro e u3 ⟨v3, qs, rfl, p3, hl3, hs3, ho3⟩
    have HP3 := Lib.hid (HP2.out.chg (chgOnly ho3) (fun j hj e => by have := (ownsLt HP2.out j hj).1; omega))
    have HQ3 := Lib.hid (p3.base (B' := w.heap.size) HO2.out.size)
    have HS3 := Lib.hid (hs3.mono (show _ ≤ K + 300 by omega))
    have HO3 := Lib.hid (HO2.out.trans ho3)
    clear p3 hs3 ho3 HP2 HS2 HO2
    go_wp2
    go_ret2
    exact ⟨_, _, ps, qs, rfl, HP3.out, HQ3.out, hl1, hl3, HS3.out, HO3.out⟩

end Go.Proofs.Ytibafngidpmgdaa
