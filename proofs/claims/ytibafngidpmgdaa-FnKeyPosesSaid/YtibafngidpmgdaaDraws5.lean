/- What the laws of chapter 4 draw: the arguments. -/
import Derived.Test.YtibafngidpmgdaaProg
import Derived.Test.YtibafngidpmgdaaPose
import Derived.Test.YtibafngidpmgdaaKeys
import Derived.Test.YtibafngidpmgdaaKeyOk
import Derived.Test.YtibafngidpmgdaaPoseLaw
import Derived.Test.YtibafngidpmgdaaBetween
import Derived.Test.YtibafngidpmgdaaAt2
import Derived.Test.YtibafngidpmgdaaAtLaw
import Derived.Test.YtibafngidpmgdaaGrids
import Derived.Test.YtibafngidpmgdaaAll
import Derived.Test.YtibafngidpmgdaaSrc
import Derived.Test.YtibafngidpmgdaaPick
import Derived.Test.YtibafngidpmgdaaPick2
import Derived.Test.YtibafngidpmgdaaBent
import Derived.Test.YtibafngidpmgdaaDraw4
import Derived.Test.YtibafngidpmgdaaDraws4
import Derived.Test.YtibafngidpmgdaaStretch3
import Derived.IntWalk
import Derived.WalkSpells
import Derived.OwnWalk
import Derived.Deep.RegionWith
import Derived.Deep.DrawnRows
import Derived.Deep.RegionHeld3
import Derived.Tactics
import Derived.Tactics2
import Derived.WalkKit
import Derived.LoopTactic
import Derived.BigQuiet
import Derived.RegionTactic
import Derived.Deep.QuietTactic
import Derived.Outline
import Derived.Lib.Hide
import Derived.Below
import Derived.KernelRfl
namespace Go.Proofs.Ytibafngidpmgdaa
set_option linter.unusedSimpArgs false
set_option linter.unusedVariables false
open Go.RowKit


theorem totK_set {ks : List Key} {j : Nat} {t : Int} (h : j < ks.length) : totK (ks.set j (t, (ks.getD j k0).2)) = totK ks := by
  induction ks generalizing j with
  | nil => simp at h
  | cons k ks ih =>
    cases j with
    | zero => simp [totK]
    | succ j =>
      have := ih (j := j) (by simpa using h)
      simp only [List.set_cons_succ, totK, List.getD_cons_succ]
      omega

set_option maxHeartbeats 1000000 in
/-- spec.DrawAllPoses. -/
theorem drawAll_any (a : Option Addr) (len cap : Nat) (zs : List Int) (w : World) (hr : Row w a len cap zs) :
    Calls Try.prog 51 #[.slice a len cap] w fun e w' => ∃ v es ks z, e = .returned (.tuple #[v, .int .i64 z]) ∧ Keys w' w.heap.size v es ks ∧ ks.length ≤ 11 ∧ totK ks ≤ 200 ∧ -1 ≤ z ∧ z ≤ 10001 ∧ Below w.heap.size w w' := by
  have HR := Lib.hid hr
  clear hr
  go_enter Try.func51, Try.ntmps51
  go_wp2_with fail
  refine (fromS a len cap zs _ HR.out).mono ?_
  rintro e u1 ⟨rfl, hs1, hb1, hz1⟩
  have HS1 := Lib.hid hs1
  have HB1 := Lib.hid hb1
  clear hs1 hb1
  go_wp2_with fail
  refine (l04Draw_any _ 0 _ HS1.out (by omega)).mono ?_
  rintro e u2 ⟨v, es, ks, rfl, k2, hl, ht, hs2, ho2⟩
  obtain ⟨A2, c2, rfl, -⟩ := k2.rd (by omega) (by omega)
  have HK2 := Lib.hid k2
  have HS2 := Lib.hid hs2
  have HO2 := Lib.hid ho2
  clear k2 hs2 ho2 HS1
  go_wp2_with fail
  refine (oneS 6 _ _ _ (by omega) (by omega) HS2.out (by omega)).mono ?_
  rintro e u3 ⟨t1, rfl, hs3, ho3⟩
  have HK3 := Lib.hid (HK2.out.chg (chgOnly ho3) (fun j hj e => by have := (HK2.out.lt j hj).1; omega))
  have HS3 := Lib.hid hs3
  have HO3 := Lib.hid (HO2.out.trans ho3)
  clear hs3 ho3 HS2 HO2 HK2
  have hz3 := HO3.out.size
  cases t1
  · go_wp2_with fail
    refine (oneS 8 _ _ _ (by omega) (by omega) HS3.out (by omega)).mono ?_
    rintro e u4 ⟨t2, rfl, hs4, ho4⟩
    have HK4 := Lib.hid (HK3.out.chg (chgOnly ho4) (fun j hj e => by have := (HK3.out.lt j hj).1; omega))
    have HS4 := Lib.hid hs4
    have HO4 := Lib.hid (HO3.out.trans ho4)
    clear hs4 ho4 HS3 HO3 HK3
    have hz4 := HO4.out.size
    cases t2
    · go_wp2_with fail
      refine (pickS 9 _ _ _ (by omega) (by omega) HS4.out (by omega)).mono ?_
      rintro e u5 ⟨y, y0, y1, rfl, hs5, ho5⟩
      have HK5 := Lib.hid ((HK4.out.chg (chgOnly ho5) (fun j hj e => by have := (HK4.out.lt j hj).1; omega)).base (B' := w.heap.size) (by omega))
      have HB5 := Lib.hid (HB1.out.trans ((HO4.out.trans ho5).below (Nat.le_refl _) (by omega)))
      clear hs5 ho5 HS4 HO4 HK4 HB1
      have hw1 : IntKind.i64.wrap (1 + y) = 1 + y := IntWalk.i64_in _ (by omega)
      go_wp2
      go_ret2
      exact ⟨_, es, ks, 1 + y, rfl, HK5.out, hl, ht, by omega, by omega, HB5.out⟩
    · go_wp2_with fail
      refine (amongS _ _ u4.heap.size _ [-1, 0, 1, 10000, 10001] _ (World.ownsRow_lit u4 #[.int .i64 (-1), .int .i64 0, .int .i64 1, .int .i64 10000, .int .i64 10001] 5 (Nat.le_refl _) (by decide) rfl) (by simp) (by simp) (by omega) (HS4.out.below (bAlloc (Below.refl _ _) _)) (by omega)).mono ?_
      rintro e u5 ⟨j, hj, rfl, hs5, ho5⟩
      have hzb : -1 ≤ ([-1, 0, 1, 10000, 10001] : List Int).getD j 0 ∧ ([-1, 0, 1, 10000, 10001] : List Int).getD j 0 ≤ 10001 := by
        match j, hj with
        | 0, _ => decide
        | 1, _ => decide
        | 2, _ => decide
        | 3, _ => decide
        | 4, _ => decide
      generalize ([-1, 0, 1, 10000, 10001] : List Int).getD j 0 = z at *
      have HK5 := Lib.hid (((HK4.out.below (bAlloc (Below.refl _ _) _)).chg (chgOnly ho5) (fun j hj e => by have := (HK4.out.lt j hj).1; omega)).base (B' := w.heap.size) (by omega))
      have HB5 := Lib.hid (HB1.out.trans (((HO4.out.alloc _).trans ho5).below (Nat.le_refl _) (by omega)))
      clear hs5 ho5 HS4 HO4 HK4 HB1 hj
      go_wp2
      go_ret2
      exact ⟨_, es, ks, z, rfl, HK5.out, hl, ht, hzb.1, hzb.2, HB5.out⟩
  · by_cases hk1 : (1:Int) < (ks.length : Int)
    · obtain ⟨g, cg, hvg, hBg, hgl⟩ := keysOpen HK3.out (by omega)
      simp only [Value.slice.injEq] at hvg
      obtain ⟨rfl, -, rfl⟩ := hvg
      obtain ⟨l, hll⟩ : ∃ l, l + 1 = ks.length := ⟨ks.length - 1, by omega⟩
      have hlk : l < ks.length := by omega
      have hcl := HK3.out.1
      have c0 := World.ownsRow.cellAt HK3.out.2.1 (0 * 2) (by omega)
      rw [(flatE_get es 0 (by omega)).1, Nat.zero_mul] at c0
      have d0 := World.ownsRow.cellAt HK3.out.2.1 (l * 2) (by omega)
      rw [(flatE_get es l (by omega)).1] at d0
      have f0 : u3.frozen? ⟨g, l * 2, none⟩ = false := World.ownsRow.frozenAt HK3.out.2.1 _
      generalize (es.getD 0 Go.Proofs.Ytibafngidpmgdaa.e0).1 = q0 at *
      generalize (es.getD l Go.Proofs.Ytibafngidpmgdaa.e0).1 = q1 at *
      have hwi : IntKind.i64.wrap ((ks.length : Int) - 1) = (l : Int) := by rw [IntWalk.i64_in _ (by omega)]; omega
      have x0 : (0:Int) ≤ (l : Int) := by omega
      have x1 : (l : Int) < ks.length := by omega
      have x2 : (0:Int) < ks.length := by omega
      have PK := Lib.hid (fun q (h : Sc q w.heap.size (0 + 1000 + 2)) => (pickS 3 _ _ q (by omega) (by omega) h (by omega)).mono (R' := fun e w' => ∃ v : Int, 0 ≤ v ∧ v ≤ 2 ∧ e = .returned (.int .i64 v) ∧ Only w.heap.size q w') (fun _ _ ⟨v, h0, h1, h2, _, h4⟩ => ⟨v, h0, h1, h2, h4⟩))
      have hgb : g ≠ w.heap.size := by omega
      have hne : (⟨g, l * 2, none⟩ : Addr) ≠ ⟨g, 0, none⟩ := by
        intro h
        simp only [Addr.mk.injEq] at h
        omega
      clear hll
      generalize hn : ks.length = n at *
      have HN := Lib.hid hn
      clear hn
      have HF := Lib.hid (fun q (ho : Only w.heap.size u3.drew q) => (show q.cell? ⟨g, 0, none⟩ = some (.int .i64 q0) ∧ q.cell? ⟨g, l * 2, none⟩ = some (.int .i64 q1) ∧ q.frozen? ⟨g, l * 2, none⟩ = false from by
        have hkb : q.heap[g]? = u3.heap[g]? := ho.block g (by simpa using hgl) (fun e => hgb (Option.some.inj e))
        exact ⟨(World.cell?_of_block (w := u3) hkb).trans c0, (World.cell?_of_block (w := u3) hkb).trans d0, (World.frozen?_of_block (w := u3) hkb).trans f0⟩))
      go_wp2
      have x3 : (0:Int) < (n:Int) := by omega
      have x4 : 0 < n := by omega
      have x5 : (n == 0) = false := by simp; omega
      have x6 : n ≠ 0 := by omega
      clear hk1 x2
      go_region_held3 (fun w' => w'.cell? ⟨g, 0, none⟩ = some (.int .i64 q0) ∧ w'.cell? ⟨g, 0, none⟩ = some (.int .i64 q0)) (first | exact ⟨(World.cell?_setCell_other _ _ _ _ hne).trans e0, (World.cell?_setCell_other _ _ _ _ hne).trans e0⟩ | go_keep)
        (first
          | (go_at_call 100; with_reducible refine (PK.out _ (HS3.out.below (Below.drew (Below.refl _ _)))).mono ?_; rintro e w3 ⟨y, y0, y1, rfl, ho4⟩; obtain ⟨e0, e1, e2⟩ := HF.out _ ho4))
      have hn := HN.out
      subst hn
      have HK4 := Lib.hid ((HK3.out.below (Below.drew (Below.refl _ _))).chg (chgOnly ho4) (fun j hj e => by have := (HK3.out.lt j hj).1; omega))
      have HO4 := Lib.hid ((HO3.out.drewN 1).trans ho4)
      have hl7 : totK (ks.set l (0, (ks.getD l Go.Proofs.Ytibafngidpmgdaa.k0).2)) ≤ 200 := by rw [totK_set hlk]; exact ht
      clear ho4 e0 e1 e2 HF HK3 HO3 HS3 PK c0 d0 f0
      go_wp2
      go_ret2
      refine ⟨_, _, _, 1, rfl, (keysTick HK4.out hlk _).base (by omega), by rw [List.length_set]; omega, by rw [totK_set hlk]; exact ht, by omega, by omega, HB1.out.trans ((HO4.out.setNew (by dsimp only; omega) _).below (Nat.le_refl _) (by omega))⟩
    · go_wp2_with fail
      refine (oneS 8 _ _ _ (by omega) (by omega) HS3.out (by omega)).mono ?_
      rintro e u4 ⟨t2, rfl, hs4, ho4⟩
      have HK4 := Lib.hid (HK3.out.chg (chgOnly ho4) (fun j hj e => by have := (HK3.out.lt j hj).1; omega))
      have HS4 := Lib.hid hs4
      have HO4 := Lib.hid (HO3.out.trans ho4)
      clear hs4 ho4 HS3 HO3 HK3
      have hz4 := HO4.out.size
      cases t2
      · go_wp2_with fail
        refine (pickS 9 _ _ _ (by omega) (by omega) HS4.out (by omega)).mono ?_
        rintro e u5 ⟨y, y0, y1, rfl, hs5, ho5⟩
        have HK5 := Lib.hid ((HK4.out.chg (chgOnly ho5) (fun j hj e => by have := (HK4.out.lt j hj).1; omega)).base (B' := w.heap.size) (by omega))
        have HB5 := Lib.hid (HB1.out.trans ((HO4.out.trans ho5).below (Nat.le_refl _) (by omega)))
        clear hs5 ho5 HS4 HO4 HK4 HB1
        have hw1 : IntKind.i64.wrap (1 + y) = 1 + y := IntWalk.i64_in _ (by omega)
        go_wp2
        go_ret2
        exact ⟨_, es, ks, 1 + y, rfl, HK5.out, hl, ht, by omega, by omega, HB5.out⟩
      · go_wp2_with fail
        refine (amongS _ _ u4.heap.size _ [-1, 0, 1, 10000, 10001] _ (World.ownsRow_lit u4 #[.int .i64 (-1), .int .i64 0, .int .i64 1, .int .i64 10000, .int .i64 10001] 5 (Nat.le_refl _) (by decide) rfl) (by simp) (by simp) (by omega) (HS4.out.below (bAlloc (Below.refl _ _) _)) (by omega)).mono ?_
        rintro e u5 ⟨j, hj, rfl, hs5, ho5⟩
        have hzb : -1 ≤ ([-1, 0, 1, 10000, 10001] : List Int).getD j 0 ∧ ([-1, 0, 1, 10000, 10001] : List Int).getD j 0 ≤ 10001 := by
          match j, hj with
          | 0, _ => decide
          | 1, _ => decide
          | 2, _ => decide
          | 3, _ => decide
          | 4, _ => decide
        generalize ([-1, 0, 1, 10000, 10001] : List Int).getD j 0 = z at *
        have HK5 := Lib.hid (((HK4.out.below (bAlloc (Below.refl _ _) _)).chg (chgOnly ho5) (fun j hj e => by have := (HK4.out.lt j hj).1; omega)).base (B' := w.heap.size) (by omega))
        have HB5 := Lib.hid (HB1.out.trans (((HO4.out.alloc _).trans ho5).below (Nat.le_refl _) (by omega)))
        clear hs5 ho5 HS4 HO4 HK4 HB1 hj
        go_wp2
        go_ret2
        exact ⟨_, es, ks, z, rfl, HK5.out, hl, ht, hzb.1, hzb.2, HB5.out⟩

end Go.Proofs.Ytibafngidpmgdaa
