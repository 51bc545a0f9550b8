/- What the laws of chapter 4 draw: the arguments. -/
import Derived.Test.YtibafngidpmgdaaProg
import Derived.Test.YtibafngidpmgdaaPose
import Derived.Test.YtibafngidpmgdaaKeys
import Derived.Test.YtibafngidpmgdaaKeyOk
import Derived.Test.YtibafngidpmgdaaPoseLaw
import Derived.Test.YtibafngidpmgdaaBetween
import Derived.Test.YtibafngidpmgdaaAt2
import Derived.Test.YtibafngidpmgdaaAtLaw
import Derived.Test.YtibafngidpmgdaaGrids
import Derived.Test.YtibafngidpmgdaaAll
import Derived.Test.YtibafngidpmgdaaSrc
import Derived.Test.YtibafngidpmgdaaPick
import Derived.Test.YtibafngidpmgdaaPick2
import Derived.Test.YtibafngidpmgdaaBent
import Derived.Test.YtibafngidpmgdaaDraw4
import Derived.Test.YtibafngidpmgdaaStretch3
import Derived.IntWalk
import Derived.WalkSpells
import Derived.OwnWalk
import Derived.Deep.RegionWith
import Derived.Deep.DrawnRows
import Derived.Deep.RegionHeld3
import Derived.Tactics
import Derived.Tactics2
import Derived.WalkKit
import Derived.LoopTactic
import Derived.BigQuiet
import Derived.RegionTactic
import Derived.Deep.QuietTactic
import Derived.Outline
import Derived.Lib.Hide
import Derived.Below
import Derived.KernelRfl
namespace Go.Proofs.Ytibafngidpmgdaa
set_option linter.unusedSimpArgs false
set_option linter.unusedVariables false
open Go.RowKit


/-- spec.l00Max. -/
theorem l00Max_any (a b : Int) (w : World) :
    Calls Try.prog 103 #[.int .i64 a, .int .i64 b] w fun e w' => e = .returned (.int .i64 (max a b)) ∧ w = w' := by
  by_cases h : b < a
  · go_enter Try.func103, Try.ntmps103
    go_wp2
    go_ret
    exact ⟨ret_int (by omega), rfl⟩
  · go_enter Try.func103, Try.ntmps103
    go_wp2
    go_ret
    exact ⟨ret_int (by omega), rfl⟩
/-- spec.DrawNeedlessKeys. -/
theorem drawNeed_any (a : Option Addr) (len cap : Nat) (zs : List Int) (w : World) (hr : Row w a len cap zs) :
    Calls Try.prog 55 #[.slice a len cap] w fun e w' => ∃ v es ks, e = .returned v ∧ Keys w' w.heap.size v es ks ∧ ks.length ≤ 11 ∧ totK ks ≤ 200 ∧ Below w.heap.size w w' := by
  have HR := Lib.hid hr
  clear hr
  go_enter Try.func55, Try.ntmps55
  go_wp2_with fail
  refine (fromS a len cap zs _ HR.out).mono ?_
  rintro e u1 ⟨rfl, hs1, hb1, hz1⟩
  have HS1 := Lib.hid hs1
  have HB1 := Lib.hid hb1
  clear hs1 hb1
  go_wp2_with fail
  refine (l04Draw_any _ 0 _ HS1.out (by omega)).mono ?_
  rintro e u2 ⟨v, es, ks, rfl, k2, hl, ht, hs2, ho2⟩
  have HK2 := Lib.hid (k2.base (B' := w.heap.size) (by omega))
  have HB2 := Lib.hid (HB1.out.trans (ho2.below (Nat.le_refl _) (by omega)))
  clear k2 hs2 ho2 HS1 HB1
  go_wp2
  go_ret
  exact ⟨v, es, ks, rfl, HK2.out, hl, ht, HB2.out⟩

/-- spec.DrawPoseAt. -/
theorem drawAt_any (a : Option Addr) (len cap : Nat) (zs : List Int) (w : World) (hr : Row w a len cap zs) :
    Calls Try.prog 37 #[.slice a len cap] w fun e w' => ∃ v es ks t, e = .returned (.tuple #[v, .int .i64 t]) ∧ Keys w' w.heap.size v es ks ∧ ks.length ≤ 11 ∧ totK ks ≤ 200 ∧ -10 ≤ t ∧ t ≤ 100 ∧ Below w.heap.size w w' := by
  have HR := Lib.hid hr
  clear hr
  go_enter Try.func37, Try.ntmps37
  go_wp2_with fail
  refine (fromS a len cap zs _ HR.out).mono ?_
  rintro e u1 ⟨rfl, hs1, hb1, hz1⟩
  have HS1 := Lib.hid hs1
  have HB1 := Lib.hid hb1
  clear hs1 hb1
  go_wp2_with fail
  refine (l04Draw_any _ 0 _ HS1.out (by omega)).mono ?_
  rintro e u2 ⟨v, es, ks, rfl, k2, hl, ht, hs2, ho2⟩
  have HK2 := Lib.hid k2
  have HS2 := Lib.hid hs2
  have HO2 := Lib.hid ho2
  clear k2 hs2 ho2 HS1
  go_wp2_with fail
  refine (pickS 70 _ _ _ (by omega) (by omega) HS2.out (by omega)).mono ?_
  rintro e u3 ⟨x, x0, x1, rfl, hs3, ho3⟩
  have HK3 := Lib.hid (HK2.out.chg (chgOnly ho3) (fun j hj e => by have := (HK2.out.lt j hj).1; omega))
  have HS3 := Lib.hid hs3
  have HO3 := Lib.hid (HO2.out.trans ho3)
  clear hs3 ho3 HS2 HO2 HK2
  go_wp2_with fail
  refine (pickS 16 _ _ _ (by omega) (by omega) HS3.out (by omega)).mono ?_
  rintro e u4 ⟨y, y0, y1, rfl, hs4, ho4⟩
  have HK4 := Lib.hid ((HK3.out.chg (chgOnly ho4) (fun j hj e => by have := (HK3.out.lt j hj).1; omega)).base (B' := w.heap.size) (by omega))
  have HB4 := Lib.hid (HB1.out.trans ((HO3.out.trans ho4).below (Nat.le_refl _) (by omega)))
  clear hs4 ho4 HS3 HO3 HK3 HB1
  have hq : y.tdiv 15 = y / 15 := Int.tdiv_eq_ediv_of_nonneg y0
  have hq0 : 0 ≤ y / 15 := by omega
  have hq1 : y / 15 ≤ 1 := by omega
  generalize y / 15 = q at *
  have hw1 : IntKind.i64.wrap q = q := IntWalk.i64_in _ (by omega)
  have hw2 : IntKind.i64.wrap (x - q) = x - q := IntWalk.i64_in _ (by omega)
  go_wp2
  go_ret2
  exact ⟨v, es, ks, x - q, rfl, HK4.out, hl, ht, by omega, by omega, HB4.out⟩

/-- spec.DrawGreatestMove. -/
theorem drawMove_any (a : Option Addr) (len cap : Nat) (zs : List Int) (w : World) (hr : Row w a len cap zs) :
    Calls Try.prog 41 #[.slice a len cap] w fun e w' => ∃ v u ps qs, e = .returned (.tuple #[v, u]) ∧ Pts w' w.heap.size v ps ∧ Pts w' w.heap.size u qs ∧ ps.length ≤ 9 ∧ qs.length ≤ 9 ∧ Below w.heap.size w w' := by
  have HR := Lib.hid hr
  clear hr
  go_enter Try.func41, Try.ntmps41
  go_wp2_with fail
  refine (fromS a len cap zs _ HR.out).mono ?_
  rintro e u1 ⟨rfl, hs1, hb1, hz1⟩
  have HS1 := Lib.hid hs1
  have HB1 := Lib.hid hb1
  clear hs1 hb1
  go_wp2_with fail
  refine (l04Pair_any _ 0 _ HS1.out (by omega)).mono ?_
  rintro e u2 ⟨v, v2, ps, qs, rfl, p2, q2, hl, hl2, hs2, ho2⟩
  have HP2 := Lib.hid (p2.base (B' := w.heap.size) (by omega))
  have HQ2 := Lib.hid (q2.base (B' := w.heap.size) (by omega))
  have HB2 := Lib.hid (HB1.out.trans (ho2.below (Nat.le_refl _) (by omega)))
  clear p2 q2 hs2 ho2 HS1 HB1
  go_wp2
  go_ret2
  exact ⟨v, v2, ps, qs, rfl, HP2.out, HQ2.out, hl, hl2, HB2.out⟩

/-- spec.DrawMirrorPose. -/
theorem drawMirror_any (a : Option Addr) (len cap : Nat) (zs : List Int) (w : World) (hr : Row w a len cap zs) :
    Calls Try.prog 40 #[.slice a len cap] w fun e w' => ∃ v ps z, e = .returned (.tuple #[v, .int .i64 z]) ∧ Pts w' w.heap.size v ps ∧ ps.length ≤ 9 ∧ -1 ≤ z ∧ z ≤ 1001 ∧ Below w.heap.size w w' := by
  have HR := Lib.hid hr
  clear hr
  go_enter Try.func40, Try.ntmps40
  go_wp2_with fail
  refine (fromS a len cap zs _ HR.out).mono ?_
  rintro e u1 ⟨rfl, hs1, hb1, hz1⟩
  have HS1 := Lib.hid hs1
  have HB1 := Lib.hid hb1
  clear hs1 hb1
  go_wp2_with fail
  refine (l04Bent_any _ 0 _ HS1.out (by omega)).mono ?_
  rintro e u2 ⟨v, ps, rfl, p2, hl, hs2, ho2⟩
  have HP2 := Lib.hid p2
  have HS2 := Lib.hid hs2
  have HO2 := Lib.hid ho2
  clear p2 hs2 ho2 HS1
  go_wp2_with fail
  refine (oneS 8 _ _ _ (by omega) (by omega) HS2.out (by omega)).mono ?_
  rintro e u3 ⟨t, rfl, hs3, ho3⟩
  have HP3 := Lib.hid (HP2.out.chg (chgOnly ho3) (fun j hj e => by have := (ownsLt HP2.out j hj).1; omega))
  have HS3 := Lib.hid hs3
  have HO3 := Lib.hid (HO2.out.trans ho3)
  clear hs3 ho3 HS2 HO2 HP2
  have hz3 := HO3.out.size
  cases t
  · go_wp2_with fail
    refine (pickS 60 _ _ _ (by omega) (by omega) HS3.out (by omega)).mono ?_
    rintro e u4 ⟨y, y0, y1, rfl, hs4, ho4⟩
    have HP4 := Lib.hid ((HP3.out.chg (chgOnly ho4) (fun j hj e => by have := (ownsLt HP3.out j hj).1; omega)).base (B' := w.heap.size) (by omega))
    have HB4 := Lib.hid (HB1.out.trans ((HO3.out.trans ho4).below (Nat.le_refl _) (by omega)))
    clear hs4 ho4 HS3 HO3 HP3 HB1
    have hw1 : IntKind.i64.wrap (40 + y) = 40 + y := IntWalk.i64_in _ (by omega)
    go_wp2
    go_ret2
    exact ⟨v, ps, 40 + y, rfl, HP4.out, hl, by omega, by omega, HB4.out⟩
  · go_wp2_with fail
    refine (amongS _ _ u3.heap.size _ [-1, 0, 1000, 1001] _ (World.ownsRow_lit u3 #[.int .i64 (-1), .int .i64 0, .int .i64 1000, .int .i64 1001] 4 (Nat.le_refl _) (by decide) rfl) (by simp) (by simp) (by omega) (HS3.out.below (bAlloc (Below.refl _ _) _)) (by omega)).mono ?_
    rintro e u4 ⟨j, hj, rfl, hs4, ho4⟩
    have hzb : -1 ≤ ([-1, 0, 1000, 1001] : List Int).getD j 0 ∧ ([-1, 0, 1000, 1001] : List Int).getD j 0 ≤ 1001 := by
      match j, hj with
      | 0, _ => decide
      | 1, _ => decide
      | 2, _ => decide
      | 3, _ => decide
    generalize ([-1, 0, 1000, 1001] : List Int).getD j 0 = z at *
    have HP4 := Lib.hid (((HP3.out.below (bAlloc (Below.refl _ _) _)).chg (chgOnly ho4) (fun j hj e => by have := (ownsLt HP3.out j hj).1; omega)).base (B' := w.heap.size) (by omega))
    have HB4 := Lib.hid (HB1.out.trans (((HO3.out.alloc _).trans ho4).below (Nat.le_refl _) (by omega)))
    clear hs4 ho4 HS3 HO3 HP3 HB1 hj
    go_wp2
    go_ret2
    exact ⟨v, ps, z, rfl, HP4.out, hl, hzb.1, hzb.2, HB4.out⟩

/-- spec.DrawStretchKeys. -/
theorem drawStretch_any (a : Option Addr) (len cap : Nat) (zs : List Int) (w : World) (hr : Row w a len cap zs) :
    Calls Try.prog 54 #[.slice a len cap] w fun e w' => ∃ v es ks z, e = .returned (.tuple #[v, .int .i64 z]) ∧ Keys w' w.heap.size v es ks ∧ ks.length ≤ 11 ∧ totK ks ≤ 200 ∧ -1 ≤ z ∧ z ≤ 101 ∧ Below w.heap.size w w' := by
  have HR := Lib.hid hr
  clear hr
  go_enter Try.func54, Try.ntmps54
  go_wp2_with fail
  refine (fromS a len cap zs _ HR.out).mono ?_
  rintro e u1 ⟨rfl, hs1, hb1, hz1⟩
  have HS1 := Lib.hid hs1
  have HB1 := Lib.hid hb1
  clear hs1 hb1
  go_wp2_with fail
  refine (l04Draw_any _ 0 _ HS1.out (by omega)).mono ?_
  rintro e u2 ⟨v, es, ks, rfl, k2, hl, ht, hs2, ho2⟩
  have HK2 := Lib.hid k2
  have HS2 := Lib.hid hs2
  have HO2 := Lib.hid ho2
  clear k2 hs2 ho2 HS1
  go_wp2_with fail
  refine (oneS 8 _ _ _ (by omega) (by omega) HS2.out (by omega)).mono ?_
  rintro e u3 ⟨t, rfl, hs3, ho3⟩
  have HK3 := Lib.hid (HK2.out.chg (chgOnly ho3) (fun j hj e => by have := (HK2.out.lt j hj).1; omega))
  have HS3 := Lib.hid hs3
  have HO3 := Lib.hid (HO2.out.trans ho3)
  clear hs3 ho3 HS2 HO2 HK2
  have hz3 := HO3.out.size
  cases t
  · go_wp2_with fail
    refine (pickS 9 _ _ _ (by omega) (by omega) HS3.out (by omega)).mono ?_
    rintro e u4 ⟨y, y0, y1, rfl, hs4, ho4⟩
    have HK4 := Lib.hid ((HK3.out.chg (chgOnly ho4) (fun j hj e => by have := (HK3.out.lt j hj).1; omega)).base (B' := w.heap.size) (by omega))
    have HB4 := Lib.hid (HB1.out.trans ((HO3.out.trans ho4).below (Nat.le_refl _) (by omega)))
    clear hs4 ho4 HS3 HO3 HK3 HB1
    have hw1 : IntKind.i64.wrap (1 + y) = 1 + y := IntWalk.i64_in _ (by omega)
    go_wp2
    go_ret2
    exact ⟨v, es, ks, 1 + y, rfl, HK4.out, hl, ht, by omega, by omega, HB4.out⟩
  · go_wp2_with fail
    refine (amongS _ _ u3.heap.size _ [-1, 0, 1, 100, 101] _ (World.ownsRow_lit u3 #[.int .i64 (-1), .int .i64 0, .int .i64 1, .int .i64 100, .int .i64 101] 5 (Nat.le_refl _) (by decide) rfl) (by simp) (by simp) (by omega) (HS3.out.below (bAlloc (Below.refl _ _) _)) (by omega)).mono ?_
    rintro e u4 ⟨j, hj, rfl, hs4, ho4⟩
    have hzb : -1 ≤ ([-1, 0, 1, 100, 101] : List Int).getD j 0 ∧ ([-1, 0, 1, 100, 101] : List Int).getD j 0 ≤ 101 := by
      match j, hj with
      | 0, _ => decide
      | 1, _ => decide
      | 2, _ => decide
      | 3, _ => decide
      | 4, _ => decide
    generalize ([-1, 0, 1, 100, 101] : List Int).getD j 0 = z at *
    have HK4 := Lib.hid (((HK3.out.below (bAlloc (Below.refl _ _) _)).chg (chgOnly ho4) (fun j hj e => by have := (HK3.out.lt j hj).1; omega)).base (B' := w.heap.size) (by omega))
    have HB4 := Lib.hid (HB1.out.trans (((HO3.out.alloc _).trans ho4).below (Nat.le_refl _) (by omega)))
    clear hs4 ho4 HS3 HO3 HK3 HB1 hj
    go_wp2
    go_ret2
    exact ⟨v, es, ks, z, rfl, HK4.out, hl, ht, hzb.1, hzb.2, HB4.out⟩

theorem results_tmp4 {fn : Func} {t u x y : Tmp} (h : fn.results = #[.tmp t, .tmp u, .tmp x, .tmp y]) (tmps : Array Value) (P : Program) (w : World) :
    (results fn tmps).run P w = .ok (.tuple #[tmps.getD t undef, tmps.getD u undef, tmps.getD x undef, tmps.getD y undef]) w := by
  simp [results, h]

set_option maxHeartbeats 1000000 in
/-- spec.DrawPoseBetween. -/
theorem drawBetween_any (a : Option Addr) (len cap : Nat) (zs : List Int) (w : World) (hr : Row w a len cap zs) :
    Calls Try.prog 34 #[.slice a len cap] w fun e w' => ∃ v u ps qs m N, e = .returned (.tuple #[v, u, .int .i64 m, .int .i64 N]) ∧ Pts w' w.heap.size v ps ∧ Pts w' w.heap.size u qs ∧ ps.length ≤ 9 ∧ qs.length ≤ 9 ∧ I64 m ∧ I64 N ∧ Below w.heap.size w w' := by
  have HR := Lib.hid hr
  clear hr
  go_enter Try.func34, Try.ntmps34
  go_wp2_with fail
  refine (fromS a len cap zs _ HR.out).mono ?_
  rintro e u1 ⟨rfl, hs1, hb1, hz1⟩
  have HS1 := Lib.hid hs1
  have HB1 := Lib.hid hb1
  clear hs1 hb1
  go_wp2_with fail
  refine (l04Pair_any _ 0 _ HS1.out (by omega)).mono ?_
  rintro e u2 ⟨v, v2, ps, qs, rfl, p2, q2, hl, hl2, hs2, ho2⟩
  have HP2 := Lib.hid p2
  have HQ2 := Lib.hid q2
  have HS2 := Lib.hid hs2
  have HO2 := Lib.hid ho2
  clear p2 q2 hs2 ho2 HS1
  go_wp2_with fail
  refine (pickS 12 _ _ _ (by omega) (by omega) HS2.out (by omega)).mono ?_
  rintro e u3 ⟨x, x0, x1, rfl, hs3, ho3⟩
  have HP3 := Lib.hid (HP2.out.chg (chgOnly ho3) (fun j hj e => by have := (ownsLt HP2.out j hj).1; omega))
  have HQ3 := Lib.hid (HQ2.out.chg (chgOnly ho3) (fun j hj e => by have := (ownsLt HQ2.out j hj).1; omega))
  have HS3 := Lib.hid hs3
  have HO3 := Lib.hid (HO2.out.trans ho3)
  clear hs3 ho3 HS2 HO2 HP2 HQ2
  have hw1 : IntKind.i64.wrap (1 + x) = 1 + x := IntWalk.i64_in _ (by omega)
  go_wp2_with fail
  refine (oneS 10 _ _ _ (by omega) (by omega) HS3.out (by omega)).mono ?_
  rintro e u4 ⟨t1, rfl, hs4, ho4⟩
  have HP4 := Lib.hid (HP3.out.chg (chgOnly ho4) (fun j hj e => by have := (ownsLt HP3.out j hj).1; omega))
  have HQ4 := Lib.hid (HQ3.out.chg (chgOnly ho4) (fun j hj e => by have := (ownsLt HQ3.out j hj).1; omega))
  have HS4 := Lib.hid hs4
  have HO4 := Lib.hid (HO3.out.trans ho4)
  clear hs4 ho4 HS3 HO3 HP3 HQ3
  have hz4 := HO4.out.size
  cases t1
  · obtain ⟨P, hP⟩ : ∃ P, P = 1 + x := ⟨_, rfl⟩
    rw [← hP]
    have hP0 : -1 ≤ P := by omega
    have hP1 : P ≤ 10001 := by omega
    have HPx := Lib.hid HP4.out
    have HQx := Lib.hid HQ4.out
    have HSx := Lib.hid (HS4.out.mono (show _ ≤ 310 by omega))
    have HOx := Lib.hid HO4.out
    clear HP4 HQ4 HS4 HO4 hP hw1 x0 x1
    go_wp2_with fail
    refine (oneS 10 _ _ _ (by omega) (by omega) HSx.out (by omega)).mono ?_
    rintro e u5 ⟨t2, rfl, hs5, ho5⟩
    have HP5 := Lib.hid (HPx.out.chg (chgOnly ho5) (fun j hj e => by have := (ownsLt HPx.out j hj).1; omega))
    have HQ5 := Lib.hid (HQx.out.chg (chgOnly ho5) (fun j hj e => by have := (ownsLt HQx.out j hj).1; omega))
    have HS5 := Lib.hid hs5
    have HO5 := Lib.hid (HOx.out.trans ho5)
    clear hs5 ho5 HSx HOx HPx HQx
    have hz5 := HO5.out.size
    have hwP : IntKind.i64.wrap (P + 1) = P + 1 := IntWalk.i64_in _ (by omega)
    cases t2
    · have hwM : IntKind.i64.wrap (max 1 P + 1) = max 1 P + 1 := IntWalk.i64_in _ (by omega)
      go_wp2_with fail
      refine (l00Max_any _ _ _).mono ?_
      rintro e u6 ⟨rfl, rfl⟩
      go_wp2_with fail
      refine (pickS (max 1 P + 1) _ _ _ (by omega) (by omega) HS5.out (by omega)).mono ?_
      rintro e u7 ⟨y, y0, y1, rfl, hs7, ho7⟩
      have HP7 := Lib.hid ((HP5.out.chg (chgOnly ho7) (fun j hj e => by have := (ownsLt HP5.out j hj).1; omega)).base (B' := w.heap.size) (by omega))
      have HQ7 := Lib.hid ((HQ5.out.chg (chgOnly ho7) (fun j hj e => by have := (ownsLt HQ5.out j hj).1; omega)).base (B' := w.heap.size) (by omega))
      have HB7 := Lib.hid (HB1.out.trans ((HO5.out.trans ho7).below (Nat.le_refl _) (by omega)))
      clear hs7 ho7 HS5 HO5 HP5 HQ5 HB1
      go_wp2
      (try simp only [Exit.inBlock, Exit.then])
      refine bodyPost_ret (results_tmp4 rfl _ _ _) rfl ?_
      exact ⟨v, v2, ps, qs, y, P, rfl, HP7.out, HQ7.out, hl, hl2, ⟨by omega, by omega⟩, ⟨by omega, by omega⟩, HB7.out⟩
    · go_wp2_with fail
      refine (amongS _ _ u5.heap.size _ [-1, 0, P, P + 1] _ (World.ownsRow_lit u5 #[.int .i64 (-1), .int .i64 0, .int .i64 P, .int .i64 (P + 1)] 4 (Nat.le_refl _) (by decide) rfl) (by simp) (by simp) (by omega) (HS5.out.below (bAlloc (Below.refl _ _) _)) (by omega)).mono ?_
      rintro e u7 ⟨j, hj, rfl, hs7, ho7⟩
      have hyb : -1 ≤ ([-1, 0, P, P + 1] : List Int).getD j 0 ∧ ([-1, 0, P, P + 1] : List Int).getD j 0 ≤ 10002 := by
        match j, hj with
        | 0, _ => exact ⟨by show (-1 : Int) ≤ -1; omega, by show (-1 : Int) ≤ 10002; omega⟩
        | 1, _ => exact ⟨by show (-1 : Int) ≤ 0; omega, by show (0 : Int) ≤ 10002; omega⟩
        | 2, _ => exact ⟨by show -1 ≤ P; omega, by show P ≤ 10002; omega⟩
        | 3, _ => exact ⟨by show -1 ≤ P + 1; omega, by show P + 1 ≤ 10002; omega⟩
      generalize ([-1, 0, P, P + 1] : List Int).getD j 0 = y at *
      have HP7 := Lib.hid (((HP5.out.below (bAlloc (Below.refl _ _) _)).chg (chgOnly ho7) (fun j hj e => by have := (ownsLt HP5.out j hj).1; omega)).base (B' := w.heap.size) (by omega))
      have HQ7 := Lib.hid (((HQ5.out.below (bAlloc (Below.refl _ _) _)).chg (chgOnly ho7) (fun j hj e => by have := (ownsLt HQ5.out j hj).1; omega)).base (B' := w.heap.size) (by omega))
      have HB7 := Lib.hid (HB1.out.trans (((HO5.out.alloc _).trans ho7).below (Nat.le_refl _) (by omega)))
      clear hs7 ho7 HS5 HO5 HP5 HQ5 HB1 hj
      go_wp2
      (try simp only [Exit.inBlock, Exit.then])
      refine bodyPost_ret (results_tmp4 rfl _ _ _) rfl ?_
      exact ⟨v, v2, ps, qs, y, P, rfl, HP7.out, HQ7.out, hl, hl2, ⟨by omega, by omega⟩, ⟨by omega, by omega⟩, HB7.out⟩
  · go_wp2_with fail
    refine (amongS _ _ u4.heap.size _ [-1, 0, 1, 10000, 10001] _ (World.ownsRow_lit u4 #[.int .i64 (-1), .int .i64 0, .int .i64 1, .int .i64 10000, .int .i64 10001] 5 (Nat.le_refl _) (by decide) rfl) (by simp) (by simp) (by omega) (HS4.out.below (bAlloc (Below.refl _ _) _)) (by omega)).mono ?_
    rintro e u6 ⟨j, hj, rfl, hs6, ho6⟩
    have hPb : -1 ≤ ([-1, 0, 1, 10000, 10001] : List Int).getD j 0 ∧ ([-1, 0, 1, 10000, 10001] : List Int).getD j 0 ≤ 10001 := by
      match j, hj with
      | 0, _ => decide
      | 1, _ => decide
      | 2, _ => decide
      | 3, _ => decide
      | 4, _ => decide
    generalize ([-1, 0, 1, 10000, 10001] : List Int).getD j 0 = P at *
    obtain ⟨hP0, hP1⟩ := hPb
    have HPx := Lib.hid ((HP4.out.below (bAlloc (Below.refl _ _) _)).chg (chgOnly ho6) (fun j hj e => by have := (ownsLt HP4.out j hj).1; omega))
    have HQx := Lib.hid ((HQ4.out.below (bAlloc (Below.refl _ _) _)).chg (chgOnly ho6) (fun j hj e => by have := (ownsLt HQ4.out j hj).1; omega))
    have HSx := Lib.hid (hs6.mono (show _ ≤ 310 by omega))
    have HOx := Lib.hid ((HO4.out.alloc _).trans ho6)
    clear hs6 ho6 HP4 HQ4 HS4 HO4 hw1 x0 x1 hj
    go_wp2_with fail
    refine (oneS 10 _ _ _ (by omega) (by omega) HSx.out (by omega)).mono ?_
    rintro e u5 ⟨t2, rfl, hs5, ho5⟩
    have HP5 := Lib.hid (HPx.out.chg (chgOnly ho5) (fun j hj e => by have := (ownsLt HPx.out j hj).1; omega))
    have HQ5 := Lib.hid (HQx.out.chg (chgOnly ho5) (fun j hj e => by have := (ownsLt HQx.out j hj).1; omega))
    have HS5 := Lib.hid hs5
    have HO5 := Lib.hid (HOx.out.trans ho5)
    clear hs5 ho5 HSx HOx HPx HQx
    have hz5 := HO5.out.size
    have hwP : IntKind.i64.wrap (P + 1) = P + 1 := IntWalk.i64_in _ (by omega)
    cases t2
    · have hwM : IntKind.i64.wrap (max 1 P + 1) = max 1 P + 1 := IntWalk.i64_in _ (by omega)
      go_wp2_with fail
      refine (l00Max_any _ _ _).mono ?_
      rintro e u6 ⟨rfl, rfl⟩
      go_wp2_with fail
      refine (pickS (max 1 P + 1) _ _ _ (by omega) (by omega) HS5.out (by omega)).mono ?_
      rintro e u7 ⟨y, y0, y1, rfl, hs7, ho7⟩
      have HP7 := Lib.hid ((HP5.out.chg (chgOnly ho7) (fun j hj e => by have := (ownsLt HP5.out j hj).1; omega)).base (B' := w.heap.size) (by omega))
      have HQ7 := Lib.hid ((HQ5.out.chg (chgOnly ho7) (fun j hj e => by have := (ownsLt HQ5.out j hj).1; omega)).base (B' := w.heap.size) (by omega))
      have HB7 := Lib.hid (HB1.out.trans ((HO5.out.trans ho7).below (Nat.le_refl _) (by omega)))
      clear hs7 ho7 HS5 HO5 HP5 HQ5 HB1
      go_wp2
      (try simp only [Exit.inBlock, Exit.then])
      refine bodyPost_ret (results_tmp4 rfl _ _ _) rfl ?_
      exact ⟨v, v2, ps, qs, y, P, rfl, HP7.out, HQ7.out, hl, hl2, ⟨by omega, by omega⟩, ⟨by omega, by omega⟩, HB7.out⟩
    · go_wp2_with fail
      refine (amongS _ _ u5.heap.size _ [-1, 0, P, P + 1] _ (World.ownsRow_lit u5 #[.int .i64 (-1), .int .i64 0, .int .i64 P, .int .i64 (P + 1)] 4 (Nat.le_refl _) (by decide) rfl) (by simp) (by simp) (by omega) (HS5.out.below (bAlloc (Below.refl _ _) _)) (by omega)).mono ?_
      rintro e u7 ⟨j, hj, rfl, hs7, ho7⟩
      have hyb : -1 ≤ ([-1, 0, P, P + 1] : List Int).getD j 0 ∧ ([-1, 0, P, P + 1] : List Int).getD j 0 ≤ 10002 := by
        match j, hj with
        | 0, _ => exact ⟨by show (-1 : Int) ≤ -1; omega, by show (-1 : Int) ≤ 10002; omega⟩
        | 1, _ => exact ⟨by show (-1 : Int) ≤ 0; omega, by show (0 : Int) ≤ 10002; omega⟩
        | 2, _ => exact ⟨by show -1 ≤ P; omega, by show P ≤ 10002; omega⟩
        | 3, _ => exact ⟨by show -1 ≤ P + 1; omega, by show P + 1 ≤ 10002; omega⟩
      generalize ([-1, 0, P, P + 1] : List Int).getD j 0 = y at *
      have HP7 := Lib.hid (((HP5.out.below (bAlloc (Below.refl _ _) _)).chg (chgOnly ho7) (fun j hj e => by have := (ownsLt HP5.out j hj).1; omega)).base (B' := w.heap.size) (by omega))
      have HQ7 := Lib.hid (((HQ5.out.below (bAlloc (Below.refl _ _) _)).chg (chgOnly ho7) (fun j hj e => by have := (ownsLt HQ5.out j hj).1; omega)).base (B' := w.heap.size) (by omega))
      have HB7 := Lib.hid (HB1.out.trans (((HO5.out.alloc _).trans ho7).below (Nat.le_refl _) (by omega)))
      clear hs7 ho7 HS5 HO5 HP5 HQ5 HB1 hj
      go_wp2
      (try simp only [Exit.inBlock, Exit.then])
      refine bodyPost_ret (results_tmp4 rfl _ _ _) rfl ?_
      exact ⟨v, v2, ps, qs, y, P, rfl, HP7.out, HQ7.out, hl, hl2, ⟨by omega, by omega⟩, ⟨by omega, by omega⟩, HB7.out⟩

end Go.Proofs.Ytibafngidpmgdaa
