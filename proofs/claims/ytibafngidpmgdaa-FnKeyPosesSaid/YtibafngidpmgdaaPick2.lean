/- What the laws of chapter 4 draw: joints. -/
import Derived.Test.YtibafngidpmgdaaProg
import Derived.Test.YtibafngidpmgdaaPose
import Derived.Test.YtibafngidpmgdaaKeys
import Derived.Test.YtibafngidpmgdaaKeyOk
import Derived.Test.YtibafngidpmgdaaPoseLaw
import Derived.Test.YtibafngidpmgdaaBetween
import Derived.Test.YtibafngidpmgdaaAt2
import Derived.Test.YtibafngidpmgdaaAtLaw
import Derived.Test.YtibafngidpmgdaaGrids
import Derived.Test.YtibafngidpmgdaaAll
import Derived.Test.YtibafngidpmgdaaSrc
import Derived.Test.YtibafngidpmgdaaPick
import Derived.IntWalk
import Derived.WalkSpells
import Derived.OwnWalk
import Derived.Deep.RegionWith
import Derived.Deep.DrawnRows
import Derived.Deep.RegionHeld3
import Derived.Tactics
import Derived.Tactics2
import Derived.WalkKit
import Derived.LoopTactic
import Derived.BigQuiet
import Derived.RegionTactic
import Derived.Deep.QuietTactic
import Derived.Outline
import Derived.Lib.Hide
import Derived.Below
import Derived.KernelRfl
namespace Go.Proofs.Ytibafngidpmgdaa
set_option linter.unusedSimpArgs false
set_option linter.unusedVariables false
open Go.RowKit


theorem two_newAt (w : World) (x y : Int) (t : TypeId) (n : Nat) (h : w.heap.size = n) : ∀ j u, [Value.int .i64 x, .int .i64 y][j]? = some u → (w.alloc (.cells #[.int .i64 x, .int .i64 y] t)).cell? ((⟨n, 0, none⟩ : Addr).add j) = some u := by
  subst h
  exact two_new w x y t
/-- What a draw of joints leaves. -/
def NewR (w : World) (b K N : Nat) (e : Ending) (w' : World) : Prop := ∃ v ps, e = .returned v ∧ Pts w' w.heap.size v ps ∧ ps.length = N ∧ Sc w' b K ∧ Only b w w'

set_option maxHeartbeats 1000000 in
set_option maxRecDepth 100000 in
/-- spec.l04New. -/
theorem l04New_any (N : Nat) (b K : Nat) (w : World) (hN : N ≤ 100) (h : Sc w b K) (hK : K ≤ 800000) :
    Calls Try.prog 142 #[.pointer (some ⟨b, 0, none⟩), .int .i64 N] w (NewR w b (K + 4 * N) N) := by
  obtain ⟨i0, hi, hz0, hz1, hz2⟩ := info_parts infoPt
  have hb := h.lt
  have H := Lib.hid h
  clear h
  go_enter Try.func142, Try.ntmps142
  go_wp2
  go_loopw [6, 5] (fun i v wr => ∃ (r : Nat) (ps : List Pt), r ≤ N ∧ i = .int .i64 r ∧ ps.length + r = N ∧ Hid (Pts wr w.heap.size v ps) ∧ Hid (Sc wr b (K + 4 * ps.length)) ∧ Hid (Only b w wr)) (fun i _ _ => (intOf i).toNat)
  case atStart => exact ⟨N, [], Nat.le_refl _, rfl, by simp, Lib.hid (World.ownsRow_lit w #[] 0 (Nat.le_refl _) (Nat.zero_le _) rfl), Lib.hid (H.out.below (bAlloc (Below.refl _ _) _)), Lib.hid ((Only.refl _ _).alloc _)⟩
  case round =>
    obtain ⟨r, ps, hr, rfl, hps, HP, HS, HO⟩ := hrel
    by_cases hpos : 0 < r
    · obtain ⟨r', rfl⟩ : ∃ r', r = r' + 1 := ⟨r - 1, by omega⟩
      have hcast : ((r' + 1 : Nat) : Int) = (r' : Int) + 1 := by omega
      have hBw := HO.out.size
      have hwr : IntKind.i64.wrap ((r' : Int) + 1 - 1) = (r' : Int) := by rw [IntWalk.i64_in _ (by omega)]; omega
      rw [hcast]
      go_wp2_with fail
      refine (pickS 60 b _ _ (by omega) (by omega) HS.out (by omega)).mono ?_
      rintro e u1 ⟨x, x0, x1, rfl, hs1, ho1⟩
      have HS1 := Lib.hid hs1
      have HO1 := Lib.hid ho1
      have hz1' := ho1.size
      clear hs1 ho1
      have HP1 := Lib.hid (HP.out.chg (chgOnly HO1.out) (fun j hj e => by have := (ownsLt HP.out j hj).1; omega))
      go_wp2_with fail
      refine (pickS 60 b _ _ (by omega) (by omega) (HS1.out.below (bAlloc (Below.refl _ _) _)) (by omega)).mono ?_
      rintro e u2 ⟨y, y0, y1, rfl, hs2, ho2⟩
      obtain ⟨d0, d1, g0, g1, zz⟩ := bkOnly ho2 (c := u1.heap.size) (x := x) (y := 0) (by omega) (by refine ⟨?_, ?_, ?_, ?_, ?_⟩ <;> go_simp)
      have HO2 := Lib.hid ((HO.out.trans (HO1.out.alloc _)).trans ho2)
      have HP2 := Lib.hid ((HP1.out.below (bAlloc (Below.refl _ _) _)).chg (chgOnly ho2) (fun j hj e => by have := (ownsLt HP.out j hj).1; omega))
      have hz2' := ho2.size
      have HS2 := Lib.hid hs2
      have hSp : Sep (own1 u5) (fun k => k = u1.heap.size) := fun j hj e => by have := (ownsLt HP1.out j hj).2; omega
      have HP3 := Lib.hid (HP2.out.chg (u := u2.setCell ⟨u1.heap.size, 1, none⟩ (.int .i64 y)) (S := fun k => k = u1.heap.size) (by refine Chg.set (Chg.refl _ _) ?_ _; exact .inl rfl) hSp)
      have HS3 := Lib.hid (HS2.out.chg (u := u2.setCell ⟨u1.heap.size, 1, none⟩ (.int .i64 y)) (S := fun k => k = u1.heap.size) (by refine Chg.set (Chg.refl _ _) ?_ _; exact .inl rfl) (fun k hk => by omega))
      have HO3 := Lib.hid (HO2.out.setNew (p := ⟨u1.heap.size, 1, none⟩) (by dsimp only; omega) (.int .i64 y))
      clear hs2 ho2 HP HP2 HP1 HO1 HS HS1 hSp HO2 HO HS2
      simp at zz hz2'
      go_wp2_with (first | (at_builtin; refine wpList_append_own _ rfl _ _ 24 rfl w.heap.size 57 i0 (fr 0 0) 2 16 Try.underlying24 hi hz0 hz1 hz2 rfl (by decide) _ _ _ rfl (HP3.out.alloc _) ⟨u2.heap.size, 0, none⟩ 1 1 [.int .i64 x, .int .i64 y] rfl rfl (two_newAt _ _ _ _ _ (by simp)) (two_oneCell _ _) (by unfold maxLen; omega) (by omega) (by simp; omega) ?_; intro v' w5 hown' hgrow hnil) | fail)
      have HP5 := Lib.hid (show Pts w5 w.heap.size v' (ps ++ [(x, y)]) by
        unfold Pts
        rw [flat_append, List.length_append]
        exact hown')
      have HO5 := Lib.hid (onlyGrown (HO3.out.alloc _) hgrow (fun k hk => (ownsLt HP3.out k hk).1))
      have HS5 := Lib.hid ((HS3.out.below (bAlloc (Below.refl _ _) _)).chg (Chg.ofGrown hgrow) (fun k hk => by have := (ownsLt HP3.out k hk).1; omega))
      clear hown' hgrow hnil HP3 HO3 HS3
      go_wp2
      go_roundw
      case rel => exact ⟨r', ps ++ [(x, y)], by omega, by first | rfl | rw [hwr], by simp; omega, HP5, Lib.hid (HS5.out.mono (by simp; omega)), HO5⟩
      case measure => simp [intOf] <;> omega
    · have : r = 0 := by omega
      subst this
      have hl : ps.length = N := by omega
      subst hl
      go_wp2
      go_ret
      exact ⟨_, ps, rfl, HP.out, rfl, HS.out, HO.out⟩

end Go.Proofs.Ytibafngidpmgdaa
