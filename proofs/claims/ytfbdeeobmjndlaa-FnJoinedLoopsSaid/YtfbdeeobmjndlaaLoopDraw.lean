/- What the laws of chapter 5 draw: loops. -/
import Derived.Test.YtfbdeeobmjndlaaProg
import Derived.Test.YtfbdeeobmjndlaaLoopMath
import Derived.Test.YtfbdeeobmjndlaaInts
import Derived.Test.YtfbdeeobmjndlaaLoop
import Derived.Test.YtfbdeeobmjndlaaLoop2
import Derived.Test.YtfbdeeobmjndlaaLoop3
import Derived.Test.YtfbdeeobmjndlaaClose2
import Derived.Test.YtfbdeeobmjndlaaTurnL2
import Derived.Test.YtfbdeeobmjndlaaPick
import Derived.Deep.AppendLies
import Derived.Deep.DrawnRows
import Derived.Test.YtfbdeeobmjndlaaHold
import Derived.IntWalk
import Derived.WalkSpells
import Derived.OwnWalk
import Derived.Laws.AppendOwn
import Derived.Laws.OwnMore
import Derived.Deep.RegionWith
import Derived.Deep.DrawnRows
import Derived.Deep.RegionHeld3
import Derived.Tactics
import Derived.Tactics2
import Derived.WalkKit
import Derived.LoopTactic
import Derived.BigQuiet
import Derived.RegionTactic
import Derived.Deep.QuietTactic
import Derived.Outline
import Derived.Lib.Hide
import Derived.Below
import Derived.KernelRfl
namespace Go.Proofs.Ytfbdeeobmjndlaa
set_option linter.unusedSimpArgs false
set_option linter.unusedVariables false
open Go.RowKit

/-- What a draw of places leaves. -/
def NewI (w : World) (b K N : Nat) (e : Ending) (w' : World) : Prop := ∃ v zs, e = .returned v ∧ Ints w' w.heap.size v zs ∧ zs.length = N ∧ Sc w' b K ∧ Only b w w'

set_option maxHeartbeats 1000000 in
set_option maxRecDepth 100000 in
/-- spec.l05New. -/
theorem l05New_any (N : Nat) (b K : Nat) (w : World) (hN : N ≤ 100) (h : Sc w b K) (hK : K ≤ 800000) :
    Calls Try.prog 136 #[.pointer (some ⟨b, 0, none⟩), .int .i64 N] w (NewI w b (K + 2 + 2 * N) N) := by
  obtain ⟨i0, hi, hz0, hz1, hz2⟩ := info_parts infoI64
  have hb := h.lt
  have H := Lib.hid h
  clear h
  go_enter Try.func136, Try.ntmps136
  go_wp2_with fail
  refine (pickS 100 b K _ (by omega) (by omega) (H.out.below (bAlloc (Below.refl _ _) _)) (by omega)).mono ?_
  rintro e u0 ⟨x, x0, x1, rfl, hs0, ho0⟩
  have HS0 := Lib.hid hs0
  have HO0 := Lib.hid (((Only.refl b w).alloc (.cells #[] 2)).trans ho0)
  have HP0 := Lib.hid (show Ints u0 w.heap.size (.slice (some ⟨w.heap.size, 0, none⟩) 0 0) [] from ownsChg (World.ownsRow_lit w #[] 0 (Nat.le_refl _) (Nat.zero_le _) rfl) (chgOnly ho0) (fun j hj e => by simp [own1, Value.ownBlock] at hj; omega))
  clear hs0 ho0 H
  go_wp2
  go_loopw [7, 5, 6] (fun i v a wr => ∃ (r : Nat) (zs : List Int) (y : Int), r ≤ N ∧ i = .int .i64 r ∧ zs.length + r = N ∧ a = .int .i64 y ∧ 0 ≤ y ∧ y ≤ 100 + 16 * (zs.length : Int) ∧ Hid (Ints wr w.heap.size v zs) ∧ Hid (Sc wr b (K + 2 + 2 * zs.length)) ∧ Hid (Only b w wr)) (fun i _ _ _ => (intOf i).toNat)
  case atStart => exact ⟨N, [], x, Nat.le_refl _, rfl, by simp, rfl, x0, by simp; omega, HP0, HS0, HO0⟩
  case round =>
    obtain ⟨r, zs, y, hr, rfl, hzs, rfl, y0, y1, HP, HS, HO⟩ := hrel
    by_cases hpos : 0 < r
    · obtain ⟨r', rfl⟩ : ∃ r', r = r' + 1 := ⟨r - 1, by omega⟩
      have hcast : ((r' + 1 : Nat) : Int) = (r' : Int) + 1 := by omega
      have hBw := HO.out.size
      have hwr : IntKind.i64.wrap ((r' : Int) + 1 - 1) = (r' : Int) := by rw [IntWalk.i64_in _ (by omega)]; omega
      rw [hcast]
      go_wp2_with (first | (at_builtin; refine wpList_append_own _ rfl _ _ 22 rfl w.heap.size 2 i0 (.int .i64 0) 1 8 Try.underlying22 hi hz0 hz1 hz2 rfl (by decide) _ _ _ rfl (HP.out.alloc _) ⟨wr.heap.size, 0, none⟩ 1 1 [.int .i64 y] rfl rfl (oneI_new _ _ _) (ints_oneCell .i64 [y]) (by unfold maxLen; omega) (by omega) (by simp; omega) ?_; intro v' w5 hown' hgrow hnil) | fail)
      have HP5 := Lib.hid (show Ints w5 w.heap.size v' (zs ++ [y]) by
        unfold Ints
        rw [List.map_append, List.length_append]
        exact hown')
      have HO5 := Lib.hid (onlyGrown (HO.out.alloc _) hgrow (fun k hk => (ownsLt HP.out k hk).1))
      have HS5 := Lib.hid ((HS.out.below (bAlloc (Below.refl _ _) _)).chg (Chg.ofGrown hgrow) (fun k hk => by have := (ownsLt HP.out k hk).1; omega))
      clear hown' hgrow hnil HP HO HS
      go_wp2_with fail
      refine (pickS 30 b _ _ (by omega) (by omega) HS5.out (by omega)).mono ?_
      rintro e u1 ⟨z, z0, z1, rfl, hs1, ho1⟩
      have HS1 := Lib.hid hs1
      have HO1 := Lib.hid (HO5.out.trans ho1)
      have HP1 := Lib.hid (HP5.out.chg (chgOnly ho1) (fun j hj e => by have := (ownsLt HP5.out j hj).1; omega))
      clear hs1 ho1 HP5 HO5 HS5
      have w1 : IntKind.i64.wrap (y + z) = y + z := IntWalk.i64_in _ (by omega)
      have w2 : IntKind.i64.wrap (y + z - 14) = y + z - 14 := IntWalk.i64_in _ (by omega)
      go_wp2_with fail
      refine (l00Max_any 0 (y + z - 14) _).mono ?_
      rintro e u ⟨rfl, rfl⟩
      go_wp2
      go_roundw
      case rel => exact ⟨r', zs ++ [y], max 0 (y + z - 14), by omega, by first | rfl | rw [hwr], by simp; omega, rfl, by omega, by simp; omega, HP1, Lib.hid (HS1.out.mono (by simp; omega)), HO1⟩
      case measure => simp [intOf] <;> omega
    · have : r = 0 := by omega
      subst this
      have hl : zs.length = N := by omega
      subst hl
      go_wp2
      go_ret
      exact ⟨_, zs, rfl, HP.out, rfl, HS.out, HO.out⟩

theorem among4 {j : Nat} (h : j < 4) : ∃ N : Nat, N ≤ 61 ∧ ([0, 1, 60, 61] : List Int).getD j 0 = (N : Int) := by
  match j, h with
  | 0, _ => exact ⟨0, by omega, rfl⟩
  | 1, _ => exact ⟨1, by omega, rfl⟩
  | 2, _ => exact ⟨60, by omega, rfl⟩
  | 3, _ => exact ⟨61, by omega, rfl⟩
theorem intsOpen {w : World} {B : Nat} {v : Value} {zs : List Int} (h : Ints w B v zs) (h1 : 1 ≤ zs.length) : ∃ g cap, v = .slice (some ⟨g, 0, none⟩) zs.length cap ∧ B ≤ g ∧ g < w.heap.size := by
  rcases h.view with ⟨_, rfl⟩ | ⟨g, cap, rfl, hB, hg, _⟩
  · simp at h1
  · exact ⟨g, cap, rfl, hB, hg⟩
theorem intsSet {w : World} {B g cap : Nat} {zs : List Int} (h : Ints w B (.slice (some ⟨g, 0, none⟩) zs.length cap) zs) (j : Nat) (z : Int) : Ints (w.setCell ⟨g, j, none⟩ (.int .i64 z)) B (.slice (some ⟨g, 0, none⟩) zs.length cap) (zs.set j z) := by
  obtain ⟨S1, _⟩ := World.ownsRow.stored h j (.int .i64 z)
  unfold Ints
  rw [List.length_set, List.map_set]
  exact S1

/-- What a draw of a loop leaves. -/
def DrawI (w : World) (b K : Nat) (e : Ending) (w' : World) : Prop := ∃ v zs, e = .returned v ∧ Ints w' w.heap.size v zs ∧ zs.length ≤ 61 ∧ Sc w' b K ∧ Only b w w'

set_option maxHeartbeats 1000000 in
set_option maxRecDepth 100000 in
/-- spec.l05Draw, from the number of places on. -/
theorem l05Draw_any (b K : Nat) (w : World) (h : Sc w b K) (hK : K ≤ 700000) :
    Calls Try.prog 132 #[.pointer (some ⟨b, 0, none⟩)] w (DrawI w b (K + 200)) := by
  have hb := h.lt
  have H := Lib.hid h
  clear h
  go_enter Try.func132, Try.ntmps132
  go_wp2_with fail
  refine (pickS 12 b K _ (by omega) (by omega) H.out (by omega)).mono ?_
  rintro e u1 ⟨x, x0, x1, rfl, hs1, ho1⟩
  have HS1 := Lib.hid hs1
  have HO1 := Lib.hid ho1
  clear hs1 ho1
  have hw1 : IntKind.i64.wrap (1 + x) = 1 + x := IntWalk.i64_in _ (by omega)
  go_wp2_with fail
  refine (oneS 16 b _ _ (by omega) (by omega) HS1.out (by omega)).mono ?_
  rintro e u2 ⟨t1, rfl, hs2, ho2⟩
  have HS2 := Lib.hid hs2
  have HO2 := Lib.hid (HO1.out.trans ho2)
  clear hs2 ho2 HS1 HO1
  cases t1
  · obtain ⟨N, hN⟩ : ∃ N : Nat, 1 + x = N := ⟨(1 + x).toNat, by omega⟩
    have hN9 : N ≤ 61 := by omega
    have HSx := Lib.hid (HS2.out.mono (show K + 2 + 2 ≤ K + 6 by omega))
    have HOx := Lib.hid HO2.out
    rw [hN] at *
    clear HS2 HO2 hw1 hN
    go_wp2_with fail
    refine (l05New_any N b _ _ (by omega) HSx.out (by omega)).mono ?_
    rintro e u4 ⟨v, zs, rfl, p4, hl4, hs4, ho4⟩
    have HP4 := Lib.hid (Ints.base p4 (B' := w.heap.size) HOx.out.size)
    have HS4 := Lib.hid (hs4.mono (show _ ≤ K + 140 by omega))
    have HO4 := Lib.hid (HOx.out.trans ho4)
    clear p4 hs4 ho4
    by_cases hN0 : N = 0
    · subst hN0
      go_wp2
      go_ret
      exact ⟨v, zs, rfl, HP4.out, by omega, HS4.out.mono (by omega), HO4.out⟩
    · have hNp : (0:Int) < (N:Int) := by omega
      go_wp2_with fail
      refine (oneS 12 b _ _ (by omega) (by omega) HS4.out (by omega)).mono ?_
      rintro e u5 ⟨t2, rfl, hs5, ho5⟩
      have HP5 := Lib.hid (HP4.out.chg (chgOnly ho5) (fun j hj e => by have := (ownsLt HP4.out j hj).1; omega))
      have HS5 := Lib.hid hs5
      have HO5 := Lib.hid (HO4.out.trans ho5)
      clear hs5 ho5 HP4 HS4 HO4
      cases t2
      · go_wp2
        go_ret
        exact ⟨v, zs, rfl, HP5.out, by omega, HS5.out.mono (by omega), HO5.out⟩
      · go_wp2_with fail
        refine (pickS N b _ _ (by omega) (by omega) HS5.out (by omega)).mono ?_
        rintro e u6 ⟨y, y0, y1, rfl, hs6, ho6⟩
        have HP6 := Lib.hid (HP5.out.chg (chgOnly ho6) (fun j hj e => by have := (ownsLt HP5.out j hj).1; omega))
        have HS6 := Lib.hid hs6
        have HO6 := Lib.hid (HO5.out.trans ho6)
        clear hs6 ho6 HP5 HS5 HO5
        obtain ⟨q, rfl⟩ : ∃ q : Nat, y = q := ⟨y.toNat, by omega⟩
        obtain ⟨g, cap, rfl, hBg, hgl⟩ := intsOpen HP6.out (by omega)
        have hbz6 := HO6.out.size
        go_wp2_with fail
        refine (amongS b _ u6.heap.size _ [-1, 0, 1000, 1001, -9223372036854775808] _ (World.ownsRow_lit u6 #[.int .i64 (-1), .int .i64 0, .int .i64 1000, .int .i64 1001, .int .i64 (-9223372036854775808)] 5 (Nat.le_refl _) (by decide) rfl) (by simp) (by simp) (by omega) (HS6.out.below (bAlloc (Below.refl _ _) _)) (by omega)).mono ?_
        rintro e u7 ⟨j, hj, rfl, hs7, ho7⟩
        generalize ([-1, 0, 1000, 1001, -9223372036854775808] : List Int).getD j 0 = z at *
        have hsep : ∀ j, own1 (.slice (some ⟨g, 0, none⟩) zs.length cap) j → ¬ (j = b) := fun j hj e => by
          have := (ownsLt HP6.out j hj).1
          omega
        have HP7 := Lib.hid ((HP6.out.below (bAlloc (Below.refl _ _) _)).chg (chgOnly ho7) hsep)
        have HS7 := Lib.hid hs7
        have HO7 := Lib.hid ((HO6.out.alloc _).trans ho7)
        have hq : q < zs.length := by omega
        have hc0 : ∃ z0, u7.cell? ⟨g, q, none⟩ = some z0 := by
          rw [World.ownsRow.cellAt HP7.out q (by omega)]
          exact ⟨_, List.getElem?_eq_getElem (by simpa using hq)⟩
        obtain ⟨z0, hc0⟩ := hc0
        have f0 : u7.frozen? ⟨g, q, none⟩ = false := World.ownsRow.frozenAt HP7.out _
        have P8 := Lib.hid (intsSet HP7.out q z)
        have HS8 := Lib.hid (HS7.out.chg (u := u7.setCell ⟨g, q, none⟩ (.int .i64 z)) (S := fun k => k = g) (by refine Chg.set (Chg.refl _ _) ?_ _; exact .inl rfl) (fun k hk => by omega))
        have HO8 := Lib.hid (HO7.out.setNew (p := ⟨g, q, none⟩) (by dsimp only; omega) (.int .i64 z))
        have hq0 : (0:Int) ≤ (q : Int) := by omega
        have hq1 : (q : Int) < zs.length := by omega
        have hl8 : (zs.set q z).length ≤ 61 := by rw [List.length_set]; omega
        rw [hl4] at P8
        clear hs7 ho7 HP6 HS6 HO6 HP7 HS7 HO7 hsep
        go_wp2
        go_ret
        exact ⟨_, _, rfl, P8.out, hl8, HS8.out.mono (by omega), HO8.out⟩
  · have hbz2 := HO2.out.size
    go_wp2_with fail
    refine (amongS b (K + 2 + 2) u2.heap.size _ [0, 1, 60, 61] _ (World.ownsRow_lit u2 #[.int .i64 0, .int .i64 1, .int .i64 60, .int .i64 61] 4 (Nat.le_refl _) (by decide) rfl) (by simp) (by simp) (by omega) (HS2.out.below (bAlloc (Below.refl _ _) _)) (by omega)).mono ?_
    rintro e u3 ⟨j, hj, rfl, hs3, ho3⟩
    obtain ⟨N, hN9, hN⟩ := among4 (j := j) (by simpa using hj)
    rw [hN]
    have HSx := Lib.hid hs3
    have HOx := Lib.hid ((HO2.out.alloc _).trans ho3)
    clear hs3 ho3 HS2 HO2 hN
    go_wp2_with fail
    refine (l05New_any N b _ _ (by omega) HSx.out (by omega)).mono ?_
    rintro e u4 ⟨v, zs, rfl, p4, hl4, hs4, ho4⟩
    have HP4 := Lib.hid (Ints.base p4 (B' := w.heap.size) HOx.out.size)
    have HS4 := Lib.hid (hs4.mono (show _ ≤ K + 140 by omega))
    have HO4 := Lib.hid (HOx.out.trans ho4)
    clear p4 hs4 ho4
    by_cases hN0 : N = 0
    · subst hN0
      go_wp2
      go_ret
      exact ⟨v, zs, rfl, HP4.out, by omega, HS4.out.mono (by omega), HO4.out⟩
    · have hNp : (0:Int) < (N:Int) := by omega
      go_wp2_with fail
      refine (oneS 12 b _ _ (by omega) (by omega) HS4.out (by omega)).mono ?_
      rintro e u5 ⟨t2, rfl, hs5, ho5⟩
      have HP5 := Lib.hid (HP4.out.chg (chgOnly ho5) (fun j hj e => by have := (ownsLt HP4.out j hj).1; omega))
      have HS5 := Lib.hid hs5
      have HO5 := Lib.hid (HO4.out.trans ho5)
      clear hs5 ho5 HP4 HS4 HO4
      cases t2
      · go_wp2
        go_ret
        exact ⟨v, zs, rfl, HP5.out, by omega, HS5.out.mono (by omega), HO5.out⟩
      · go_wp2_with fail
        refine (pickS N b _ _ (by omega) (by omega) HS5.out (by omega)).mono ?_
        rintro e u6 ⟨y, y0, y1, rfl, hs6, ho6⟩
        have HP6 := Lib.hid (HP5.out.chg (chgOnly ho6) (fun j hj e => by have := (ownsLt HP5.out j hj).1; omega))
        have HS6 := Lib.hid hs6
        have HO6 := Lib.hid (HO5.out.trans ho6)
        clear hs6 ho6 HP5 HS5 HO5
        obtain ⟨q, rfl⟩ : ∃ q : Nat, y = q := ⟨y.toNat, by omega⟩
        obtain ⟨g, cap, rfl, hBg, hgl⟩ := intsOpen HP6.out (by omega)
        have hbz6 := HO6.out.size
        go_wp2_with fail
        refine (amongS b _ u6.heap.size _ [-1, 0, 1000, 1001, -9223372036854775808] _ (World.ownsRow_lit u6 #[.int .i64 (-1), .int .i64 0, .int .i64 1000, .int .i64 1001, .int .i64 (-9223372036854775808)] 5 (Nat.le_refl _) (by decide) rfl) (by simp) (by simp) (by omega) (HS6.out.below (bAlloc (Below.refl _ _) _)) (by omega)).mono ?_
        rintro e u7 ⟨j, hj, rfl, hs7, ho7⟩
        generalize ([-1, 0, 1000, 1001, -9223372036854775808] : List Int).getD j 0 = z at *
        have hsep : ∀ j, own1 (.slice (some ⟨g, 0, none⟩) zs.length cap) j → ¬ (j = b) := fun j hj e => by
          have := (ownsLt HP6.out j hj).1
          omega
        have HP7 := Lib.hid ((HP6.out.below (bAlloc (Below.refl _ _) _)).chg (chgOnly ho7) hsep)
        have HS7 := Lib.hid hs7
        have HO7 := Lib.hid ((HO6.out.alloc _).trans ho7)
        have hq : q < zs.length := by omega
        have hc0 : ∃ z0, u7.cell? ⟨g, q, none⟩ = some z0 := by
          rw [World.ownsRow.cellAt HP7.out q (by omega)]
          exact ⟨_, List.getElem?_eq_getElem (by simpa using hq)⟩
        obtain ⟨z0, hc0⟩ := hc0
        have f0 : u7.frozen? ⟨g, q, none⟩ = false := World.ownsRow.frozenAt HP7.out _
        have P8 := Lib.hid (intsSet HP7.out q z)
        have HS8 := Lib.hid (HS7.out.chg (u := u7.setCell ⟨g, q, none⟩ (.int .i64 z)) (S := fun k => k = g) (by refine Chg.set (Chg.refl _ _) ?_ _; exact .inl rfl) (fun k hk => by omega))
        have HO8 := Lib.hid (HO7.out.setNew (p := ⟨g, q, none⟩) (by dsimp only; omega) (.int .i64 z))
        have hq0 : (0:Int) ≤ (q : Int) := by omega
        have hq1 : (q : Int) < zs.length := by omega
        have hl8 : (zs.set q z).length ≤ 61 := by rw [List.length_set]; omega
        rw [hl4] at P8
        clear hs7 ho7 HP6 HS6 HO6 HP7 HS7 HO7 hsep
        go_wp2
        go_ret
        exact ⟨_, _, rfl, P8.out, hl8, HS8.out.mono (by omega), HO8.out⟩

theorem among7 {a b : Int} {j : Nat} (ha : -1 ≤ a) (ha2 : a ≤ 62) (hb : -1 ≤ b) (hb2 : b ≤ 62) (h : j < 7) : -1 ≤ ([-1, 0, 1, a, b, 60, 61] : List Int).getD j 0 ∧ ([-1, 0, 1, a, b, 60, 61] : List Int).getD j 0 ≤ 62 := by
  match j, h with
  | 0, _ => exact ⟨(by decide : (-1 : Int) ≤ -1), (by decide : (-1 : Int) ≤ 62)⟩
  | 1, _ => exact ⟨(by decide : (-1 : Int) ≤ 0), (by decide : (0 : Int) ≤ 62)⟩
  | 2, _ => exact ⟨(by decide : (-1 : Int) ≤ 1), (by decide : (1 : Int) ≤ 62)⟩
  | 3, _ => exact ⟨ha, ha2⟩
  | 4, _ => exact ⟨hb, hb2⟩
  | 5, _ => exact ⟨(by decide : (-1 : Int) ≤ 60), (by decide : (60 : Int) ≤ 62)⟩
  | 6, _ => exact ⟨(by decide : (-1 : Int) ≤ 61), (by decide : (61 : Int) ≤ 62)⟩

/-- What a draw of a loop and a number leaves. -/
def ByR (w : World) (e : Ending) (w' : World) : Prop := ∃ v zs z, e = .returned (.tuple #[v, .int .i64 z]) ∧ Ints w' w.heap.size v zs ∧ zs.length ≤ 61 ∧ -1 ≤ z ∧ z ≤ 62 ∧ Below w.heap.size w w'

set_option maxHeartbeats 1000000 in
/-- spec.l05By. -/
theorem l05By_any (a : Option Addr) (len cap : Nat) (zs : List Int) (w : World) (hr : Row w a len cap zs) :
    Calls Try.prog 138 #[.slice a len cap] w (ByR w) := by
  have HR := Lib.hid hr
  clear hr
  go_enter Try.func138, Try.ntmps138
  go_wp2_with fail
  refine (fromS a len cap zs _ HR.out).mono ?_
  rintro e u1 ⟨rfl, hs1, hb1, hz1⟩
  have HS1 := Lib.hid hs1
  have HB1 := Lib.hid hb1
  clear hs1 hb1
  go_wp2_with fail
  refine (l05Draw_any _ 0 _ HS1.out (by omega)).mono ?_
  rintro e u2 ⟨v, ys, rfl, p2, hl, hs2, ho2⟩
  obtain ⟨A2, c2, rfl, -⟩ := p2.rd (by omega)
  have HP2 := Lib.hid p2
  have HS2 := Lib.hid hs2
  have HO2 := Lib.hid ho2
  clear p2 hs2 ho2 HS1
  go_wp2_with fail
  refine (oneS 8 _ _ _ (by omega) (by omega) HS2.out (by omega)).mono ?_
  rintro e u3 ⟨t1, rfl, hs3, ho3⟩
  have HP3 := Lib.hid (HP2.out.chg (chgOnly ho3) (fun j hj e => by have := (ownsLt HP2.out j hj).1; omega))
  have HS3 := Lib.hid hs3
  have HO3 := Lib.hid (HO2.out.trans ho3)
  clear hs3 ho3 HS2 HO2 HP2
  have hz3 := HO3.out.size
  cases t1
  · go_wp2_with fail
    refine (pickS 6 _ _ _ (by omega) (by omega) HS3.out (by omega)).mono ?_
    rintro e u5 ⟨y, y0, y1, rfl, hs5, ho5⟩
    have HP5 := Lib.hid (Ints.base (HP3.out.chg (chgOnly ho5) (fun j hj e => by have := (ownsLt HP3.out j hj).1; omega)) (B' := w.heap.size) (by omega))
    have HB5 := Lib.hid (HB1.out.trans ((HO3.out.trans ho5).below (Nat.le_refl _) (by omega)))
    clear hs5 ho5 HS3 HO3 HP3 HB1
    have hw1 : IntKind.i64.wrap (1 + y) = 1 + y := IntWalk.i64_in _ (by omega)
    go_wp2
    go_ret2
    exact ⟨_, ys, 1 + y, rfl, HP5.out, hl, by omega, by omega, HB5.out⟩
  · have hw2 : IntKind.i64.wrap ((ys.length : Int) + 1) = (ys.length : Int) + 1 := IntWalk.i64_in _ (by omega)
    have hlz := Lib.hid hl
    go_wp2_with fail
    refine (amongS _ _ u3.heap.size _ [-1, 0, 1, (ys.length : Int), (ys.length : Int) + 1, 60, 61] _ (World.ownsRow_lit u3 #[.int .i64 (-1), .int .i64 0, .int .i64 1, .int .i64 (ys.length : Int), .int .i64 ((ys.length : Int) + 1), .int .i64 60, .int .i64 61] 7 (Nat.le_refl _) (by decide) rfl) (by simp) (by simp) (by omega) (HS3.out.below (bAlloc (Below.refl _ _) _)) (by omega)).mono ?_
    rintro e u5 ⟨j, hj, rfl, hs5, ho5⟩
    have hzb := among7 (a := (ys.length : Int)) (b := (ys.length : Int) + 1) (j := j) (by omega) (by omega) (by omega) (by omega) (by simpa using hj)
    generalize ([-1, 0, 1, (ys.length : Int), (ys.length : Int) + 1, 60, 61] : List Int).getD j 0 = z at *
    have HP5 := Lib.hid (Ints.base ((HP3.out.below (bAlloc (Below.refl _ _) _)).chg (chgOnly ho5) (fun j hj e => by have := (ownsLt HP3.out j hj).1; omega)) (B' := w.heap.size) (by omega))
    have HB5 := Lib.hid (HB1.out.trans (((HO3.out.alloc _).trans ho5).below (Nat.le_refl _) (by omega)))
    clear hs5 ho5 HS3 HO3 HP3 HB1 hj
    go_wp2
    go_ret2
    exact ⟨_, ys, z, rfl, HP5.out, hl, hzb.1, hzb.2, HB5.out⟩

/-- spec.DrawCloseLoop and spec.DrawTurnLoop. -/
theorem drawClose_any (a : Option Addr) (len cap : Nat) (zs : List Int) (w : World) (hr : Row w a len cap zs) :
    Calls Try.prog 56 #[.slice a len cap] w (ByR w) := by
  have HR := Lib.hid hr
  clear hr
  go_enter Try.func56, Try.ntmps56
  go_wp2_with fail
  refine (l05By_any a len cap zs _ HR.out).mono ?_
  rintro e u ⟨v, ys, z, rfl, p, hl, z0, z1, hb⟩
  have HP := Lib.hid p
  have HB := Lib.hid hb
  clear p hb
  go_wp2
  go_ret2
  exact ⟨v, ys, z, rfl, HP.out, hl, z0, z1, HB.out⟩
theorem drawTurn_any (a : Option Addr) (len cap : Nat) (zs : List Int) (w : World) (hr : Row w a len cap zs) :
    Calls Try.prog 58 #[.slice a len cap] w (ByR w) := by
  have HR := Lib.hid hr
  clear hr
  go_enter Try.func58, Try.ntmps58
  go_wp2_with fail
  refine (l05By_any a len cap zs _ HR.out).mono ?_
  rintro e u ⟨v, ys, z, rfl, p, hl, z0, z1, hb⟩
  have HP := Lib.hid p
  have HB := Lib.hid hb
  clear p hb
  go_wp2
  go_ret2
  exact ⟨v, ys, z, rfl, HP.out, hl, z0, z1, HB.out⟩

set_option maxHeartbeats 1000000 in
/-- spec.DrawThinLoop. -/
theorem drawThin_any (a : Option Addr) (len cap : Nat) (zs : List Int) (w : World) (hr : Row w a len cap zs) :
    Calls Try.prog 57 #[.slice a len cap] w (ByR w) := by
  have HR := Lib.hid hr
  clear hr
  go_enter Try.func57, Try.ntmps57
  go_wp2_with fail
  refine (l05By_any a len cap zs _ HR.out).mono ?_
  rintro e u0 ⟨v, ys, z, rfl, p, hl, z0, z1, hb⟩
  obtain ⟨A2, c2, rfl, -⟩ := p.rd (by omega)
  have HP := Lib.hid p
  have HB := Lib.hid hb
  have HR1 := Lib.hid (HR.out.below hb)
  have hz0 := hb.size
  clear p hb
  go_wp2_with fail
  refine (fromS a len cap zs _ HR1.out).mono ?_
  rintro e u1 ⟨rfl, hs1, hb1, hz1⟩
  have HS1 := Lib.hid hs1
  have HB1 := Lib.hid hb1
  have HP1 := Lib.hid (HP.out.below hb1)
  clear hs1 hb1
  by_cases hne : (0:Int) < (ys.length : Int)
  · go_wp2_with fail
    refine (oneS 2 _ _ _ (by omega) (by omega) HS1.out (by omega)).mono ?_
    rintro e u3 ⟨t1, rfl, hs3, ho3⟩
    have HS3 := Lib.hid hs3
    have HO3 := Lib.hid ho3
    have hz3 := ho3.size
    have HP3 := Lib.hid (Ints.base (ownsChg HP1.out (chgOnly ho3) (fun j hj e => by have := (ownsLt HP.out j hj).2; omega)) (B' := w.heap.size) (by omega))
    clear hs3 ho3
    cases t1
    · have HB5 := Lib.hid (HB.out.trans ((HB1.out.trans (HO3.out.below (Nat.le_refl _) (by omega))).mono hz0))
      go_wp2
      go_ret2
      exact ⟨_, ys, z, rfl, HP3.out, hl, z0, z1, HB5.out⟩
    · go_wp2_with fail
      refine (l05New_any 12 _ _ _ (by omega) HS3.out (by omega)).mono ?_
      rintro e u4 ⟨v4, xs, rfl, p4, hl4, hs4, ho4⟩
      have HP4 := Lib.hid p4
      have HS4 := Lib.hid hs4
      have HO4 := Lib.hid (HO3.out.trans ho4)
      clear p4 hs4 ho4
      go_wp2_with fail
      refine (pickS 6 _ _ _ (by omega) (by omega) HS4.out (by omega)).mono ?_
      rintro e u5 ⟨y, y0, y1, rfl, hs5, ho5⟩
      have HP5 := Lib.hid (Ints.base (ownsChg HP4.out (chgOnly ho5) (fun j hj e => by have := (ownsLt HP4.out j hj).1; omega)) (B' := w.heap.size) (by omega))
      have HB5 := Lib.hid (HB.out.trans ((HB1.out.trans ((HO4.out.trans ho5).below (Nat.le_refl _) (by omega))).mono hz0))
      have hw1 : IntKind.i64.wrap (1 + y) = 1 + y := IntWalk.i64_in _ (by omega)
      clear hs5 ho5
      go_wp2
      go_ret2
      exact ⟨_, xs, 1 + y, rfl, HP5.out, by omega, by omega, by omega, HB5.out⟩
  · have HB5 := Lib.hid (HB.out.trans (HB1.out.mono hz0))
    go_wp2
    go_ret2
    exact ⟨_, ys, z, rfl, HP1.out, hl, z0, z1, HB5.out⟩

/-- spec.DrawStepsOfLoop. -/
theorem drawSteps_any (a : Option Addr) (len cap : Nat) (zs : List Int) (w : World) (hr : Row w a len cap zs) :
    Calls Try.prog 49 #[.slice a len cap] w fun e w' => ∃ v ys, e = .returned v ∧ Ints w' w.heap.size v ys ∧ ys.length ≤ 61 ∧ Below w.heap.size w w' := by
  have HR := Lib.hid hr
  clear hr
  go_enter Try.func49, Try.ntmps49
  go_wp2_with fail
  refine (fromS a len cap zs _ HR.out).mono ?_
  rintro e u1 ⟨rfl, hs1, hb1, hz1⟩
  have HS1 := Lib.hid hs1
  have HB1 := Lib.hid hb1
  clear hs1 hb1
  go_wp2_with fail
  refine (l05Draw_any _ 0 _ HS1.out (by omega)).mono ?_
  rintro e u2 ⟨v, ys, rfl, p2, hl, hs2, ho2⟩
  have HP2 := Lib.hid (Ints.base p2 (B' := w.heap.size) (by omega))
  have HB2 := Lib.hid (HB1.out.trans (ho2.below (Nat.le_refl _) (by omega)))
  clear p2 hs2 ho2 HS1
  go_wp2
  go_ret
  exact ⟨v, ys, rfl, HP2.out, hl, HB2.out⟩

theorem among5 {j : Nat} (h : j < 5) : -1 ≤ ([-1, 0, 1, 60, 61] : List Int).getD j 0 ∧ ([-1, 0, 1, 60, 61] : List Int).getD j 0 ≤ 61 := by
  match j, h with
  | 0, _ => decide
  | 1, _ => decide
  | 2, _ => decide
  | 3, _ => decide
  | 4, _ => decide

set_option maxHeartbeats 1000000 in
/-- spec.DrawCommonLength. -/
theorem drawCommon_any (a : Option Addr) (len cap : Nat) (zs : List Int) (w : World) (hr : Row w a len cap zs) :
    Calls Try.prog 51 #[.slice a len cap] w fun e w' => ∃ x y, e = .returned (.tuple #[.int .i64 x, .int .i64 y]) ∧ -1 ≤ x ∧ x ≤ 61 ∧ -1 ≤ y ∧ y ≤ 61 ∧ Below w.heap.size w w' := by
  have HR := Lib.hid hr
  clear hr
  go_enter Try.func51, Try.ntmps51
  go_wp2_with fail
  refine (fromS a len cap zs _ HR.out).mono ?_
  rintro e u1 ⟨rfl, hs1, hb1, hz1⟩
  have HS1 := Lib.hid hs1
  have HB1 := Lib.hid hb1
  clear hs1 hb1
  go_wp2_with fail
  refine (pickS 24 _ _ _ (by omega) (by omega) HS1.out (by omega)).mono ?_
  rintro e u2 ⟨x, x0, x1, rfl, hs2, ho2⟩
  have HS2 := Lib.hid hs2
  have HO2 := Lib.hid ho2
  clear hs2 ho2 HS1
  have hw1 : IntKind.i64.wrap (1 + x) = 1 + x := IntWalk.i64_in _ (by omega)
  go_wp2_with fail
  refine (oneS 10 _ _ _ (by omega) (by omega) HS2.out (by omega)).mono ?_
  rintro e u3 ⟨t1, rfl, hs3, ho3⟩
  have HS3 := Lib.hid hs3
  have HO3 := Lib.hid (HO2.out.trans ho3)
  have hz3 := HO3.out.size
  clear hs3 ho3 HS2 HO2
  cases t1
  · obtain ⟨y, hy⟩ : ∃ y, 1 + x = y := ⟨_, rfl⟩
    have y0 : -1 ≤ y := by omega
    have y1 : y ≤ 61 := by omega
    rw [hy] at *
    have HS4 := HS3
    have HO4 := HO3
    have hz4 := hz3
    clear x0 x1 hw1 hy HS3 HO3 hz3
    go_wp2_with fail
    refine (oneS 10 _ _ _ (by omega) (by omega) HS4.out (by omega)).mono ?_
    rintro e u5 ⟨t2, rfl, hs5, ho5⟩
    have HS5 := Lib.hid hs5
    have HO5 := Lib.hid (HO4.out.trans ho5)
    have hz5 := HO5.out.size
    clear hs5 ho5
    cases t2
    · go_wp2_with fail
      refine (pickS 24 _ _ _ (by omega) (by omega) HS5.out (by omega)).mono ?_
      rintro e u6 ⟨z, z0, z1, rfl, hs6, ho6⟩
      have HB6 := Lib.hid (HB1.out.trans ((HO5.out.trans ho6).below (Nat.le_refl _) (by omega)))
      have hw2 : IntKind.i64.wrap (1 + z) = 1 + z := IntWalk.i64_in _ (by omega)
      clear hs6 ho6
      go_wp2
      go_ret2
      exact ⟨y, 1 + z, rfl, y0, y1, by omega, by omega, HB6.out⟩
    · go_wp2_with fail
      refine (amongS _ _ u5.heap.size _ [-1, 0, 1, 60, 61] _ (World.ownsRow_lit u5 #[.int .i64 (-1), .int .i64 0, .int .i64 1, .int .i64 60, .int .i64 61] 5 (Nat.le_refl _) (by decide) rfl) (by simp) (by simp) (by omega) (HS5.out.below (bAlloc (Below.refl _ _) _)) (by omega)).mono ?_
      rintro e u6 ⟨i, hi, rfl, hs6, ho6⟩
      obtain ⟨z0, z1⟩ := among5 (j := i) (by simpa using hi)
      generalize ([-1, 0, 1, 60, 61] : List Int).getD i 0 = z at *
      have HB6 := Lib.hid (HB1.out.trans (((HO5.out.alloc _).trans ho6).below (Nat.le_refl _) (by omega)))
      clear hs6 ho6 hi
      go_wp2
      go_ret2
      exact ⟨y, z, rfl, y0, y1, z0, z1, HB6.out⟩
  · go_wp2_with fail
    refine (amongS _ _ u3.heap.size _ [-1, 0, 1, 60, 61] _ (World.ownsRow_lit u3 #[.int .i64 (-1), .int .i64 0, .int .i64 1, .int .i64 60, .int .i64 61] 5 (Nat.le_refl _) (by decide) rfl) (by simp) (by simp) (by omega) (HS3.out.below (bAlloc (Below.refl _ _) _)) (by omega)).mono ?_
    rintro e u4 ⟨j, hj, rfl, hs4, ho4⟩
    obtain ⟨y0, y1⟩ := among5 (j := j) (by simpa using hj)
    generalize ([-1, 0, 1, 60, 61] : List Int).getD j 0 = y at *
    have HS4 := Lib.hid hs4
    have HO4 := Lib.hid ((HO3.out.alloc _).trans ho4)
    have hz4 := HO4.out.size
    clear hs4 ho4 HS3 HO3 hj hw1 x0 x1
    go_wp2_with fail
    refine (oneS 10 _ _ _ (by omega) (by omega) HS4.out (by omega)).mono ?_
    rintro e u5 ⟨t2, rfl, hs5, ho5⟩
    have HS5 := Lib.hid hs5
    have HO5 := Lib.hid (HO4.out.trans ho5)
    have hz5 := HO5.out.size
    clear hs5 ho5
    cases t2
    · go_wp2_with fail
      refine (pickS 24 _ _ _ (by omega) (by omega) HS5.out (by omega)).mono ?_
      rintro e u6 ⟨z, z0, z1, rfl, hs6, ho6⟩
      have HB6 := Lib.hid (HB1.out.trans ((HO5.out.trans ho6).below (Nat.le_refl _) (by omega)))
      have hw2 : IntKind.i64.wrap (1 + z) = 1 + z := IntWalk.i64_in _ (by omega)
      clear hs6 ho6
      go_wp2
      go_ret2
      exact ⟨y, 1 + z, rfl, y0, y1, by omega, by omega, HB6.out⟩
    · go_wp2_with fail
      refine (amongS _ _ u5.heap.size _ [-1, 0, 1, 60, 61] _ (World.ownsRow_lit u5 #[.int .i64 (-1), .int .i64 0, .int .i64 1, .int .i64 60, .int .i64 61] 5 (Nat.le_refl _) (by decide) rfl) (by simp) (by simp) (by omega) (HS5.out.below (bAlloc (Below.refl _ _) _)) (by omega)).mono ?_
      rintro e u6 ⟨i, hi, rfl, hs6, ho6⟩
      obtain ⟨z0, z1⟩ := among5 (j := i) (by simpa using hi)
      generalize ([-1, 0, 1, 60, 61] : List Int).getD i 0 = z at *
      have HB6 := Lib.hid (HB1.out.trans (((HO5.out.alloc _).trans ho6).below (Nat.le_refl _) (by omega)))
      clear hs6 ho6 hi
      go_wp2
      go_ret2
      exact ⟨y, z, rfl, y0, y1, z0, z1, HB6.out⟩

/-- What a draw of two loops leaves. -/
def TwoR (w : World) (e : Ending) (w' : World) : Prop := ∃ v v' xs ys, e = .returned (.tuple #[v, v']) ∧ Ints w' w.heap.size v xs ∧ Ints w' w.heap.size v' ys ∧ xs.length ≤ 61 ∧ ys.length ≤ 61 ∧ Below w.heap.size w w'

set_option maxHeartbeats 1000000 in
/-- spec.DrawBestTurn. -/
theorem drawBest_any (a : Option Addr) (len cap : Nat) (zs : List Int) (w : World) (hr : Row w a len cap zs) :
    Calls Try.prog 50 #[.slice a len cap] w (TwoR w) := by
  have HR := Lib.hid hr
  clear hr
  go_enter Try.func50, Try.ntmps50
  go_wp2_with fail
  refine (fromS a len cap zs _ HR.out).mono ?_
  rintro e u1 ⟨rfl, hs1, hb1, hz1⟩
  have HS1 := Lib.hid hs1
  have HB1 := Lib.hid hb1
  clear hs1 hb1
  go_wp2_with fail
  refine (l05Draw_any _ 0 _ HS1.out (by omega)).mono ?_
  rintro e u2 ⟨v, xs, rfl, p2, hl, hs2, ho2⟩
  obtain ⟨A2, c2, rfl, -⟩ := p2.rd (by omega)
  have HP2 := Lib.hid p2
  have HS2 := Lib.hid hs2
  have HO2 := Lib.hid ho2
  clear p2 hs2 ho2 HS1
  go_wp2_with fail
  refine (oneS 8 _ _ _ (by omega) (by omega) HS2.out (by omega)).mono ?_
  rintro e u3 ⟨t1, rfl, hs3, ho3⟩
  have HP3 := Lib.hid (HP2.out.chg (chgOnly ho3) (fun j hj e => by have := (ownsLt HP2.out j hj).1; omega))
  have HS3 := Lib.hid hs3
  have HO3 := Lib.hid (HO2.out.trans ho3)
  clear hs3 ho3 HS2 HO2 HP2
  have hz3 := HO3.out.size
  cases t1
  · go_wp2_with fail
    refine (oneS 2 _ _ _ (by omega) (by omega) HS3.out (by omega)).mono ?_
    rintro e u4 ⟨t2, rfl, hs4, ho4⟩
    have HP4 := Lib.hid (HP3.out.chg (chgOnly ho4) (fun j hj e => by have := (ownsLt HP3.out j hj).1; omega))
    have HS4 := Lib.hid hs4
    have HO4 := Lib.hid (HO3.out.trans ho4)
    clear hs4 ho4 HS3 HO3 HP3
    have hz4 := HO4.out.size
    cases t2
    · go_wp2_with fail
      refine (l05New_any xs.length _ _ _ (by omega) HS4.out (by omega)).mono ?_
      rintro e u5 ⟨v5, ys, rfl, p5, hl5, hs5, ho5⟩
      have HP5 := Lib.hid (Ints.base (HP4.out.chg (chgOnly ho5) (fun j hj e => by have := (ownsLt HP4.out j hj).1; omega)) (B' := w.heap.size) (by omega))
      have HQ5 := Lib.hid (Ints.base p5 (B' := w.heap.size) (by omega))
      have HB5 := Lib.hid (HB1.out.trans ((HO4.out.trans ho5).below (Nat.le_refl _) (by omega)))
      clear p5 hs5 ho5
      go_wp2
      go_ret2
      exact ⟨_, _, xs, ys, rfl, HP5.out, HQ5.out, hl, by omega, HB5.out⟩
    · by_cases hne : (0:Int) < (xs.length : Int)
      · go_wp2_with fail
        refine (pickS xs.length _ _ _ (by omega) (by omega) HS4.out (by omega)).mono ?_
        rintro e u5 ⟨y, y0, y1, rfl, hs5, ho5⟩
        obtain ⟨q, rfl⟩ : ∃ q : Nat, y = q := ⟨y.toNat, by omega⟩
        have HP5 := Lib.hid (HP4.out.chg (chgOnly ho5) (fun j hj e => by have := (ownsLt HP4.out j hj).1; omega))
        have HO5 := Lib.hid (HO4.out.trans ho5)
        have hz5 := HO5.out.size
        clear hs5 ho5
        go_wp2_with fail
        refine (l05Turned_any A2 xs.length c2 xs q _ (HP5.out.rdOf rfl (by omega)) (by omega) (by omega) (by omega)).mono ?_
        rintro e u6 ⟨v6, rfl, p6, hb6⟩
        have HP6 := Lib.hid (Ints.base (HP5.out.below hb6) (B' := w.heap.size) (by omega))
        have HQ6 := Lib.hid (Ints.base p6 (B' := w.heap.size) (by omega))
        have HB6 := Lib.hid (bTrans (HB1.out.trans (HO5.out.below (Nat.le_refl _) (by omega))) hb6)
        clear p6 hb6
        go_wp2
        go_ret2
        exact ⟨_, _, xs, _, rfl, HP6.out, HQ6.out, hl, by unfold turnL; rw [genL_length]; exact hl, HB6.out⟩
      · go_wp2_with fail
        refine (l05New_any xs.length _ _ _ (by omega) HS4.out (by omega)).mono ?_
        rintro e u5 ⟨v5, ys, rfl, p5, hl5, hs5, ho5⟩
        have HP5 := Lib.hid (Ints.base (HP4.out.chg (chgOnly ho5) (fun j hj e => by have := (ownsLt HP4.out j hj).1; omega)) (B' := w.heap.size) (by omega))
        have HQ5 := Lib.hid (Ints.base p5 (B' := w.heap.size) (by omega))
        have HB5 := Lib.hid (HB1.out.trans ((HO4.out.trans ho5).below (Nat.le_refl _) (by omega)))
        clear p5 hs5 ho5
        go_wp2
        go_ret2
        exact ⟨_, _, xs, ys, rfl, HP5.out, HQ5.out, hl, by omega, HB5.out⟩
  · go_wp2_with fail
    refine (l05Draw_any _ _ _ HS3.out (by omega)).mono ?_
    rintro e u5 ⟨v5, ys, rfl, p5, hl5, hs5, ho5⟩
    have HP5 := Lib.hid (Ints.base (HP3.out.chg (chgOnly ho5) (fun j hj e => by have := (ownsLt HP3.out j hj).1; omega)) (B' := w.heap.size) (by omega))
    have HQ5 := Lib.hid (Ints.base p5 (B' := w.heap.size) (by omega))
    have HB5 := Lib.hid (HB1.out.trans ((HO3.out.trans ho5).below (Nat.le_refl _) (by omega)))
    clear p5 hs5 ho5
    go_wp2
    go_ret2
    exact ⟨_, _, xs, ys, rfl, HP5.out, HQ5.out, hl, hl5, HB5.out⟩

set_option maxHeartbeats 1000000 in
/-- spec.DrawJoinLoops. -/
theorem drawJoin_any (a : Option Addr) (len cap : Nat) (zs : List Int) (w : World) (hr : Row w a len cap zs) :
    Calls Try.prog 55 #[.slice a len cap] w (TwoR w) := by
  have HR := Lib.hid hr
  clear hr
  go_enter Try.func55, Try.ntmps55
  go_wp2_with fail
  refine (fromS a len cap zs _ HR.out).mono ?_
  rintro e u1 ⟨rfl, hs1, hb1, hz1⟩
  have HS1 := Lib.hid hs1
  have HB1 := Lib.hid hb1
  clear hs1 hb1
  go_wp2_with fail
  refine (l05Draw_any _ 0 _ HS1.out (by omega)).mono ?_
  rintro e u2 ⟨v, xs, rfl, p2, hl, hs2, ho2⟩
  have HP2 := Lib.hid p2
  have HS2 := Lib.hid hs2
  have HO2 := Lib.hid ho2
  clear p2 hs2 ho2 HS1
  go_wp2_with fail
  refine (oneS 12 _ _ _ (by omega) (by omega) HS2.out (by omega)).mono ?_
  rintro e u3 ⟨t1, rfl, hs3, ho3⟩
  have HP3 := Lib.hid (HP2.out.chg (chgOnly ho3) (fun j hj e => by have := (ownsLt HP2.out j hj).1; omega))
  have HS3 := Lib.hid hs3
  have HO3 := Lib.hid (HO2.out.trans ho3)
  clear hs3 ho3 HS2 HO2 HP2
  have hz3 := HO3.out.size
  cases t1
  · go_wp2_with fail
    refine (l05Draw_any _ _ _ HS3.out (by omega)).mono ?_
    rintro e u5 ⟨v5, ys, rfl, p5, hl5, hs5, ho5⟩
    have HP5 := Lib.hid (Ints.base (HP3.out.chg (chgOnly ho5) (fun j hj e => by have := (ownsLt HP3.out j hj).1; omega)) (B' := w.heap.size) (by omega))
    have HQ5 := Lib.hid (Ints.base p5 (B' := w.heap.size) (by omega))
    have HB5 := Lib.hid (HB1.out.trans ((HO3.out.trans ho5).below (Nat.le_refl _) (by omega)))
    clear p5 hs5 ho5
    go_wp2
    go_ret2
    exact ⟨_, _, xs, ys, rfl, HP5.out, HQ5.out, hl, hl5, HB5.out⟩
  · go_wp2_with fail
    refine (l05New_any 20 _ _ _ (by omega) HS3.out (by omega)).mono ?_
    rintro e u4 ⟨v4, ys, rfl, p4, hl4, hs4, ho4⟩
    have HP4 := Lib.hid p4
    have HS4 := Lib.hid hs4
    have HO4 := Lib.hid (HO3.out.trans ho4)
    have hz4 := HO4.out.size
    clear p4 hs4 ho4
    go_wp2_with fail
    refine (pickS 2 _ _ _ (by omega) (by omega) HS4.out (by omega)).mono ?_
    rintro e u5 ⟨y, y0, y1, rfl, hs5, ho5⟩
    have HP5 := Lib.hid (HP4.out.chg (chgOnly ho5) (fun j hj e => by have := (ownsLt HP4.out j hj).1; omega))
    have HS5 := Lib.hid hs5
    have HO5 := Lib.hid (HO4.out.trans ho5)
    have hz5 := HO5.out.size
    clear hs5 ho5
    obtain ⟨q, rfl⟩ : ∃ q : Nat, y = q := ⟨y.toNat, by omega⟩
    have hw1 : IntKind.i64.wrap (18 + (q : Int)) = 18 + (q : Int) := IntWalk.i64_in _ (by omega)
    go_wp2_with fail
    rw [show (18 + (q : Int)) = ((18 + q : Nat) : Int) by omega]
    refine (l05New_any (18 + q) _ _ _ (by omega) HS5.out (by omega)).mono ?_
    rintro e u6 ⟨v6, xs6, rfl, p6, hl6, hs6, ho6⟩
    have HP6 := Lib.hid (Ints.base (HP5.out.chg (chgOnly ho6) (fun j hj e => by have := (ownsLt HP5.out j hj).1; omega)) (B' := w.heap.size) (by omega))
    have HQ6 := Lib.hid (Ints.base p6 (B' := w.heap.size) (by omega))
    have HB6 := Lib.hid (HB1.out.trans ((HO5.out.trans ho6).below (Nat.le_refl _) (by omega)))
    clear p6 hs6 ho6
    go_wp2
    go_ret2
    exact ⟨_, _, ys, xs6, rfl, HP6.out, HQ6.out, by omega, by omega, HB6.out⟩

end Go.Proofs.Ytfbdeeobmjndlaa
