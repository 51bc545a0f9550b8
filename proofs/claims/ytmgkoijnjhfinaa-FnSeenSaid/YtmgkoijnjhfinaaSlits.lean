/- Slits for a drift: in the program and in the model; and the statement's own walk. -/
import Derived.Test.YtmgkoijnjhfinaaProg
import Derived.Test.YtmgkoijnjhfinaaOrderLaw
import Derived.Test.YtmgkoijnjhfinaaDrift
import Derived.Deep.RegionWith
import Derived.Deep.DrawnRows
import Derived.Laws.StructEq
import Derived.BigRegion
import Derived.ChangeAlike
import Derived.Deep.RegionHeld3
import Derived.Deep.DeepCutAuto
import Derived.Laws.AppendOwn
import Derived.Laws.OwnMore
import Derived.OwnWalk
import Derived.Tactics
import Derived.Tactics2
import Derived.WalkKit
import Derived.LoopTactic
import Derived.BigQuiet
import Derived.RegionTactic
import Derived.Deep.QuietTactic
import Derived.Outline
import Derived.Lib.Hide
import Derived.Below
import Derived.KernelRfl
namespace Go.Proofs.Ytmgkoijnjhfinaa
set_option linter.unusedSimpArgs false
set_option linter.unusedVariables false
open Go.RowKit
attribute [local go_sem ↓] Go.wp_at_zero Go.wp_at_succ
attribute [local go_sem ↓] eql_fr

/-- These slits have the drift x / y. -/
def hasDr (p x y s : Int) : Bool := drN p s == x && drD p s == y
/-- Those of the first numbers of slits that have the drift. -/
def slTo (p x y : Int) (k : Nat) : List Int := ((List.range k).map fun j : Nat => ((j + 1 : Nat) : Int)).filter fun s => hasDr p x y s
theorem slTo_has (p x y : Int) (k : Nat) (h : hasDr p x y ((k + 1 : Nat) : Int) = true) : slTo p x y (k + 1) = slTo p x y k ++ [((k + 1 : Nat) : Int)] := by
  unfold slTo
  rw [List.range_succ, List.map_append, List.filter_append]
  simp only [List.map_cons, List.map_nil, List.filter_cons, h, List.filter_nil, if_true]
theorem slTo_lacks (p x y : Int) (k : Nat) (h : hasDr p x y ((k + 1 : Nat) : Int) = false) : slTo p x y (k + 1) = slTo p x y k := by
  unfold slTo
  rw [List.range_succ, List.map_append, List.filter_append]
  simp only [List.map_cons, List.map_nil, List.filter_cons, h, List.filter_nil, Bool.false_eq_true, if_false, List.append_nil]
theorem bUndrew {w u : World} (h : Below w.drew.heap.size w.drew u) : Below w.heap.size w u := ⟨h.os, h.tape, h.output, h.size, h.block⟩
theorem owns_below {w u : World} {B : Nat} {e : TypeId} {z : Nat} {v : Value} {n : Nat} {xs : List Value} (h : w.ownsRow B e z v n xs) (hb : Below w.heap.size w u) : u.ownsRow B e z v n xs := by
  cases hv : v.ownBlock with
  | none => exact World.ownsRow.kept h (grownNone hb none) (.inl hv)
  | some k => exact World.ownsRow.kept h (grownNone hb none) (.inr (by rw [hv]; simp))
theorem slTo_length (p x y : Int) (k : Nat) : (slTo p x y k).length ≤ k := by
  unfold slTo
  refine Nat.le_trans (List.length_filter_le _ _) ?_
  simp

theorem implSlits_bad (p x y : Int) (w : World) (hx : I64 x) (h : okB x y = false) :
    Calls Try.prog 26 #[.int .i64 p, fr x y] w fun e w' => ∃ v, e = .returned (.tuple #[v, .int .i64 1]) ∧ Ints w' w.heap.size v [] ∧ Below w.heap.size w w' := by
  obtain ⟨w1, w2⟩ := hx
  go_enter Try.func26, Try.ntmps26
  go_wp2_with fail
  refine (validFraction_any _ _ _).mono ?_
  rintro e u ⟨rfl, hb⟩
  go_wp2_with fail
  go_ret2
  exact ⟨_, rfl, ints_nil _ _, bTrans (bAlloc (Below.refl _ _) _) hb⟩

theorem implSlits_range (p x y : Int) (w : World) (h : okB x y = true) (hp : inB p 1 48 = false) :
    Calls Try.prog 26 #[.int .i64 p, fr x y] w fun e w' => ∃ v, e = .returned (.tuple #[v, .int .i64 2]) ∧ Ints w' w.heap.size v [] ∧ Below w.heap.size w w' := by
  have k1 := okB_bd h
  go_enter Try.func26, Try.ntmps26
  go_wp2_with fail
  refine (validFraction_any _ _ _).mono ?_
  rintro e u ⟨rfl, hb⟩
  go_wp2_with fail
  refine (isOnDisc_any _ _).mono ?_
  rintro e u2 ⟨rfl, rfl⟩
  go_wp2_with fail
  go_ret2
  exact ⟨_, rfl, ints_nil _ _, bTrans (bAlloc (Below.refl _ _) _) hb⟩

set_option maxHeartbeats 4000000 in
theorem implSlits_yes (p x y : Int) (w : World) (h : okB x y = true) (hp : inB p 1 48 = true) :
    Calls Try.prog 26 #[.int .i64 p, fr x y] w fun e w' => ∃ v, e = .returned (.tuple #[v, .int .i64 0]) ∧ Ints w' w.heap.size v (slTo p x y 48) ∧ Below w.heap.size w w' := by
  have k1 := okB_bd h
  obtain ⟨i0, hi, hz0, hz1, hz2⟩ := info_parts infoInt
  have D := Lib.hid (fun (k : Nat) (hk : k < 48) (w : World) => driftOf_dr p ((k + 1 : Nat) : Int) w (by unfold discB; rw [hp, inB_iff.2 (by omega)]; rfl))
  go_enter Try.func26, Try.ntmps26
  go_wp2_with fail
  refine (validFraction_any _ _ _).mono ?_
  rintro e u1 ⟨rfl, hb1⟩
  have B0 : Bk u1 w.heap.size x y := bkOf hb1 (by refine ⟨?_, ?_, ?_, ?_, ?_⟩ <;> go_simp)
  have HB1 : Hid (Below w.heap.size w u1) := Lib.hid (bTrans (bAlloc (Below.refl _ _) _) hb1)
  have hz := hb1.size
  have BB := Lib.hid B0
  clear hb1 B0
  go_wp2_with fail
  refine (isOnDisc_any _ _).mono ?_
  rintro e u2 ⟨rfl, rfl⟩
  have hzz := HB1.out.size
  go_wp2
  go_loopw [7, 6] (fun i v wr => ∃ k : Nat, k ≤ 48 ∧ i = .int .i64 ((k + 1 : Nat) : Int) ∧ Hid (wr.ownsRow u1.heap.size 2 1 v (slTo p x y k).length ((slTo p x y k).map (Value.int .i64))) ∧ Hid (Below u1.heap.size u1 wr)) (fun i _ _ => 60 - (intOf i).toNat)
  case atStart => exact ⟨0, by omega, rfl, Lib.hid (World.ownsRow_nil _ _ _ _), Lib.hid (Below.refl _ _)⟩
  case round =>
    obtain ⟨k, hk, rfl, HO, HB⟩ := hrel
    have hml := slTo_length p x y k
    have hbz := HB.out.size
    by_cases hlt : k < 48
    · have C := Lib.hid (D.out k hlt)
      have B0 := bkOf HB.out BB.out
      obtain ⟨c0, c1, f0, f1, z0⟩ := B0
      have hcast : ((k + 1 : Nat) : Int) = (k : Int) + 1 := by omega
      have HS := Lib.hid (show hasDr p x y ((k + 1 : Nat) : Int) = (drN p ((k + 1 : Nat) : Int) == x && drD p ((k + 1 : Nat) : Int) == y) from rfl)
      have HY := Lib.hid (slTo_has p x y k)
      have HN := Lib.hid (slTo_lacks p x y k)
      generalize drN p ((k + 1 : Nat) : Int) = a at *
      generalize drD p ((k + 1 : Nat) : Int) = b at *
      cases hh : (a == x && b == y)
      · have HN' := Lib.hid (HN.out (HS.out.trans hh))
        go_wp2
        go_region_held3 (fun w' => w'.cell? ⟨w.heap.size, 0, none⟩ = some (.int .i64 x) ∧ w'.cell? ⟨w.heap.size, 1, none⟩ = some (.int .i64 y)) (go_keep)
          (first | (go_at_call 56; refine (C.out _).mono ?_; rintro e w2 ⟨rfl, hb2⟩; obtain ⟨hc2, hf2⟩ := bCells hb2; have e0 : w2.cell? ⟨w.heap.size, 0, none⟩ = some (.int .i64 x) := (hc2 _ _ (by first | exact z0 | simpa using z0)).trans (by first | exact c0 | simpa using c0); have e1 : w2.cell? ⟨w.heap.size, 1, none⟩ = some (.int .i64 y) := (hc2 _ _ (by first | exact z0 | simpa using z0)).trans (by first | exact c1 | simpa using c1)))
        all_goals go_wp2
        go_roundw
        case rel =>
          have hb3 : Below wr.heap.size wr w2 := bUndrew hb2
          exact ⟨k + 1, by omega, by go_num, Lib.hid (by rw [HN'.out]; exact owns_below HO.out hb3), Lib.hid (by first | exact HB.out.trans (hb3.mono hbz) | exact Below.drew (HB.out.trans (hb3.mono hbz)))⟩
        case measure => simp [intOf]; omega
      · have HY' := Lib.hid (HY.out (HS.out.trans hh))
        go_wp2
        go_region_held3 (fun w' => w'.cell? ⟨w.heap.size, 0, none⟩ = some (.int .i64 x) ∧ w'.cell? ⟨w.heap.size, 1, none⟩ = some (.int .i64 y)) (go_keep)
          (first | (go_at_call 56; refine (C.out _).mono ?_; rintro e w2 ⟨rfl, hb2⟩; obtain ⟨hc2, hf2⟩ := bCells hb2; have e0 : w2.cell? ⟨w.heap.size, 0, none⟩ = some (.int .i64 x) := (hc2 _ _ (by first | exact z0 | simpa using z0)).trans (by first | exact c0 | simpa using c0); have e1 : w2.cell? ⟨w.heap.size, 1, none⟩ = some (.int .i64 y) := (hc2 _ _ (by first | exact z0 | simpa using z0)).trans (by first | exact c1 | simpa using c1)))
        all_goals go_wp2_with (first | (at_builtin; refine wpList_append_own _ rfl _ _ 26 rfl u1.heap.size 2 i0 (.int .i64 0) 1 8 Try.underlying26 hi hz0 hz1 hz2 rfl (by decide) _ _ _ rfl ((owns_below HO.out (bUndrew hb2)).alloc _) ⟨w2.heap.size, 0, none⟩ 1 1 [.int .i64 ((k + 1 : Nat) : Int)] rfl rfl (one_new _ _ _) (ints_oneCell .i64 [((k + 1 : Nat) : Int)]) (by unfold maxLen; omega) (by omega) (by have := (bUndrew hb2).size; simp; omega) ?_; intro v' w3 hown' hgrow hnil))
        have hb3 : Below wr.heap.size wr w2 := bUndrew hb2
        have HO' := Lib.hid hown'
        have HB' := Lib.hid (Below.grown (bAlloc (a := u1) (HB.out.trans (hb3.mono hbz)) _) hgrow (by have := hb3.size; simp; omega) (fun j hj => (World.ownsRow.lt HO.out j hj).1))
        clear hown' hgrow hnil
        go_wp2
        go_roundw
        case rel => exact ⟨k + 1, by omega, by go_num, Lib.hid (by rw [HY'.out, List.map_append, List.length_append]; exact HO'.out), HB'⟩
        case measure => simp [intOf]; omega
    · have : k = 48 := by omega
      subst this
      go_wp2
      go_ret2
      exact ⟨_, rfl, ⟨HO.out.1, HO.out.2.imp id (fun ⟨a, b, c, d, e, f⟩ => ⟨a, b, c, d, Nat.le_trans hzz e, f⟩)⟩, HB1.out.trans (HB.out.mono hzz)⟩

theorem specSlits_bad (p x y : Int) (w : World) (hx : I64 x) (h : okB x y = false) :
    Calls Try.prog 48 #[.int .i64 p, fr x y] w fun e w' => ∃ v, e = .returned (.tuple #[v, .int .i64 1]) ∧ Ints w' w.heap.size v [] ∧ Below w.heap.size w w' := by
  obtain ⟨w1, w2⟩ := hx
  go_enter Try.func48, Try.ntmps48
  go_wp2_with fail
  refine (l02Ok_any _ _ _ (by omega) (by omega)).mono ?_
  rintro e u ⟨rfl, hb⟩
  go_wp2_with fail
  go_ret2
  exact ⟨_, rfl, ints_nil _ _, bTrans (bAlloc (Below.refl _ _) _) hb⟩

theorem specSlits_range (p x y : Int) (w : World) (h : okB x y = true) (hp : inB p 1 48 = false) :
    Calls Try.prog 48 #[.int .i64 p, fr x y] w fun e w' => ∃ v, e = .returned (.tuple #[v, .int .i64 2]) ∧ Ints w' w.heap.size v [] ∧ Below w.heap.size w w' := by
  have k1 := okB_bd h
  go_enter Try.func48, Try.ntmps48
  go_wp2_with fail
  refine (l02Ok_any _ _ _ (by omega) (by omega)).mono ?_
  rintro e u ⟨rfl, hb⟩
  go_wp2_with fail
  refine (l03Many_any _ _).mono ?_
  rintro e u2 ⟨rfl, rfl⟩
  go_wp2_with fail
  go_ret2
  exact ⟨_, rfl, ints_nil _ _, bTrans (bAlloc (Below.refl _ _) _) hb⟩

set_option maxHeartbeats 4000000 in
theorem specSlits_yes (p x y : Int) (w : World) (h : okB x y = true) (hp : inB p 1 48 = true) :
    Calls Try.prog 48 #[.int .i64 p, fr x y] w fun e w' => ∃ v, e = .returned (.tuple #[v, .int .i64 0]) ∧ Ints w' w.heap.size v (slTo p x y 48) ∧ Below w.heap.size w w' := by
  have k1 := okB_bd h
  obtain ⟨i0, hi, hz0, hz1, hz2⟩ := info_parts infoInt
  have D := Lib.hid (fun (k : Nat) (hk : k < 48) (w : World) => l03Drift_any p ((k + 1 : Nat) : Int) w (by unfold discB; rw [hp, inB_iff.2 (by omega)]; rfl))
  go_enter Try.func48, Try.ntmps48
  go_wp2_with fail
  refine (l02Ok_any _ _ _ (by omega) (by omega)).mono ?_
  rintro e u1 ⟨rfl, hb1⟩
  have B0 : Bk u1 w.heap.size x y := bkOf hb1 (by refine ⟨?_, ?_, ?_, ?_, ?_⟩ <;> go_simp)
  have HB1 : Hid (Below w.heap.size w u1) := Lib.hid (bTrans (bAlloc (Below.refl _ _) _) hb1)
  have hz := hb1.size
  have BB := Lib.hid B0
  clear hb1 B0
  go_wp2_with fail
  refine (l03Many_any _ _).mono ?_
  rintro e u2 ⟨rfl, rfl⟩
  have hzz := HB1.out.size
  go_wp2
  go_loopw [7, 6] (fun i v wr => ∃ k : Nat, k ≤ 48 ∧ i = .int .i64 ((k + 1 : Nat) : Int) ∧ Hid (wr.ownsRow u1.heap.size 2 1 v (slTo p x y k).length ((slTo p x y k).map (Value.int .i64))) ∧ Hid (Below u1.heap.size u1 wr)) (fun i _ _ => 60 - (intOf i).toNat)
  case atStart => exact ⟨0, by omega, rfl, Lib.hid (World.ownsRow_lit u1 #[] 0 (Nat.le_refl _) (Nat.zero_le _) rfl), Lib.hid (bAlloc (Below.refl _ _) _)⟩
  case round =>
    obtain ⟨k, hk, rfl, HO, HB⟩ := hrel
    have hml := slTo_length p x y k
    have hbz := HB.out.size
    by_cases hlt : k < 48
    · have C := Lib.hid (D.out k hlt)
      have B0 := bkOf HB.out BB.out
      obtain ⟨c0, c1, f0, f1, z0⟩ := B0
      have hcast : ((k + 1 : Nat) : Int) = (k : Int) + 1 := by omega
      have HS := Lib.hid (show hasDr p x y ((k + 1 : Nat) : Int) = (drN p ((k + 1 : Nat) : Int) == x && drD p ((k + 1 : Nat) : Int) == y) from rfl)
      have HY := Lib.hid (slTo_has p x y k)
      have HN := Lib.hid (slTo_lacks p x y k)
      generalize drN p ((k + 1 : Nat) : Int) = a at *
      generalize drD p ((k + 1 : Nat) : Int) = b at *
      cases hh : (a == x && b == y)
      · have HN' := Lib.hid (HN.out (HS.out.trans hh))
        go_wp2
        go_region_held3 (fun w' => w'.cell? ⟨w.heap.size, 0, none⟩ = some (.int .i64 x) ∧ w'.cell? ⟨w.heap.size, 1, none⟩ = some (.int .i64 y)) (go_keep)
          (first | (go_at_call 60; refine (C.out _).mono ?_; rintro e w2 ⟨rfl, hb2⟩; obtain ⟨hc2, hf2⟩ := bCells hb2; have e0 : w2.cell? ⟨w.heap.size, 0, none⟩ = some (.int .i64 x) := (hc2 _ _ (by first | exact z0 | simpa using z0)).trans (by first | exact c0 | simpa using c0); have e1 : w2.cell? ⟨w.heap.size, 1, none⟩ = some (.int .i64 y) := (hc2 _ _ (by first | exact z0 | simpa using z0)).trans (by first | exact c1 | simpa using c1)))
        all_goals go_wp2
        go_roundw
        case rel =>
          have hb3 : Below wr.heap.size wr w2 := bUndrew hb2
          exact ⟨k + 1, by omega, by go_num, Lib.hid (by rw [HN'.out]; exact owns_below HO.out hb3), Lib.hid (by first | exact HB.out.trans (hb3.mono hbz) | exact Below.drew (HB.out.trans (hb3.mono hbz)))⟩
        case measure => simp [intOf]; omega
      · have HY' := Lib.hid (HY.out (HS.out.trans hh))
        go_wp2
        go_region_held3 (fun w' => w'.cell? ⟨w.heap.size, 0, none⟩ = some (.int .i64 x) ∧ w'.cell? ⟨w.heap.size, 1, none⟩ = some (.int .i64 y)) (go_keep)
          (first | (go_at_call 60; refine (C.out _).mono ?_; rintro e w2 ⟨rfl, hb2⟩; obtain ⟨hc2, hf2⟩ := bCells hb2; have e0 : w2.cell? ⟨w.heap.size, 0, none⟩ = some (.int .i64 x) := (hc2 _ _ (by first | exact z0 | simpa using z0)).trans (by first | exact c0 | simpa using c0); have e1 : w2.cell? ⟨w.heap.size, 1, none⟩ = some (.int .i64 y) := (hc2 _ _ (by first | exact z0 | simpa using z0)).trans (by first | exact c1 | simpa using c1)))
        all_goals go_wp2_with (first | (at_builtin; refine wpList_append_own _ rfl _ _ 26 rfl u1.heap.size 2 i0 (.int .i64 0) 1 8 Try.underlying26 hi hz0 hz1 hz2 rfl (by decide) _ _ _ rfl ((owns_below HO.out (bUndrew hb2)).alloc _) ⟨w2.heap.size, 0, none⟩ 1 1 [.int .i64 ((k + 1 : Nat) : Int)] rfl rfl (one_new _ _ _) (ints_oneCell .i64 [((k + 1 : Nat) : Int)]) (by unfold maxLen; omega) (by omega) (by have := (bUndrew hb2).size; simp; omega) ?_; intro v' w3 hown' hgrow hnil))
        have hb3 : Below wr.heap.size wr w2 := bUndrew hb2
        have HO' := Lib.hid hown'
        have HB' := Lib.hid (Below.grown (bAlloc (a := u1) (HB.out.trans (hb3.mono hbz)) _) hgrow (by have := hb3.size; simp; omega) (fun j hj => (World.ownsRow.lt HO.out j hj).1))
        clear hown' hgrow hnil
        go_wp2
        go_roundw
        case rel => exact ⟨k + 1, by omega, by go_num, Lib.hid (by rw [HY'.out, List.map_append, List.length_append]; exact HO'.out), HB'⟩
        case measure => simp [intOf]; omega
    · have : k = 48 := by omega
      subst this
      go_wp2
      go_ret2
      exact ⟨_, rfl, ⟨HO.out.1, HO.out.2.imp id (fun ⟨a, b, c, d, e, f⟩ => ⟨a, b, c, d, Nat.le_trans hzz e, f⟩)⟩, HB1.out.trans (HB.out.mono hzz)⟩

set_option maxRecDepth 20000 in
theorem lawSlitsForDrift_of (a0 n1 d1 z : Int) (zs : List Int) (w : World) (hl : zs.length ≤ 1000)
    (hs : ∀ w : World, Calls Try.prog 48 #[.int .i64 a0, fr n1 d1] w fun e w' => ∃ v, e = .returned (.tuple #[v, .int .i64 z]) ∧ Ints w' w.heap.size v zs ∧ Below w.heap.size w w')
    (hi : ∀ w : World, Calls Try.prog 26 #[.int .i64 a0, fr n1 d1] w fun e w' => ∃ v, e = .returned (.tuple #[v, .int .i64 z]) ∧ Ints w' w.heap.size v zs ∧ Below w.heap.size w w') :
    Calls Try.prog 14 #[.int .i64 a0, fr n1 d1] w fun e w' => e = .returned (.bool true) ∧ Below w.heap.size w w' := by
  have S := Lib.hid hs
  have I := Lib.hid hi
  clear hs hi
  go_enter Try.func14, Try.ntmps14
  go_wp2_with fail
  refine (toFraction_any _ _ _).mono ?_
  rintro e t1 ⟨rfl, hc1⟩
  have B0 : Bk t1 w.heap.size n1 d1 := bkOf hc1 (by refine ⟨?_, ?_, ?_, ?_, ?_⟩ <;> go_simp)
  have M1 : Below w.heap.size w t1 := bTrans (bAlloc (Below.refl _ _) _) hc1
  clear hc1
  go_wp2_with fail
  refine (S.out _).mono ?_
  rintro e u1 ⟨v1, rfl, i1, hb1⟩
  have B0 := bkOf hb1 B0
  have hz1 : w.heap.size < u1.heap.size := B0.2.2.2.2
  have L1 : Below w.heap.size w u1 := bTrans M1 hb1
  have I1 : Hid (Ints u1 w.heap.size v1 zs) := Lib.hid ⟨i1.1, i1.2.imp id (fun ⟨g, cap, cur, h1, h2, h3⟩ => ⟨g, cap, cur, h1, Nat.le_trans M1.size h2, h3⟩)⟩
  clear i1 hb1 M1
  have B0' := B0
  obtain ⟨c0, c1, f0, f1, z0⟩ := B0'
  go_wp2_with fail
  refine (toFraction_any _ _ _).mono ?_
  rintro e t2 ⟨rfl, hc2⟩
  have B0 := bkOf hc2 B0
  clear c0 c1 f0 f1 z0
  go_wp2_with fail
  refine (I.out _).mono ?_
  rintro e u2 ⟨v2, rfl, i2, hb2⟩
  have B0 := bkOf hb2 B0
  have hb2 : Below u1.heap.size u1 u2 := bTrans hc2 hb2
  have i2 : Ints u2 u1.heap.size v2 zs := ⟨i2.1, i2.2.imp id (fun ⟨g, cap, cur, h1, h2, h3⟩ => ⟨g, cap, cur, h1, Nat.le_trans hc2.size h2, h3⟩)⟩
  clear hc2
  have J1 := Lib.hid (I1.out.below hb2)
  have I2 := Lib.hid i2
  have L2 : Below w.heap.size w u2 := bTrans L1 hb2
  clear i2
  go_wp2_with fail
  refine (eqInt64S_same _ _ v2 v1 zs _ I2.out J1.out).mono ?_
  rintro e u ⟨rfl, n, rfl⟩
  go_wp2_with fail
  refine (mark1 _ v2 zs _ (I2.out.drewN n) (by omega)).mono ?_
  rintro e u4 ⟨rfl, m4, g4⟩
  have B0 : Bk u4 w.heap.size n1 d1 := by
    have lt := (World.ownsRow.lt I2.out)
    obtain ⟨b1, b2, b3, b4, b5⟩ := bkOf (bDrewN (Below.refl _ _) n) B0
    have hk := g4.block w.heap.size b5 (fun e => by have := (lt _ e.symm).1; omega)
    exact ⟨by rw [World.cell?_of_block hk]; exact b1, by rw [World.cell?_of_block hk]; exact b2, by rw [World.frozen?_of_block hk]; exact b3, by rw [World.frozen?_of_block hk]; exact b4, Nat.lt_of_lt_of_le b5 g4.size⟩
  have L4 : Below w.heap.size w u4 := Below.grown (bDrewN L2 n) g4 (bDrewN L2 n).size (fun k hk => by have := (World.ownsRow.lt I2.out k hk).1; have := L1.size; omega)
  have K1 : Hid (Ints u4 w.heap.size v1 zs) := Lib.hid (World.ownsRow.kept (J1.out.drewN n) g4 (by
    cases h1 : v1.ownBlock with
    | none => exact .inl rfl
    | some k =>
      refine .inr (fun e => ?_)
      have q1 := (World.ownsRow.lt I1.out k h1).2
      have q2 := (World.ownsRow.lt I2.out k e.symm).1
      omega))
  have M4 := Lib.hid m4
  clear m4 g4
  go_wp2_with fail
  refine (held1 _ zs.length v2 _ M4.out (by omega)).mono ?_
  rintro e u ⟨rfl, rfl⟩
  have B0' := B0
  obtain ⟨c0, c1, f0, f1, z0⟩ := B0'
  go_wp2_with fail
  refine (toFraction_any _ _ _).mono ?_
  rintro e t5 ⟨rfl, hc5⟩
  clear c0 c1 f0 f1 z0
  go_wp2_with fail
  refine (I.out _).mono ?_
  rintro e u6 ⟨v3, rfl, i6, hb6⟩
  have hb6 : Below u4.heap.size u4 u6 := bTrans hc5 hb6
  clear hc5
  have N1 := Lib.hid (K1.out.below hb6)
  have N2 := Lib.hid (M4.out.below hb6)
  have I6 := Lib.hid i6
  clear i6
  go_wp2_with fail
  refine (eqInt64S_same _ _ v3 v1 zs _ I6.out N1.out).mono ?_
  rintro e u ⟨rfl, n2, rfl⟩
  go_wp2_with fail
  refine (held1 _ zs.length v2 _ (N2.out.drewN n2) (by omega)).mono ?_
  rintro e u ⟨rfl, rfl⟩
  go_wp2_with fail
  go_ret
  exact ⟨rfl, bDrewN (bTrans L4 hb6) n2⟩


/-- laws.FnExactSlitsForDrift. -/
theorem law_SlitsForDrift (p x y : Int) (w : World) (_hp : I64 p) (hx : I64 x) (_hy : I64 y) :
    Calls Try.prog 14 #[.int .i64 p, fr x y] w fun e w' => e = .returned (.bool true) ∧ Below w.heap.size w w' := by
  cases h : okB x y
  · exact lawSlitsForDrift_of p x y 1 [] w (by simp) (fun w => specSlits_bad p x y w hx h) (fun w => implSlits_bad p x y w hx h)
  · cases hp : inB p 1 48
    · exact lawSlitsForDrift_of p x y 2 [] w (by simp) (fun w => specSlits_range p x y w h hp) (fun w => implSlits_range p x y w h hp)
    · have hl := slTo_length p x y 48
      exact lawSlitsForDrift_of p x y 0 _ w (by omega) (fun w => specSlits_yes p x y w h hp) (fun w => implSlits_yes p x y w h hp)

end Go.Proofs.Ytmgkoijnjhfinaa
