/- The statements on places around a drum: their own walks. -/
import Derived.Test.YthphihfcgpoefaaProg
import Derived.Test.YthphihfcgpoefaaDrum
import Derived.Test.YthphihfcgpoefaaLoopMath
import Derived.Test.YthphihfcgpoefaaInts
import Derived.Test.YthphihfcgpoefaaNear
import Derived.Test.YthphihfcgpoefaaPlaces
import Derived.Test.YthphihfcgpoefaaLoop2
import Derived.Test.YthphihfcgpoefaaLoop3
import Derived.Deep.AppendLies
import Derived.IntWalk
import Derived.WalkSpells
import Derived.OwnWalk
import Derived.Laws.AppendOwn
import Derived.Laws.OwnMore
import Derived.Laws.Cover1
import Derived.Deep.RegionWith
import Derived.Deep.DrawnRows
import Derived.Deep.RegionHeld3
import Derived.Tactics
import Derived.Tactics2
import Derived.WalkKit
import Derived.LoopTactic
import Derived.BigQuiet
import Derived.RegionTactic
import Derived.Deep.QuietTactic
import Derived.Outline
import Derived.Lib.Hide
import Derived.Below
import Derived.KernelRfl
namespace Go.Proofs.Ythphihfcgpoefaa
set_option linter.unusedSimpArgs false
set_option linter.unusedVariables false
open Go.RowKit

set_option maxHeartbeats 1000000 in
set_option maxRecDepth 100000 in
theorem lawPlacesOf_of (r h s a1 z : Int) (zs : List Int) (w : World) (hl : zs.length ≤ 1000)
    (hs : ∀ w : World, Calls Try.prog 18 #[dr r h s, .int .i64 a1] w fun e w' => ∃ v, e = .returned (.tuple #[v, .int .i64 z]) ∧ Ints w' w.heap.size v zs ∧ Below w.heap.size w w')
    (hi : ∀ w : World, Calls Try.prog 19 #[dr r h s, .int .i64 a1] w fun e w' => ∃ v, e = .returned (.tuple #[v, .int .i64 z]) ∧ Ints w' w.heap.size v zs ∧ Below w.heap.size w w') :
    Calls Try.prog 5 #[dr r h s, .int .i64 a1] w fun e w' => e = .returned (.bool true) ∧ Below w.heap.size w w' := by
  have S := Lib.hid hs
  have I := Lib.hid hi
  clear hs hi
  go_enter Try.func5, Try.ntmps5
  go_wp2_with fail
  refine (toDrum_any _ _ _ _).mono ?_
  rintro e t1 ⟨rfl, hc1⟩
  have B0 : Bd t1 w.heap.size r h s := Bd.below (by refine ⟨?_, ?_, ?_, ?_⟩ <;> go_simp) hc1
  have M1 : Below w.heap.size w t1 := bTrans (bAlloc (Below.refl _ _) _) hc1
  clear hc1
  go_wp2_with fail
  refine (S.out _).mono ?_
  rintro e u1 ⟨v1, rfl, i1, hb1⟩
  have B0 := B0.below hb1
  have hz1 : w.heap.size < u1.heap.size := B0.lt
  have L1 : Below w.heap.size w u1 := bTrans M1 hb1
  have I1 : Hid (Ints u1 w.heap.size v1 zs) := Lib.hid ⟨i1.1, i1.2.imp id (fun ⟨g, cap, cur, h1, h2, h3⟩ => ⟨g, cap, cur, h1, Nat.le_trans M1.size h2, h3⟩)⟩
  clear i1 hb1 M1
  have B0' := B0
  obtain ⟨c0, c1, f0, z0⟩ := B0'
  go_wp2_with fail
  refine (toDrum_any _ _ _ _).mono ?_
  rintro e t2 ⟨rfl, hc2⟩
  have B0 := B0.below hc2
  clear c0 c1 f0 z0
  go_wp2_with fail
  refine (I.out _).mono ?_
  rintro e u2 ⟨v2, rfl, i2, hb2⟩
  have B0 := B0.below hb2
  have hb2 : Below u1.heap.size u1 u2 := bTrans hc2 hb2
  have i2 : Ints u2 u1.heap.size v2 zs := ⟨i2.1, i2.2.imp id (fun ⟨g, cap, cur, h1, h2, h3⟩ => ⟨g, cap, cur, h1, Nat.le_trans hc2.size h2, h3⟩)⟩
  clear hc2
  have J1 := Lib.hid (I1.out.below hb2)
  have I2 := Lib.hid i2
  have L2 : Below w.heap.size w u2 := bTrans L1 hb2
  clear i2
  go_wp2_with fail
  refine (eqInt64S_same _ _ v2 v1 zs _ I2.out J1.out).mono ?_
  rintro e u ⟨rfl, n, rfl⟩
  go_wp2_with fail
  refine (mark1 _ v2 zs _ (I2.out.drewN n) (by omega)).mono ?_
  rintro e u4 ⟨rfl, m4, g4⟩
  have B0 : Bd u4 w.heap.size r h s := by
    have lt := (World.ownsRow.lt I2.out)
    obtain ⟨b1, b2, b3, b5⟩ := B0
    have hk := g4.block w.heap.size b5 (fun e => by have := (lt _ e.symm).1; omega)
    exact ⟨by rw [World.cell?_of_block hk]; exact b1, by rw [World.cell?_of_block hk]; exact b2, by rw [World.cell?_of_block hk]; exact b3, Nat.lt_of_lt_of_le b5 g4.size⟩
  have L4 : Below w.heap.size w u4 := Below.grown (bDrewN L2 n) g4 (bDrewN L2 n).size (fun k hk => by have := (World.ownsRow.lt I2.out k hk).1; have := L1.size; omega)
  have K1 : Hid (Ints u4 w.heap.size v1 zs) := Lib.hid (World.ownsRow.kept (J1.out.drewN n) g4 (by
    cases h1 : v1.ownBlock with
    | none => exact .inl rfl
    | some k =>
      refine .inr (fun e => ?_)
      have q1 := (World.ownsRow.lt I1.out k h1).2
      have q2 := (World.ownsRow.lt I2.out k e.symm).1
      omega))
  have M4 := Lib.hid m4
  clear m4 g4
  go_wp2_with fail
  refine (held1 _ zs.length v2 _ M4.out (by omega)).mono ?_
  rintro e u ⟨rfl, rfl⟩
  have B0' := B0
  obtain ⟨c0, c1, f0, z0⟩ := B0'
  go_wp2_with fail
  refine (toDrum_any _ _ _ _).mono ?_
  rintro e t5 ⟨rfl, hc5⟩
  clear c0 c1 f0 z0
  go_wp2_with fail
  refine (I.out _).mono ?_
  rintro e u6 ⟨v3, rfl, i6, hb6⟩
  have hb6 : Below u4.heap.size u4 u6 := bTrans hc5 hb6
  clear hc5
  have N1 := Lib.hid (K1.out.below hb6)
  have N2 := Lib.hid (M4.out.below hb6)
  have I6 := Lib.hid i6
  clear i6
  go_wp2_with fail
  refine (eqInt64S_same _ _ v3 v1 zs _ I6.out N1.out).mono ?_
  rintro e u ⟨rfl, n2, rfl⟩
  go_wp2_with fail
  refine (held1 _ zs.length v2 _ (N2.out.drewN n2) (by omega)).mono ?_
  rintro e u ⟨rfl, rfl⟩
  go_wp2_with fail
  go_ret
  exact ⟨rfl, bDrewN (bTrans L4 hb6) n2⟩


set_option maxHeartbeats 1000000 in
set_option maxRecDepth 100000 in
theorem lawSlitPlaces_of (r h s z : Int) (zs : List Int) (w : World) (hl : zs.length ≤ 1000)
    (hs : ∀ w : World, Calls Try.prog 23 #[dr r h s] w fun e w' => ∃ v, e = .returned (.tuple #[v, .int .i64 z]) ∧ Ints w' w.heap.size v zs ∧ Below w.heap.size w w')
    (hi : ∀ w : World, Calls Try.prog 24 #[dr r h s] w fun e w' => ∃ v, e = .returned (.tuple #[v, .int .i64 z]) ∧ Ints w' w.heap.size v zs ∧ Below w.heap.size w w') :
    Calls Try.prog 6 #[dr r h s] w fun e w' => e = .returned (.bool true) ∧ Below w.heap.size w w' := by
  have S := Lib.hid hs
  have I := Lib.hid hi
  clear hs hi
  go_enter Try.func6, Try.ntmps6
  go_wp2_with fail
  refine (toDrum_any _ _ _ _).mono ?_
  rintro e t1 ⟨rfl, hc1⟩
  have B0 : Bd t1 w.heap.size r h s := Bd.below (by refine ⟨?_, ?_, ?_, ?_⟩ <;> go_simp) hc1
  have M1 : Below w.heap.size w t1 := bTrans (bAlloc (Below.refl _ _) _) hc1
  clear hc1
  go_wp2_with fail
  refine (S.out _).mono ?_
  rintro e u1 ⟨v1, rfl, i1, hb1⟩
  have B0 := B0.below hb1
  have hz1 : w.heap.size < u1.heap.size := B0.lt
  have L1 : Below w.heap.size w u1 := bTrans M1 hb1
  have I1 : Hid (Ints u1 w.heap.size v1 zs) := Lib.hid ⟨i1.1, i1.2.imp id (fun ⟨g, cap, cur, h1, h2, h3⟩ => ⟨g, cap, cur, h1, Nat.le_trans M1.size h2, h3⟩)⟩
  clear i1 hb1 M1
  have B0' := B0
  obtain ⟨c0, c1, f0, z0⟩ := B0'
  go_wp2_with fail
  refine (toDrum_any _ _ _ _).mono ?_
  rintro e t2 ⟨rfl, hc2⟩
  have B0 := B0.below hc2
  clear c0 c1 f0 z0
  go_wp2_with fail
  refine (I.out _).mono ?_
  rintro e u2 ⟨v2, rfl, i2, hb2⟩
  have B0 := B0.below hb2
  have hb2 : Below u1.heap.size u1 u2 := bTrans hc2 hb2
  have i2 : Ints u2 u1.heap.size v2 zs := ⟨i2.1, i2.2.imp id (fun ⟨g, cap, cur, h1, h2, h3⟩ => ⟨g, cap, cur, h1, Nat.le_trans hc2.size h2, h3⟩)⟩
  clear hc2
  have J1 := Lib.hid (I1.out.below hb2)
  have I2 := Lib.hid i2
  have L2 : Below w.heap.size w u2 := bTrans L1 hb2
  clear i2
  go_wp2_with fail
  refine (eqInt64S_same _ _ v2 v1 zs _ I2.out J1.out).mono ?_
  rintro e u ⟨rfl, n, rfl⟩
  go_wp2_with fail
  refine (mark1 _ v2 zs _ (I2.out.drewN n) (by omega)).mono ?_
  rintro e u4 ⟨rfl, m4, g4⟩
  have B0 : Bd u4 w.heap.size r h s := by
    have lt := (World.ownsRow.lt I2.out)
    obtain ⟨b1, b2, b3, b5⟩ := B0
    have hk := g4.block w.heap.size b5 (fun e => by have := (lt _ e.symm).1; omega)
    exact ⟨by rw [World.cell?_of_block hk]; exact b1, by rw [World.cell?_of_block hk]; exact b2, by rw [World.cell?_of_block hk]; exact b3, Nat.lt_of_lt_of_le b5 g4.size⟩
  have L4 : Below w.heap.size w u4 := Below.grown (bDrewN L2 n) g4 (bDrewN L2 n).size (fun k hk => by have := (World.ownsRow.lt I2.out k hk).1; have := L1.size; omega)
  have K1 : Hid (Ints u4 w.heap.size v1 zs) := Lib.hid (World.ownsRow.kept (J1.out.drewN n) g4 (by
    cases h1 : v1.ownBlock with
    | none => exact .inl rfl
    | some k =>
      refine .inr (fun e => ?_)
      have q1 := (World.ownsRow.lt I1.out k h1).2
      have q2 := (World.ownsRow.lt I2.out k e.symm).1
      omega))
  have M4 := Lib.hid m4
  clear m4 g4
  go_wp2_with fail
  refine (held1 _ zs.length v2 _ M4.out (by omega)).mono ?_
  rintro e u ⟨rfl, rfl⟩
  have B0' := B0
  obtain ⟨c0, c1, f0, z0⟩ := B0'
  go_wp2_with fail
  refine (toDrum_any _ _ _ _).mono ?_
  rintro e t5 ⟨rfl, hc5⟩
  clear c0 c1 f0 z0
  go_wp2_with fail
  refine (I.out _).mono ?_
  rintro e u6 ⟨v3, rfl, i6, hb6⟩
  have hb6 : Below u4.heap.size u4 u6 := bTrans hc5 hb6
  clear hc5
  have N1 := Lib.hid (K1.out.below hb6)
  have N2 := Lib.hid (M4.out.below hb6)
  have I6 := Lib.hid i6
  clear i6
  go_wp2_with fail
  refine (eqInt64S_same _ _ v3 v1 zs _ I6.out N1.out).mono ?_
  rintro e u ⟨rfl, n2, rfl⟩
  go_wp2_with fail
  refine (held1 _ zs.length v2 _ (N2.out.drewN n2) (by omega)).mono ?_
  rintro e u ⟨rfl, rfl⟩
  go_wp2_with fail
  go_ret
  exact ⟨rfl, bDrewN (bTrans L4 hb6) n2⟩


/-- laws.FnExactPlacesOf. -/
theorem law_PlacesOf (r h s p : Int) (w : World) (_hp : I64 p) :
    Calls Try.prog 5 #[dr r h s, .int .i64 p] w fun e w' => e = .returned (.bool true) ∧ Below w.heap.size w w' := by
  cases h1 : drumB r h s
  · exact lawPlacesOf_of r h s p 1 [] w (by simp) (fun w => specPlacesOf_bad r h s p w h1) (fun w => implPlacesOf_bad r h s p w h1)
  · cases h2 : inB p 1 48
    · exact lawPlacesOf_of r h s p 2 [] w (by simp) (fun w => specPlacesOf_range r h s p w h1 h2) (fun w => implPlacesOf_range r h s p w h1 h2)
    · obtain ⟨p1, p2⟩ := inB_iff.1 h2
      obtain ⟨n, rfl⟩ := Int.eq_ofNat_of_zero_le (show 0 ≤ p by omega)
      exact lawPlacesOf_of r h s n 0 (placesL r n) w (by rw [placesL_length]; omega) (fun w => specPlacesOf_ok r h s n w h1 h2) (fun w => implPlacesOf_ok r h s n w h1 h2)

/-- laws.FnExactSlitPlaces. -/
theorem law_SlitPlaces (r h s : Int) (w : World) :
    Calls Try.prog 6 #[dr r h s] w fun e w' => e = .returned (.bool true) ∧ Below w.heap.size w w' := by
  cases h1 : drumB r h s
  · exact lawSlitPlaces_of r h s 1 [] w (by simp) (fun w => specSlitPlaces_bad r h s w h1) (fun w => implSlitPlaces_bad r h s w h1)
  · obtain ⟨_, _, s1, s2⟩ := drumB_yes h1
    obtain ⟨n, rfl⟩ := Int.eq_ofNat_of_zero_le (show 0 ≤ s by omega)
    exact lawSlitPlaces_of r h n 0 (placesL r n) w (by rw [placesL_length]; omega) (fun w => specSlitPlaces_ok r h n w h1) (fun w => implSlitPlaces_ok r h n w h1)

end Go.Proofs.Ythphihfcgpoefaa
