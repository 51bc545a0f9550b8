/- The pictures that are seen in a turn: the statement's own walk. -/
import Derived.Test.YtmgkoijnjhfinaaProg
import Derived.Test.YtmgkoijnjhfinaaOrder
import Derived.Laws.AppendOwn
import Derived.Laws.OwnMore
import Derived.OwnWalk
import Derived.Tactics
import Derived.Tactics2
import Derived.WalkKit
import Derived.LoopTactic
import Derived.BigQuiet
import Derived.RegionTactic
import Derived.Deep.QuietTactic
import Derived.Outline
import Derived.Lib.Hide
import Derived.Below
import Derived.KernelRfl
namespace Go.Proofs.Ytmgkoijnjhfinaa
set_option linter.unusedSimpArgs false
set_option linter.unusedVariables false
open Go.RowKit

theorem ints_nil (w : World) (B : Nat) : Ints w B (.slice none 0 0) [] := World.ownsRow_nil _ _ _ _

theorem implSeenOrder_no (p s : Int) (w : World) (h : discB p s = false) :
    Calls Try.prog 17 #[.int .i64 p, .int .i64 s] w fun e w' => ∃ v, e = .returned (.tuple #[v, .int .i64 2]) ∧ Ints w' w.heap.size v [] ∧ Below w.heap.size w w' := by
  go_enter Try.func17, Try.ntmps17
  go_wp2_with fail
  refine (isDisc_any _ _ _).mono ?_
  rintro e u ⟨rfl, rfl⟩
  go_wp2_with fail
  go_ret2
  exact ⟨_, rfl, ints_nil _ _, Below.refl _ _⟩

theorem implSeenOrder_yes (p : Int) (n : Nat) (w : World) (h : discB p n = true) :
    Calls Try.prog 17 #[.int .i64 p, .int .i64 n] w fun e w' => ∃ v, e = .returned (.tuple #[v, .int .i64 0]) ∧ Ints w' w.heap.size v (orderTo p n n) ∧ Below w.heap.size w w' := by
  have C := Lib.hid (fun w => seenOrder_any p n w h)
  go_enter Try.func17, Try.ntmps17
  go_wp2_with fail
  refine (isDisc_any _ _ _).mono ?_
  rintro e u ⟨rfl, rfl⟩
  go_wp2_with fail
  refine (C.out _).mono ?_
  rintro e u1 ⟨v, rfl, i1, hb1⟩
  have I1 := Lib.hid i1
  clear i1
  go_wp2_with fail
  go_ret2
  exact ⟨_, rfl, I1.out, hb1⟩

theorem specSeenOrder_no (p s : Int) (w : World) (h : discB p s = false) :
    Calls Try.prog 40 #[.int .i64 p, .int .i64 s] w fun e w' => ∃ v, e = .returned (.tuple #[v, .int .i64 2]) ∧ Ints w' w.heap.size v [] ∧ Below w.heap.size w w' := by
  go_enter Try.func40, Try.ntmps40
  go_wp2_with fail
  refine (l03Code_no _ _ _ h).mono ?_
  rintro e u ⟨rfl, rfl⟩
  go_wp2_with fail
  go_ret2
  exact ⟨_, rfl, ints_nil _ _, Below.refl _ _⟩

theorem specSeenOrder_yes (p : Int) (n : Nat) (w : World) (h : discB p n = true) :
    Calls Try.prog 40 #[.int .i64 p, .int .i64 n] w fun e w' => ∃ v, e = .returned (.tuple #[v, .int .i64 0]) ∧ Ints w' w.heap.size v (orderTo p n n) ∧ Below w.heap.size w w' := by
  have C := Lib.hid (fun w => l03Order_any p n w h)
  go_enter Try.func40, Try.ntmps40
  go_wp2_with fail
  refine (l03Code_yes _ _ _ h).mono ?_
  rintro e u ⟨rfl, rfl⟩
  go_wp2_with fail
  refine (C.out _).mono ?_
  rintro e u1 ⟨v, rfl, i1, hb1⟩
  have I1 := Lib.hid i1
  clear i1
  go_wp2_with fail
  go_ret2
  exact ⟨_, rfl, I1.out, hb1⟩

set_option maxRecDepth 20000 in
theorem lawSeenOrder_of (a0 a1 z : Int) (zs : List Int) (w : World) (hl : zs.length ≤ 1000)
    (hs : ∀ w : World, Calls Try.prog 40 #[.int .i64 a0, .int .i64 a1] w fun e w' => ∃ v, e = .returned (.tuple #[v, .int .i64 z]) ∧ Ints w' w.heap.size v zs ∧ Below w.heap.size w w')
    (hi : ∀ w : World, Calls Try.prog 17 #[.int .i64 a0, .int .i64 a1] w fun e w' => ∃ v, e = .returned (.tuple #[v, .int .i64 z]) ∧ Ints w' w.heap.size v zs ∧ Below w.heap.size w w') :
    Calls Try.prog 10 #[.int .i64 a0, .int .i64 a1] w fun e w' => e = .returned (.bool true) ∧ Below w.heap.size w w' := by
  have S := Lib.hid hs
  have I := Lib.hid hi
  clear hs hi
  go_enter Try.func10, Try.ntmps10
  go_wp2_with fail
  refine (S.out _).mono ?_
  rintro e u1 ⟨v1, rfl, i1, hb1⟩
  have L1 := hb1
  have I1 := Lib.hid i1
  clear i1
  go_wp2_with fail
  refine (I.out _).mono ?_
  rintro e u2 ⟨v2, rfl, i2, hb2⟩
  have J1 := Lib.hid (I1.out.below hb2)
  have I2 := Lib.hid i2
  have L2 : Below w.heap.size w u2 := bTrans L1 hb2
  clear i2
  go_wp2_with fail
  refine (eqInt64S_same _ _ v2 v1 zs _ I2.out J1.out).mono ?_
  rintro e u ⟨rfl, n, rfl⟩
  go_wp2_with fail
  refine (mark1 _ v2 zs _ (I2.out.drewN n) (by omega)).mono ?_
  rintro e u4 ⟨rfl, m4, g4⟩
  have L4 : Below w.heap.size w u4 := Below.grown (bDrewN L2 n) g4 (bDrewN L2 n).size (fun k hk => by have := (World.ownsRow.lt I2.out k hk).1; have := L1.size; omega)
  have K1 : Hid (Ints u4 w.heap.size v1 zs) := Lib.hid (World.ownsRow.kept (J1.out.drewN n) g4 (by
    cases h1 : v1.ownBlock with
    | none => exact .inl rfl
    | some k =>
      refine .inr (fun e => ?_)
      have q1 := (World.ownsRow.lt I1.out k h1).2
      have q2 := (World.ownsRow.lt I2.out k e.symm).1
      omega))
  have M4 := Lib.hid m4
  clear m4 g4
  go_wp2_with fail
  refine (held1 _ zs.length v2 _ M4.out (by omega)).mono ?_
  rintro e u ⟨rfl, rfl⟩
  go_wp2_with fail
  refine (I.out _).mono ?_
  rintro e u6 ⟨v3, rfl, i6, hb6⟩
  have N1 := Lib.hid (K1.out.below hb6)
  have N2 := Lib.hid (M4.out.below hb6)
  have I6 := Lib.hid i6
  clear i6
  go_wp2_with fail
  refine (eqInt64S_same _ _ v3 v1 zs _ I6.out N1.out).mono ?_
  rintro e u ⟨rfl, n2, rfl⟩
  go_wp2_with fail
  refine (held1 _ zs.length v2 _ (N2.out.drewN n2) (by omega)).mono ?_
  rintro e u ⟨rfl, rfl⟩
  go_wp2_with fail
  go_ret
  exact ⟨rfl, bDrewN (bTrans L4 hb6) n2⟩


/-- laws.FnExactSeenOrder. -/
theorem law_SeenOrder (p s : Int) (w : World) (_hp : I64 p) (_hs : I64 s) :
    Calls Try.prog 10 #[.int .i64 p, .int .i64 s] w fun e w' => e = .returned (.bool true) ∧ Below w.heap.size w w' := by
  cases h : discB p s
  · exact lawSeenOrder_of p s 2 [] w (by simp) (fun w => specSeenOrder_no p s w h) (fun w => implSeenOrder_no p s w h)
  · obtain ⟨p1, p2, s1, s2⟩ := discB_bd h
    obtain ⟨n, rfl⟩ := Int.eq_ofNat_of_zero_le (show 0 ≤ s by omega)
    exact lawSeenOrder_of p n 0 (orderTo p n n) w (by rw [orderTo_length]; omega) (fun w => specSeenOrder_yes p n w h) (fun w => implSeenOrder_yes p n w h)

end Go.Proofs.Ytmgkoijnjhfinaa
