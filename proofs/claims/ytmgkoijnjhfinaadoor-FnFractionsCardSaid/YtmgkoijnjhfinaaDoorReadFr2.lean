/- The text of a fraction, read by the program. -/
import Derived.Test.YtmgkoijnjhfinaaDoorProg
import Derived.Test.YtmgkoijnjhfinaaDoorReadFr
import Derived.Test.YtmgkoijnjhfinaaDoorShelf
import Derived.Test.YtmgkoijnjhfinaaDoorFracMath
import Derived.Test.YtmgkoijnjhfinaaDoorRead
import Derived.Test.YtmgkoijnjhfinaaDoorFull
import Derived.Laws.AppendOwn
import Derived.Laws.OwnMore
import Derived.OwnWalk
import Derived.Tactics
import Derived.Tactics2
import Derived.WalkKit
import Derived.LoopTactic
import Derived.BigQuiet
import Derived.RegionTactic
import Derived.Deep.QuietTactic
import Derived.Outline
import Derived.Lib.Hide
import Derived.Below
import Derived.KernelRfl
namespace Go.Proofs.YtmgkoijnjhfinaaDoor
set_option linter.unusedSimpArgs false
set_option linter.unusedVariables false
open Go.RowKit

set_option maxHeartbeats 2000000 in
theorem implFr_miss_no (s : ByteArray) (n : Int) (w : World) (hs : s.size ≤ 1048576) (hm : ∃ m, w.cell? ⟨0, 0, none⟩ = some (.int .i64 m)) (hn : I64 n) (hx : Lib.cut s.data.toList [47] = (s.data.toList, [], false))
    (hN : ∀ u, Below w.heap.size w u → Calls Tryd.prog 17 #[.string s] u fun e w' => e = .returned (.tuple #[.int .i64 n, .bool false]) ∧ Below u.heap.size u w')
    (hM : ∀ u, Below w.heap.size w u → Calls Tryd.prog 17 #[.string ⟨#[49]⟩] u fun e w' => e = .returned (.tuple #[.int .i64 1, .bool true]) ∧ Below u.heap.size u w') :
    Calls Tryd.prog 14 #[.string s] w fun e w' => e = .returned (.tuple #[fr 0 0, .bool false]) ∧ Below w.heap.size w w' := by
  obtain ⟨m, hm⟩ := hm
  have hg0 : 0 < w.heap.size := World.block_lt_of_cell? w _ hm
  have N1 := Lib.hid hN
  have N2 := Lib.hid hM
  have K := Lib.hid (fun (u : World) (hb : Below w.heap.size w u) => Tryd.strings_Cut s ⟨#[47]⟩ m u (by omega) ((hb.cell (p := ⟨0, 0, none⟩) (by exact hg0)).trans hm))
  have e47 : (⟨#[47]⟩ : ByteArray).data.toList = [47] := rfl
  rw [e47, hx] at K
  have ex : (⟨s.data.toList.toArray⟩ : ByteArray) = s := rfl
  rw [ex] at K
  clear ex
  clear hm hg0 e47 hx hN hM hs
  go_enter Tryd.func14, Tryd.ntmps14
  go_wp2_with fail
  refine (K.out _ (bAlloc (Below.refl _ _) _)).mono ?_
  rintro e u1 ⟨rfl, q, rfl⟩
  have B0 : Bk ((w.alloc (.cells #[.int .i64 0, .int .i64 0] 25)).drewN q) w.heap.size 0 0 := by refine ⟨?_, ?_, ?_, ?_, ?_⟩ <;> go_simp
  have H : Below w.heap.size w ((w.alloc (.cells #[.int .i64 0, .int .i64 0] 25)).drewN q) := bDrewN (bAlloc (Below.refl _ _) _) q
  generalize (w.alloc (.cells #[.int .i64 0, .int .i64 0] 25)).drewN q = u1 at *
  go_wp2_with fail
  refine (N1.out _ H).mono ?_
  rintro e u2 ⟨rfl, hb2⟩
  have B0 := bkOf hb2 B0
  have H := bTrans H hb2
  clear hb2 N1 K
  go_wp2_with fail
  refine (N2.out _ H).mono ?_
  rintro e u3 ⟨rfl, hb3⟩
  have B0 := bkOf hb3 B0
  have H := bTrans H hb3
  clear hb3 N2
  have hne : ¬ w.heap.size = u3.heap.size := by have := B0.2.2.2.2; omega
  obtain ⟨i0, i1, j0, j1, l5⟩ := id B0
  have q1 := Nat.ne_of_lt l5
  go_wp2_with fail
  all_goals
    refine bodyPost_ret (v := .tuple #[fr 0 0, .bool false]) (by simp [results, Tryd.results14, go_sem, i0, i1, l5, q1]) rfl ⟨rfl, ?_⟩
    repeat (first | exact H | refine bSet ?_ (by first | (simp; done) | (simp; omega)) _ | refine bAlloc ?_ _)

set_option maxHeartbeats 2000000 in
theorem implFr_miss_ne (s : ByteArray) (n : Int) (T : ByteArray) (w : World) (hs : s.size ≤ 1048576) (hm : ∃ m, w.cell? ⟨0, 0, none⟩ = some (.int .i64 m)) (hn : I64 n) (hx : Lib.cut s.data.toList [47] = (s.data.toList, [], false))
    (hN : ∀ u, Below w.heap.size w u → Calls Tryd.prog 17 #[.string s] u fun e w' => e = .returned (.tuple #[.int .i64 n, .bool true]) ∧ Below u.heap.size u w')
    (hM : ∀ u, Below w.heap.size w u → Calls Tryd.prog 17 #[.string ⟨#[49]⟩] u fun e w' => e = .returned (.tuple #[.int .i64 1, .bool true]) ∧ Below u.heap.size u w')
    (hT : ∀ w, Calls Tryd.prog 15 #[fr n 1] w fun e w' => e = .returned (.string T) ∧ Below w.heap.size w w') (he : (T.toList == s.toList) = false) :
    Calls Tryd.prog 14 #[.string s] w fun e w' => e = .returned (.tuple #[fr 0 0, .bool false]) ∧ Below w.heap.size w w' := by
  obtain ⟨m, hm⟩ := hm
  have hg0 : 0 < w.heap.size := World.block_lt_of_cell? w _ hm
  have N1 := Lib.hid hN
  have N2 := Lib.hid hM
  have T1 := Lib.hid hT
  have K := Lib.hid (fun (u : World) (hb : Below w.heap.size w u) => Tryd.strings_Cut s ⟨#[47]⟩ m u (by omega) ((hb.cell (p := ⟨0, 0, none⟩) (by exact hg0)).trans hm))
  have e47 : (⟨#[47]⟩ : ByteArray).data.toList = [47] := rfl
  rw [e47, hx] at K
  have ex : (⟨s.data.toList.toArray⟩ : ByteArray) = s := rfl
  rw [ex] at K
  clear ex
  clear hm hg0 e47 hx hN hM hs hT
  go_enter Tryd.func14, Tryd.ntmps14
  go_wp2_with fail
  refine (K.out _ (bAlloc (Below.refl _ _) _)).mono ?_
  rintro e u1 ⟨rfl, q, rfl⟩
  have B0 : Bk ((w.alloc (.cells #[.int .i64 0, .int .i64 0] 25)).drewN q) w.heap.size 0 0 := by refine ⟨?_, ?_, ?_, ?_, ?_⟩ <;> go_simp
  have H : Below w.heap.size w ((w.alloc (.cells #[.int .i64 0, .int .i64 0] 25)).drewN q) := bDrewN (bAlloc (Below.refl _ _) _) q
  generalize (w.alloc (.cells #[.int .i64 0, .int .i64 0] 25)).drewN q = u1 at *
  go_wp2_with fail
  refine (N1.out _ H).mono ?_
  rintro e u2 ⟨rfl, hb2⟩
  have B0 := bkOf hb2 B0
  have H := bTrans H hb2
  clear hb2 N1 K
  go_wp2_with fail
  refine (N2.out _ H).mono ?_
  rintro e u3 ⟨rfl, hb3⟩
  have B0 := bkOf hb3 B0
  have H := bTrans H hb3
  clear hb3 N2
  have hne : ¬ w.heap.size = u3.heap.size := by have := B0.2.2.2.2; omega
  go_wp2_with fail
  have A9 : Bk (u3.alloc (.cells #[.int .i64 n, .int .i64 1] 25)) u3.heap.size n 1 := by refine ⟨?_, ?_, ?_, ?_, ?_⟩ <;> go_simp
  have B0 := bkOf (bAlloc (Below.refl u3.heap.size u3) (.cells #[.int .i64 n, .int .i64 1] 25)) B0
  have H := bAlloc H (.cells #[.int .i64 n, .int .i64 1] 25)
  generalize u3.alloc (.cells #[.int .i64 n, .int .i64 1] 25) = v9 at *
  generalize u3.heap.size = g9 at *
  obtain ⟨i0, i1, j0, j1, l5⟩ := id B0
  obtain ⟨i2, i3, j2, j3, l6⟩ := id A9
  have q1 := Nat.ne_of_lt l5
  have q2 := Nat.ne_of_lt l6
  have q3 : ¬ w.heap.size = g9 := hne
  have q4 : ¬ g9 = w.heap.size := fun e => hne e.symm
  refine (T1.out _).mono ?_
  rintro e u4 ⟨rfl, hb4⟩
  have A9 := bkOf hb4 A9
  have B0 := bkOf hb4 B0
  have H := bTrans H hb4
  clear i0 i1 j0 j1 l5 i2 i3 j2 j3 l6 q1 q2 q3 q4 hb4 T1
  obtain ⟨i0, i1, j0, j1, l5⟩ := id B0
  obtain ⟨i2, i3, j2, j3, l6⟩ := id A9
  have q1 := Nat.ne_of_lt l5
  have q2 := Nat.ne_of_lt l6
  have q3 : ¬ w.heap.size = g9 := hne
  have q4 : ¬ g9 = w.heap.size := fun e => hne e.symm
  go_wp2_with fail
  refine bodyPost_ret (v := .tuple #[fr 0 0, .bool false]) (by simp [results, Tryd.results14, go_sem, i0, i1, i2, i3, l5, q1, q2, q3, q4]) rfl ⟨rfl, ?_⟩
  repeat (first | exact H | refine bSet ?_ (by first | (simp; done) | (simp; omega)) _ | refine bAlloc ?_ _)

set_option maxHeartbeats 2000000 in
theorem implFr_miss_ok (s : ByteArray) (n : Int) (T : ByteArray) (w : World) (hs : s.size ≤ 1048576) (hm : ∃ m, w.cell? ⟨0, 0, none⟩ = some (.int .i64 m)) (hn : I64 n) (hx : Lib.cut s.data.toList [47] = (s.data.toList, [], false))
    (hN : ∀ u, Below w.heap.size w u → Calls Tryd.prog 17 #[.string s] u fun e w' => e = .returned (.tuple #[.int .i64 n, .bool true]) ∧ Below u.heap.size u w')
    (hM : ∀ u, Below w.heap.size w u → Calls Tryd.prog 17 #[.string ⟨#[49]⟩] u fun e w' => e = .returned (.tuple #[.int .i64 1, .bool true]) ∧ Below u.heap.size u w')
    (hT : ∀ w, Calls Tryd.prog 15 #[fr n 1] w fun e w' => e = .returned (.string T) ∧ Below w.heap.size w w') (he : (T.toList == s.toList) = true) :
    Calls Tryd.prog 14 #[.string s] w fun e w' => e = .returned (.tuple #[fr n 1, .bool true]) ∧ Below w.heap.size w w' := by
  obtain ⟨m, hm⟩ := hm
  have hg0 : 0 < w.heap.size := World.block_lt_of_cell? w _ hm
  have N1 := Lib.hid hN
  have N2 := Lib.hid hM
  have T1 := Lib.hid hT
  have K := Lib.hid (fun (u : World) (hb : Below w.heap.size w u) => Tryd.strings_Cut s ⟨#[47]⟩ m u (by omega) ((hb.cell (p := ⟨0, 0, none⟩) (by exact hg0)).trans hm))
  have e47 : (⟨#[47]⟩ : ByteArray).data.toList = [47] := rfl
  rw [e47, hx] at K
  have ex : (⟨s.data.toList.toArray⟩ : ByteArray) = s := rfl
  rw [ex] at K
  clear ex
  clear hm hg0 e47 hx hN hM hs hT
  go_enter Tryd.func14, Tryd.ntmps14
  go_wp2_with fail
  refine (K.out _ (bAlloc (Below.refl _ _) _)).mono ?_
  rintro e u1 ⟨rfl, q, rfl⟩
  have B0 : Bk ((w.alloc (.cells #[.int .i64 0, .int .i64 0] 25)).drewN q) w.heap.size 0 0 := by refine ⟨?_, ?_, ?_, ?_, ?_⟩ <;> go_simp
  have H : Below w.heap.size w ((w.alloc (.cells #[.int .i64 0, .int .i64 0] 25)).drewN q) := bDrewN (bAlloc (Below.refl _ _) _) q
  generalize (w.alloc (.cells #[.int .i64 0, .int .i64 0] 25)).drewN q = u1 at *
  go_wp2_with fail
  refine (N1.out _ H).mono ?_
  rintro e u2 ⟨rfl, hb2⟩
  have B0 := bkOf hb2 B0
  have H := bTrans H hb2
  clear hb2 N1 K
  go_wp2_with fail
  refine (N2.out _ H).mono ?_
  rintro e u3 ⟨rfl, hb3⟩
  have B0 := bkOf hb3 B0
  have H := bTrans H hb3
  clear hb3 N2
  have hne : ¬ w.heap.size = u3.heap.size := by have := B0.2.2.2.2; omega
  go_wp2_with fail
  have A9 : Bk (u3.alloc (.cells #[.int .i64 n, .int .i64 1] 25)) u3.heap.size n 1 := by refine ⟨?_, ?_, ?_, ?_, ?_⟩ <;> go_simp
  have B0 := bkOf (bAlloc (Below.refl u3.heap.size u3) (.cells #[.int .i64 n, .int .i64 1] 25)) B0
  have H := bAlloc H (.cells #[.int .i64 n, .int .i64 1] 25)
  generalize u3.alloc (.cells #[.int .i64 n, .int .i64 1] 25) = v9 at *
  generalize u3.heap.size = g9 at *
  obtain ⟨i0, i1, j0, j1, l5⟩ := id B0
  obtain ⟨i2, i3, j2, j3, l6⟩ := id A9
  have q1 := Nat.ne_of_lt l5
  have q2 := Nat.ne_of_lt l6
  have q3 : ¬ w.heap.size = g9 := hne
  have q4 : ¬ g9 = w.heap.size := fun e => hne e.symm
  refine (T1.out _).mono ?_
  rintro e u4 ⟨rfl, hb4⟩
  have A9 := bkOf hb4 A9
  have B0 := bkOf hb4 B0
  have H := bTrans H hb4
  clear i0 i1 j0 j1 l5 i2 i3 j2 j3 l6 q1 q2 q3 q4 hb4 T1
  obtain ⟨i0, i1, j0, j1, l5⟩ := id B0
  obtain ⟨i2, i3, j2, j3, l6⟩ := id A9
  have q1 := Nat.ne_of_lt l5
  have q2 := Nat.ne_of_lt l6
  have q3 : ¬ w.heap.size = g9 := hne
  have q4 : ¬ g9 = w.heap.size := fun e => hne e.symm
  go_wp2_with fail
  refine bodyPost_ret (v := .tuple #[fr n 1, .bool true]) (by simp [results, Tryd.results14, go_sem, i0, i1, i2, i3, l5, q1, q2, q3, q4]) rfl ⟨rfl, ?_⟩
  repeat (first | exact H | refine bSet ?_ (by first | (simp; done) | (simp; omega)) _ | refine bAlloc ?_ _)

set_option maxHeartbeats 2000000 in
theorem implFr_hit_no (s x y : ByteArray) (n d : Int) (b : Bool) (w : World) (hs : s.size ≤ 1048576) (hm : ∃ m, w.cell? ⟨0, 0, none⟩ = some (.int .i64 m)) (hn : I64 n) (hd : I64 d) (hx : Lib.cut s.data.toList [47] = (x.data.toList, y.data.toList, true))
    (hN : ∀ u, Below w.heap.size w u → Calls Tryd.prog 17 #[.string x] u fun e w' => e = .returned (.tuple #[.int .i64 n, .bool false]) ∧ Below u.heap.size u w')
    (hM : ∀ u, Below w.heap.size w u → Calls Tryd.prog 17 #[.string y] u fun e w' => e = .returned (.tuple #[.int .i64 d, .bool b]) ∧ Below u.heap.size u w') :
    Calls Tryd.prog 14 #[.string s] w fun e w' => e = .returned (.tuple #[fr 0 0, .bool false]) ∧ Below w.heap.size w w' := by
  obtain ⟨m, hm⟩ := hm
  have hg0 : 0 < w.heap.size := World.block_lt_of_cell? w _ hm
  have N1 := Lib.hid hN
  have N2 := Lib.hid hM
  have K := Lib.hid (fun (u : World) (hb : Below w.heap.size w u) => Tryd.strings_Cut s ⟨#[47]⟩ m u (by omega) ((hb.cell (p := ⟨0, 0, none⟩) (by exact hg0)).trans hm))
  have e47 : (⟨#[47]⟩ : ByteArray).data.toList = [47] := rfl
  rw [e47, hx] at K
  have ex : (⟨x.data.toList.toArray⟩ : ByteArray) = x := rfl
  have ey : (⟨y.data.toList.toArray⟩ : ByteArray) = y := rfl
  rw [ex, ey] at K
  clear ex ey
  clear hm hg0 e47 hx hN hM hs
  go_enter Tryd.func14, Tryd.ntmps14
  go_wp2_with fail
  refine (K.out _ (bAlloc (Below.refl _ _) _)).mono ?_
  rintro e u1 ⟨rfl, q, rfl⟩
  have B0 : Bk ((w.alloc (.cells #[.int .i64 0, .int .i64 0] 25)).drewN q) w.heap.size 0 0 := by refine ⟨?_, ?_, ?_, ?_, ?_⟩ <;> go_simp
  have H : Below w.heap.size w ((w.alloc (.cells #[.int .i64 0, .int .i64 0] 25)).drewN q) := bDrewN (bAlloc (Below.refl _ _) _) q
  generalize (w.alloc (.cells #[.int .i64 0, .int .i64 0] 25)).drewN q = u1 at *
  go_wp2_with fail
  refine (N1.out _ H).mono ?_
  rintro e u2 ⟨rfl, hb2⟩
  have B0 := bkOf hb2 B0
  have H := bTrans H hb2
  clear hb2 N1 K
  go_wp2_with fail
  refine (N2.out _ H).mono ?_
  rintro e u3 ⟨rfl, hb3⟩
  have B0 := bkOf hb3 B0
  have H := bTrans H hb3
  clear hb3 N2
  have hne : ¬ w.heap.size = u3.heap.size := by have := B0.2.2.2.2; omega
  obtain ⟨i0, i1, j0, j1, l5⟩ := id B0
  have q1 := Nat.ne_of_lt l5
  go_wp2_with fail
  all_goals
    refine bodyPost_ret (v := .tuple #[fr 0 0, .bool false]) (by simp [results, Tryd.results14, go_sem, i0, i1, l5, q1]) rfl ⟨rfl, ?_⟩
    repeat (first | exact H | refine bSet ?_ (by first | (simp; done) | (simp; omega)) _ | refine bAlloc ?_ _)

set_option maxHeartbeats 2000000 in
theorem implFr_hit_no2 (s x y : ByteArray) (n d : Int) (w : World) (hs : s.size ≤ 1048576) (hm : ∃ m, w.cell? ⟨0, 0, none⟩ = some (.int .i64 m)) (hn : I64 n) (hd : I64 d) (hx : Lib.cut s.data.toList [47] = (x.data.toList, y.data.toList, true))
    (hN : ∀ u, Below w.heap.size w u → Calls Tryd.prog 17 #[.string x] u fun e w' => e = .returned (.tuple #[.int .i64 n, .bool true]) ∧ Below u.heap.size u w')
    (hM : ∀ u, Below w.heap.size w u → Calls Tryd.prog 17 #[.string y] u fun e w' => e = .returned (.tuple #[.int .i64 d, .bool false]) ∧ Below u.heap.size u w') :
    Calls Tryd.prog 14 #[.string s] w fun e w' => e = .returned (.tuple #[fr 0 0, .bool false]) ∧ Below w.heap.size w w' := by
  obtain ⟨m, hm⟩ := hm
  have hg0 : 0 < w.heap.size := World.block_lt_of_cell? w _ hm
  have N1 := Lib.hid hN
  have N2 := Lib.hid hM
  have K := Lib.hid (fun (u : World) (hb : Below w.heap.size w u) => Tryd.strings_Cut s ⟨#[47]⟩ m u (by omega) ((hb.cell (p := ⟨0, 0, none⟩) (by exact hg0)).trans hm))
  have e47 : (⟨#[47]⟩ : ByteArray).data.toList = [47] := rfl
  rw [e47, hx] at K
  have ex : (⟨x.data.toList.toArray⟩ : ByteArray) = x := rfl
  have ey : (⟨y.data.toList.toArray⟩ : ByteArray) = y := rfl
  rw [ex, ey] at K
  clear ex ey
  clear hm hg0 e47 hx hN hM hs
  go_enter Tryd.func14, Tryd.ntmps14
  go_wp2_with fail
  refine (K.out _ (bAlloc (Below.refl _ _) _)).mono ?_
  rintro e u1 ⟨rfl, q, rfl⟩
  have B0 : Bk ((w.alloc (.cells #[.int .i64 0, .int .i64 0] 25)).drewN q) w.heap.size 0 0 := by refine ⟨?_, ?_, ?_, ?_, ?_⟩ <;> go_simp
  have H : Below w.heap.size w ((w.alloc (.cells #[.int .i64 0, .int .i64 0] 25)).drewN q) := bDrewN (bAlloc (Below.refl _ _) _) q
  generalize (w.alloc (.cells #[.int .i64 0, .int .i64 0] 25)).drewN q = u1 at *
  go_wp2_with fail
  refine (N1.out _ H).mono ?_
  rintro e u2 ⟨rfl, hb2⟩
  have B0 := bkOf hb2 B0
  have H := bTrans H hb2
  clear hb2 N1 K
  go_wp2_with fail
  refine (N2.out _ H).mono ?_
  rintro e u3 ⟨rfl, hb3⟩
  have B0 := bkOf hb3 B0
  have H := bTrans H hb3
  clear hb3 N2
  have hne : ¬ w.heap.size = u3.heap.size := by have := B0.2.2.2.2; omega
  obtain ⟨i0, i1, j0, j1, l5⟩ := id B0
  have q1 := Nat.ne_of_lt l5
  go_wp2_with fail
  all_goals
    refine bodyPost_ret (v := .tuple #[fr 0 0, .bool false]) (by simp [results, Tryd.results14, go_sem, i0, i1, l5, q1]) rfl ⟨rfl, ?_⟩
    repeat (first | exact H | refine bSet ?_ (by first | (simp; done) | (simp; omega)) _ | refine bAlloc ?_ _)

set_option maxHeartbeats 2000000 in
theorem implFr_hit_ne (s x y : ByteArray) (n d : Int) (T : ByteArray) (w : World) (hs : s.size ≤ 1048576) (hm : ∃ m, w.cell? ⟨0, 0, none⟩ = some (.int .i64 m)) (hn : I64 n) (hd : I64 d) (hx : Lib.cut s.data.toList [47] = (x.data.toList, y.data.toList, true))
    (hN : ∀ u, Below w.heap.size w u → Calls Tryd.prog 17 #[.string x] u fun e w' => e = .returned (.tuple #[.int .i64 n, .bool true]) ∧ Below u.heap.size u w')
    (hM : ∀ u, Below w.heap.size w u → Calls Tryd.prog 17 #[.string y] u fun e w' => e = .returned (.tuple #[.int .i64 d, .bool true]) ∧ Below u.heap.size u w')
    (hT : ∀ w, Calls Tryd.prog 15 #[fr n d] w fun e w' => e = .returned (.string T) ∧ Below w.heap.size w w') (he : (T.toList == s.toList) = false) :
    Calls Tryd.prog 14 #[.string s] w fun e w' => e = .returned (.tuple #[fr 0 0, .bool false]) ∧ Below w.heap.size w w' := by
  obtain ⟨m, hm⟩ := hm
  have hg0 : 0 < w.heap.size := World.block_lt_of_cell? w _ hm
  have N1 := Lib.hid hN
  have N2 := Lib.hid hM
  have T1 := Lib.hid hT
  have K := Lib.hid (fun (u : World) (hb : Below w.heap.size w u) => Tryd.strings_Cut s ⟨#[47]⟩ m u (by omega) ((hb.cell (p := ⟨0, 0, none⟩) (by exact hg0)).trans hm))
  have e47 : (⟨#[47]⟩ : ByteArray).data.toList = [47] := rfl
  rw [e47, hx] at K
  have ex : (⟨x.data.toList.toArray⟩ : ByteArray) = x := rfl
  have ey : (⟨y.data.toList.toArray⟩ : ByteArray) = y := rfl
  rw [ex, ey] at K
  clear ex ey
  clear hm hg0 e47 hx hN hM hs hT
  go_enter Tryd.func14, Tryd.ntmps14
  go_wp2_with fail
  refine (K.out _ (bAlloc (Below.refl _ _) _)).mono ?_
  rintro e u1 ⟨rfl, q, rfl⟩
  have B0 : Bk ((w.alloc (.cells #[.int .i64 0, .int .i64 0] 25)).drewN q) w.heap.size 0 0 := by refine ⟨?_, ?_, ?_, ?_, ?_⟩ <;> go_simp
  have H : Below w.heap.size w ((w.alloc (.cells #[.int .i64 0, .int .i64 0] 25)).drewN q) := bDrewN (bAlloc (Below.refl _ _) _) q
  generalize (w.alloc (.cells #[.int .i64 0, .int .i64 0] 25)).drewN q = u1 at *
  go_wp2_with fail
  refine (N1.out _ H).mono ?_
  rintro e u2 ⟨rfl, hb2⟩
  have B0 := bkOf hb2 B0
  have H := bTrans H hb2
  clear hb2 N1 K
  go_wp2_with fail
  refine (N2.out _ H).mono ?_
  rintro e u3 ⟨rfl, hb3⟩
  have B0 := bkOf hb3 B0
  have H := bTrans H hb3
  clear hb3 N2
  have hne : ¬ w.heap.size = u3.heap.size := by have := B0.2.2.2.2; omega
  go_wp2_with fail
  have A9 : Bk (u3.alloc (.cells #[.int .i64 n, .int .i64 d] 25)) u3.heap.size n d := by refine ⟨?_, ?_, ?_, ?_, ?_⟩ <;> go_simp
  have B0 := bkOf (bAlloc (Below.refl u3.heap.size u3) (.cells #[.int .i64 n, .int .i64 d] 25)) B0
  have H := bAlloc H (.cells #[.int .i64 n, .int .i64 d] 25)
  generalize u3.alloc (.cells #[.int .i64 n, .int .i64 d] 25) = v9 at *
  generalize u3.heap.size = g9 at *
  obtain ⟨i0, i1, j0, j1, l5⟩ := id B0
  obtain ⟨i2, i3, j2, j3, l6⟩ := id A9
  have q1 := Nat.ne_of_lt l5
  have q2 := Nat.ne_of_lt l6
  have q3 : ¬ w.heap.size = g9 := hne
  have q4 : ¬ g9 = w.heap.size := fun e => hne e.symm
  refine (T1.out _).mono ?_
  rintro e u4 ⟨rfl, hb4⟩
  have A9 := bkOf hb4 A9
  have B0 := bkOf hb4 B0
  have H := bTrans H hb4
  clear i0 i1 j0 j1 l5 i2 i3 j2 j3 l6 q1 q2 q3 q4 hb4 T1
  obtain ⟨i0, i1, j0, j1, l5⟩ := id B0
  obtain ⟨i2, i3, j2, j3, l6⟩ := id A9
  have q1 := Nat.ne_of_lt l5
  have q2 := Nat.ne_of_lt l6
  have q3 : ¬ w.heap.size = g9 := hne
  have q4 : ¬ g9 = w.heap.size := fun e => hne e.symm
  go_wp2_with fail
  refine bodyPost_ret (v := .tuple #[fr 0 0, .bool false]) (by simp [results, Tryd.results14, go_sem, i0, i1, i2, i3, l5, q1, q2, q3, q4]) rfl ⟨rfl, ?_⟩
  repeat (first | exact H | refine bSet ?_ (by first | (simp; done) | (simp; omega)) _ | refine bAlloc ?_ _)

set_option maxHeartbeats 2000000 in
theorem implFr_hit_ok (s x y : ByteArray) (n d : Int) (T : ByteArray) (w : World) (hs : s.size ≤ 1048576) (hm : ∃ m, w.cell? ⟨0, 0, none⟩ = some (.int .i64 m)) (hn : I64 n) (hd : I64 d) (hx : Lib.cut s.data.toList [47] = (x.data.toList, y.data.toList, true))
    (hN : ∀ u, Below w.heap.size w u → Calls Tryd.prog 17 #[.string x] u fun e w' => e = .returned (.tuple #[.int .i64 n, .bool true]) ∧ Below u.heap.size u w')
    (hM : ∀ u, Below w.heap.size w u → Calls Tryd.prog 17 #[.string y] u fun e w' => e = .returned (.tuple #[.int .i64 d, .bool true]) ∧ Below u.heap.size u w')
    (hT : ∀ w, Calls Tryd.prog 15 #[fr n d] w fun e w' => e = .returned (.string T) ∧ Below w.heap.size w w') (he : (T.toList == s.toList) = true) :
    Calls Tryd.prog 14 #[.string s] w fun e w' => e = .returned (.tuple #[fr n d, .bool true]) ∧ Below w.heap.size w w' := by
  obtain ⟨m, hm⟩ := hm
  have hg0 : 0 < w.heap.size := World.block_lt_of_cell? w _ hm
  have N1 := Lib.hid hN
  have N2 := Lib.hid hM
  have T1 := Lib.hid hT
  have K := Lib.hid (fun (u : World) (hb : Below w.heap.size w u) => Tryd.strings_Cut s ⟨#[47]⟩ m u (by omega) ((hb.cell (p := ⟨0, 0, none⟩) (by exact hg0)).trans hm))
  have e47 : (⟨#[47]⟩ : ByteArray).data.toList = [47] := rfl
  rw [e47, hx] at K
  have ex : (⟨x.data.toList.toArray⟩ : ByteArray) = x := rfl
  have ey : (⟨y.data.toList.toArray⟩ : ByteArray) = y := rfl
  rw [ex, ey] at K
  clear ex ey
  clear hm hg0 e47 hx hN hM hs hT
  go_enter Tryd.func14, Tryd.ntmps14
  go_wp2_with fail
  refine (K.out _ (bAlloc (Below.refl _ _) _)).mono ?_
  rintro e u1 ⟨rfl, q, rfl⟩
  have B0 : Bk ((w.alloc (.cells #[.int .i64 0, .int .i64 0] 25)).drewN q) w.heap.size 0 0 := by refine ⟨?_, ?_, ?_, ?_, ?_⟩ <;> go_simp
  have H : Below w.heap.size w ((w.alloc (.cells #[.int .i64 0, .int .i64 0] 25)).drewN q) := bDrewN (bAlloc (Below.refl _ _) _) q
  generalize (w.alloc (.cells #[.int .i64 0, .int .i64 0] 25)).drewN q = u1 at *
  go_wp2_with fail
  refine (N1.out _ H).mono ?_
  rintro e u2 ⟨rfl, hb2⟩
  have B0 := bkOf hb2 B0
  have H := bTrans H hb2
  clear hb2 N1 K
  go_wp2_with fail
  refine (N2.out _ H).mono ?_
  rintro e u3 ⟨rfl, hb3⟩
  have B0 := bkOf hb3 B0
  have H := bTrans H hb3
  clear hb3 N2
  have hne : ¬ w.heap.size = u3.heap.size := by have := B0.2.2.2.2; omega
  go_wp2_with fail
  have A9 : Bk (u3.alloc (.cells #[.int .i64 n, .int .i64 d] 25)) u3.heap.size n d := by refine ⟨?_, ?_, ?_, ?_, ?_⟩ <;> go_simp
  have B0 := bkOf (bAlloc (Below.refl u3.heap.size u3) (.cells #[.int .i64 n, .int .i64 d] 25)) B0
  have H := bAlloc H (.cells #[.int .i64 n, .int .i64 d] 25)
  generalize u3.alloc (.cells #[.int .i64 n, .int .i64 d] 25) = v9 at *
  generalize u3.heap.size = g9 at *
  obtain ⟨i0, i1, j0, j1, l5⟩ := id B0
  obtain ⟨i2, i3, j2, j3, l6⟩ := id A9
  have q1 := Nat.ne_of_lt l5
  have q2 := Nat.ne_of_lt l6
  have q3 : ¬ w.heap.size = g9 := hne
  have q4 : ¬ g9 = w.heap.size := fun e => hne e.symm
  refine (T1.out _).mono ?_
  rintro e u4 ⟨rfl, hb4⟩
  have A9 := bkOf hb4 A9
  have B0 := bkOf hb4 B0
  have H := bTrans H hb4
  clear i0 i1 j0 j1 l5 i2 i3 j2 j3 l6 q1 q2 q3 q4 hb4 T1
  obtain ⟨i0, i1, j0, j1, l5⟩ := id B0
  obtain ⟨i2, i3, j2, j3, l6⟩ := id A9
  have q1 := Nat.ne_of_lt l5
  have q2 := Nat.ne_of_lt l6
  have q3 : ¬ w.heap.size = g9 := hne
  have q4 : ¬ g9 = w.heap.size := fun e => hne e.symm
  go_wp2_with fail
  refine bodyPost_ret (v := .tuple #[fr n d, .bool true]) (by simp [results, Tryd.results14, go_sem, i0, i1, i2, i3, l5, q1, q2, q3, q4]) rfl ⟨rfl, ?_⟩
  repeat (first | exact H | refine bSet ?_ (by first | (simp; done) | (simp; omega)) _ | refine bAlloc ?_ _)

end Go.Proofs.YtmgkoijnjhfinaaDoor
