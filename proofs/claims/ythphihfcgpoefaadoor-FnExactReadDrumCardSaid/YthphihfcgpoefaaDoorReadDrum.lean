/- Drums read out of texts, in the program and in the model. -/
import Derived.Test.YthphihfcgpoefaaDoorProg
import Derived.Test.YthphihfcgpoefaaDoorTexts
import Derived.Test.YthphihfcgpoefaaDoorSplitM
import Derived.Test.YthphihfcgpoefaaDoorRead
import Derived.Test.YthphihfcgpoefaaDoorSpecRead
import Derived.Test.YthphihfcgpoefaaDoorSplitW
import Derived.Test.YthphihfcgpoefaaDoorDrum
import Derived.Test.YthphihfcgpoefaaDoorShelf
import Derived.Laws.AppendOwn
import Derived.Laws.OwnMore
import Derived.OwnWalk
import Derived.Tactics
import Derived.Tactics2
import Derived.WalkKit
import Derived.LoopTactic
import Derived.BigQuiet
import Derived.RegionTactic
import Derived.Deep.QuietTactic
import Derived.Outline
import Derived.Lib.Hide
import Derived.Below
import Derived.KernelRfl
namespace Go.Proofs.YthphihfcgpoefaaDoor
set_option linter.unusedSimpArgs false
set_option linter.unusedVariables false
open Go.RowKit

/-- A block of three numbers that may be stored into. -/
structure Bs (w : World) (k : Nat) (r h s : Int) : Prop where
  c0 : w.cell? ⟨k, 0, none⟩ = some (.int .i64 r)
  c1 : w.cell? ⟨k, 1, none⟩ = some (.int .i64 h)
  c2 : w.cell? ⟨k, 2, none⟩ = some (.int .i64 s)
  f0 : w.frozen? ⟨k, 0, none⟩ = false
  f1 : w.frozen? ⟨k, 1, none⟩ = false
  f2 : w.frozen? ⟨k, 2, none⟩ = false
  lt : k < w.heap.size
theorem Bs.below {W u : World} {b : Nat} {r h s : Int} (x : Bs W b r h s) (hb : Below W.heap.size W u) : Bs u b r h s :=
  ⟨(hb.cell x.lt).trans x.c0, (hb.cell x.lt).trans x.c1, (hb.cell x.lt).trans x.c2, (hb.frozen x.lt).trans x.f0, (hb.frozen x.lt).trans x.f1, (hb.frozen x.lt).trans x.f2, Nat.lt_of_lt_of_le x.lt hb.size⟩

/-- What reading a drum tells. -/
def drumV (f : Bool) (r h s : Int) : Value := if f then .tuple #[dr r h s, .bool true] else .tuple #[dr 0 0 0, .bool false]

/-- What reading a decimal form tells: the number, or that there is none. -/
def Rd (t : ByteArray) (n : Int) (b : Bool) : Prop := (b = true ∧ n.natAbs < 10 ^ 18 ∧ t = decS n) ∨ (b = false ∧ n = 0 ∧ NoDec t)
theorem rd_some (t : ByteArray) : ∃ n b, Rd t n b := by
  by_cases h : ∃ n : Int, n.natAbs < 10 ^ 18 ∧ decS n = t
  · obtain ⟨n, hn, e⟩ := h
    exact ⟨n, true, .inl ⟨rfl, hn, e.symm⟩⟩
  · exact ⟨0, false, .inr ⟨rfl, rfl, fun n hn e => h ⟨n, hn, e⟩⟩⟩
theorem Rd.i64 {t : ByteArray} {n : Int} {b : Bool} (h : Rd t n b) : I64 n := by
  have hp : (10 : Nat) ^ 18 = 1000000000000000000 := by decide
  rcases h with ⟨_, h, _⟩ | ⟨_, rfl, _⟩
  · rw [hp] at h; unfold I64; omega
  · unfold I64; omega
theorem Rd.spec {t : ByteArray} {n : Int} {b : Bool} (h : Rd t n b) (hs : t.size ≤ 281474976710656) (w : World) :
    Calls Tryd.prog 8 #[.string t] w fun e w' => e = .returned (.tuple #[.int .i64 n, .bool b]) ∧ Below w.heap.size w w' := by
  rcases h with ⟨rfl, h, rfl⟩ | ⟨rfl, rfl, h⟩
  · exact number_yes n w h
  · exact number_no t w hs h
theorem Rd.impl {t : ByteArray} {n : Int} {b : Bool} (h : Rd t n b) (hs : t.size ≤ 281474976710656) (w : World) (tp tq : TypeId) (p q : Value) (hv1 : w.var? Tryd.prog "strconv.ErrSyntax" = some #[.iface tp p]) (hv2 : w.var? Tryd.prog "strconv.ErrRange" = some #[.iface tq q]) :
    Calls Tryd.prog 11 #[.string t] w fun e w' => e = .returned (.tuple #[.int .i64 n, .bool b]) ∧ Below w.heap.size w w' := by
  rcases h with ⟨rfl, h, rfl⟩ | ⟨rfl, rfl, h⟩
  · exact implRead_yes n w h
  · exact implRead_no t w hs h tp tq p q hv1 hv2

set_option maxHeartbeats 1000000 in
theorem implDrum_no1 (s a t m c : ByteArray) (f1 f2 : Bool) (n1 n2 n3 : Int) (b2 b3 : Bool) (w : World) (hs : s.size ≤ 1048576) (ht : t.size ≤ 1048576) (hm : ∃ m, w.cell? ⟨0, 0, none⟩ = some (.int .i64 m))
    (hx : Lib.cut s.data.toList [120] = (a.data.toList, t.data.toList, f1)) (hy : Lib.cut t.data.toList [47] = (m.data.toList, c.data.toList, f2))
    (hN : ∀ u, Below w.heap.size w u → Calls Tryd.prog 11 #[.string a] u fun e w' => e = .returned (.tuple #[.int .i64 n1, .bool false]) ∧ Below u.heap.size u w')
    (hM : ∀ u, Below w.heap.size w u → Calls Tryd.prog 11 #[.string m] u fun e w' => e = .returned (.tuple #[.int .i64 n2, .bool b2]) ∧ Below u.heap.size u w')
    (hK : ∀ u, Below w.heap.size w u → Calls Tryd.prog 11 #[.string c] u fun e w' => e = .returned (.tuple #[.int .i64 n3, .bool b3]) ∧ Below u.heap.size u w') :
    Calls Tryd.prog 5 #[.string s] w fun e w' => e = .returned (drumV false n1 n2 n3) ∧ Below w.heap.size w w' := by
  obtain ⟨mx, hm⟩ := hm
  have hg0 : 0 < w.heap.size := World.block_lt_of_cell? w _ hm
  have N1 := Lib.hid hN
  have N2 := Lib.hid hM
  have N3 := Lib.hid hK
  have K := Lib.hid (fun (u : World) (hb : Below w.heap.size w u) => Tryd.strings_Cut s ⟨#[120]⟩ mx u (by omega) ((hb.cell (p := ⟨0, 0, none⟩) (by exact hg0)).trans hm))
  have K2 := Lib.hid (fun (u : World) (hb : Below w.heap.size w u) => Tryd.strings_Cut t ⟨#[47]⟩ mx u (by omega) ((hb.cell (p := ⟨0, 0, none⟩) (by exact hg0)).trans hm))
  have e120 : (⟨#[120]⟩ : ByteArray).data.toList = [120] := rfl
  have e47 : (⟨#[47]⟩ : ByteArray).data.toList = [47] := rfl
  rw [e120, hx] at K
  rw [e47, hy] at K2
  have ea : (⟨a.data.toList.toArray⟩ : ByteArray) = a := rfl
  have et : (⟨t.data.toList.toArray⟩ : ByteArray) = t := rfl
  have em : (⟨m.data.toList.toArray⟩ : ByteArray) = m := rfl
  have ec : (⟨c.data.toList.toArray⟩ : ByteArray) = c := rfl
  rw [ea, et] at K
  rw [em, ec] at K2
  clear ea et em ec hm hg0 e47 e120 hx hy hN hM hK hs ht
  go_enter Tryd.func5, Tryd.ntmps5
  go_wp2_with fail
  refine (K.out _ (bAlloc (Below.refl _ _) _)).mono ?_
  rintro e u1 ⟨rfl, q, rfl⟩
  have B0 : Bs ((w.alloc (.cells #[.int .i64 0, .int .i64 0, .int .i64 0] 23)).drewN q) w.heap.size 0 0 0 := by refine ⟨?_, ?_, ?_, ?_, ?_, ?_, ?_⟩ <;> go_simp
  have H : Below w.heap.size w ((w.alloc (.cells #[.int .i64 0, .int .i64 0, .int .i64 0] 23)).drewN q) := bDrewN (bAlloc (Below.refl _ _) _) q
  generalize (w.alloc (.cells #[.int .i64 0, .int .i64 0, .int .i64 0] 23)).drewN q = u1 at *
  go_wp2_with fail
  refine (K2.out _ H).mono ?_
  rintro e u2 ⟨rfl, q2, rfl⟩
  have B0 := B0.below (bDrewN (Below.refl _ _) q2)
  have H := bDrewN H q2
  clear K K2
  generalize u1.drewN q2 = u2 at *
  go_wp2_with fail
  refine (N1.out _ H).mono ?_
  rintro e u3 ⟨rfl, hb3⟩
  have B0 := B0.below hb3
  have H := bTrans H hb3
  clear hb3 N1
  go_wp2_with fail
  refine (N2.out _ H).mono ?_
  rintro e u4 ⟨rfl, hb4⟩
  have B0 := B0.below hb4
  have H := bTrans H hb4
  clear hb4 N2
  go_wp2_with fail
  refine (N3.out _ H).mono ?_
  rintro e u5 ⟨rfl, hb5⟩
  have B0 := B0.below hb5
  have H := bTrans H hb5
  clear hb5 N3
  have hne : ¬ w.heap.size = u5.heap.size := by have := B0.lt; omega
  have hne2 : ¬ u5.heap.size = w.heap.size := by omega
  obtain ⟨i0, i1, i2, j0, j1, j2, l5⟩ := id B0
  have q1 := Nat.ne_of_lt l5
  go_wp2_with fail
  all_goals
    refine bodyPost_ret (v := .tuple #[dr 0 0 0, .bool false]) (by simp [results, Tryd.results5, go_sem, i0, i1, i2, l5, q1, hne, hne2]) rfl ⟨rfl, ?_⟩
    repeat (first | exact H | refine bSet ?_ (by first | (simp; done) | (simp; omega)) _ | refine bAlloc ?_ _)

set_option maxHeartbeats 1000000 in
theorem implDrum_no2 (s a t m c : ByteArray) (f1 f2 : Bool) (n1 n2 n3 : Int) (b3 : Bool) (w : World) (hs : s.size ≤ 1048576) (ht : t.size ≤ 1048576) (hm : ∃ m, w.cell? ⟨0, 0, none⟩ = some (.int .i64 m))
    (hx : Lib.cut s.data.toList [120] = (a.data.toList, t.data.toList, f1)) (hy : Lib.cut t.data.toList [47] = (m.data.toList, c.data.toList, f2))
    (hN : ∀ u, Below w.heap.size w u → Calls Tryd.prog 11 #[.string a] u fun e w' => e = .returned (.tuple #[.int .i64 n1, .bool true]) ∧ Below u.heap.size u w')
    (hM : ∀ u, Below w.heap.size w u → Calls Tryd.prog 11 #[.string m] u fun e w' => e = .returned (.tuple #[.int .i64 n2, .bool false]) ∧ Below u.heap.size u w')
    (hK : ∀ u, Below w.heap.size w u → Calls Tryd.prog 11 #[.string c] u fun e w' => e = .returned (.tuple #[.int .i64 n3, .bool b3]) ∧ Below u.heap.size u w') :
    Calls Tryd.prog 5 #[.string s] w fun e w' => e = .returned (drumV false n1 n2 n3) ∧ Below w.heap.size w w' := by
  obtain ⟨mx, hm⟩ := hm
  have hg0 : 0 < w.heap.size := World.block_lt_of_cell? w _ hm
  have N1 := Lib.hid hN
  have N2 := Lib.hid hM
  have N3 := Lib.hid hK
  have K := Lib.hid (fun (u : World) (hb : Below w.heap.size w u) => Tryd.strings_Cut s ⟨#[120]⟩ mx u (by omega) ((hb.cell (p := ⟨0, 0, none⟩) (by exact hg0)).trans hm))
  have K2 := Lib.hid (fun (u : World) (hb : Below w.heap.size w u) => Tryd.strings_Cut t ⟨#[47]⟩ mx u (by omega) ((hb.cell (p := ⟨0, 0, none⟩) (by exact hg0)).trans hm))
  have e120 : (⟨#[120]⟩ : ByteArray).data.toList = [120] := rfl
  have e47 : (⟨#[47]⟩ : ByteArray).data.toList = [47] := rfl
  rw [e120, hx] at K
  rw [e47, hy] at K2
  have ea : (⟨a.data.toList.toArray⟩ : ByteArray) = a := rfl
  have et : (⟨t.data.toList.toArray⟩ : ByteArray) = t := rfl
  have em : (⟨m.data.toList.toArray⟩ : ByteArray) = m := rfl
  have ec : (⟨c.data.toList.toArray⟩ : ByteArray) = c := rfl
  rw [ea, et] at K
  rw [em, ec] at K2
  clear ea et em ec hm hg0 e47 e120 hx hy hN hM hK hs ht
  go_enter Tryd.func5, Tryd.ntmps5
  go_wp2_with fail
  refine (K.out _ (bAlloc (Below.refl _ _) _)).mono ?_
  rintro e u1 ⟨rfl, q, rfl⟩
  have B0 : Bs ((w.alloc (.cells #[.int .i64 0, .int .i64 0, .int .i64 0] 23)).drewN q) w.heap.size 0 0 0 := by refine ⟨?_, ?_, ?_, ?_, ?_, ?_, ?_⟩ <;> go_simp
  have H : Below w.heap.size w ((w.alloc (.cells #[.int .i64 0, .int .i64 0, .int .i64 0] 23)).drewN q) := bDrewN (bAlloc (Below.refl _ _) _) q
  generalize (w.alloc (.cells #[.int .i64 0, .int .i64 0, .int .i64 0] 23)).drewN q = u1 at *
  go_wp2_with fail
  refine (K2.out _ H).mono ?_
  rintro e u2 ⟨rfl, q2, rfl⟩
  have B0 := B0.below (bDrewN (Below.refl _ _) q2)
  have H := bDrewN H q2
  clear K K2
  generalize u1.drewN q2 = u2 at *
  go_wp2_with fail
  refine (N1.out _ H).mono ?_
  rintro e u3 ⟨rfl, hb3⟩
  have B0 := B0.below hb3
  have H := bTrans H hb3
  clear hb3 N1
  go_wp2_with fail
  refine (N2.out _ H).mono ?_
  rintro e u4 ⟨rfl, hb4⟩
  have B0 := B0.below hb4
  have H := bTrans H hb4
  clear hb4 N2
  go_wp2_with fail
  refine (N3.out _ H).mono ?_
  rintro e u5 ⟨rfl, hb5⟩
  have B0 := B0.below hb5
  have H := bTrans H hb5
  clear hb5 N3
  have hne : ¬ w.heap.size = u5.heap.size := by have := B0.lt; omega
  have hne2 : ¬ u5.heap.size = w.heap.size := by omega
  obtain ⟨i0, i1, i2, j0, j1, j2, l5⟩ := id B0
  have q1 := Nat.ne_of_lt l5
  go_wp2_with fail
  all_goals
    refine bodyPost_ret (v := .tuple #[dr 0 0 0, .bool false]) (by simp [results, Tryd.results5, go_sem, i0, i1, i2, l5, q1, hne, hne2]) rfl ⟨rfl, ?_⟩
    repeat (first | exact H | refine bSet ?_ (by first | (simp; done) | (simp; omega)) _ | refine bAlloc ?_ _)

set_option maxHeartbeats 1000000 in
theorem implDrum_no3 (s a t m c : ByteArray) (f1 f2 : Bool) (n1 n2 n3 : Int) (w : World) (hs : s.size ≤ 1048576) (ht : t.size ≤ 1048576) (hm : ∃ m, w.cell? ⟨0, 0, none⟩ = some (.int .i64 m))
    (hx : Lib.cut s.data.toList [120] = (a.data.toList, t.data.toList, f1)) (hy : Lib.cut t.data.toList [47] = (m.data.toList, c.data.toList, f2))
    (hN : ∀ u, Below w.heap.size w u → Calls Tryd.prog 11 #[.string a] u fun e w' => e = .returned (.tuple #[.int .i64 n1, .bool true]) ∧ Below u.heap.size u w')
    (hM : ∀ u, Below w.heap.size w u → Calls Tryd.prog 11 #[.string m] u fun e w' => e = .returned (.tuple #[.int .i64 n2, .bool true]) ∧ Below u.heap.size u w')
    (hK : ∀ u, Below w.heap.size w u → Calls Tryd.prog 11 #[.string c] u fun e w' => e = .returned (.tuple #[.int .i64 n3, .bool false]) ∧ Below u.heap.size u w') :
    Calls Tryd.prog 5 #[.string s] w fun e w' => e = .returned (drumV false n1 n2 n3) ∧ Below w.heap.size w w' := by
  obtain ⟨mx, hm⟩ := hm
  have hg0 : 0 < w.heap.size := World.block_lt_of_cell? w _ hm
  have N1 := Lib.hid hN
  have N2 := Lib.hid hM
  have N3 := Lib.hid hK
  have K := Lib.hid (fun (u : World) (hb : Below w.heap.size w u) => Tryd.strings_Cut s ⟨#[120]⟩ mx u (by omega) ((hb.cell (p := ⟨0, 0, none⟩) (by exact hg0)).trans hm))
  have K2 := Lib.hid (fun (u : World) (hb : Below w.heap.size w u) => Tryd.strings_Cut t ⟨#[47]⟩ mx u (by omega) ((hb.cell (p := ⟨0, 0, none⟩) (by exact hg0)).trans hm))
  have e120 : (⟨#[120]⟩ : ByteArray).data.toList = [120] := rfl
  have e47 : (⟨#[47]⟩ : ByteArray).data.toList = [47] := rfl
  rw [e120, hx] at K
  rw [e47, hy] at K2
  have ea : (⟨a.data.toList.toArray⟩ : ByteArray) = a := rfl
  have et : (⟨t.data.toList.toArray⟩ : ByteArray) = t := rfl
  have em : (⟨m.data.toList.toArray⟩ : ByteArray) = m := rfl
  have ec : (⟨c.data.toList.toArray⟩ : ByteArray) = c := rfl
  rw [ea, et] at K
  rw [em, ec] at K2
  clear ea et em ec hm hg0 e47 e120 hx hy hN hM hK hs ht
  go_enter Tryd.func5, Tryd.ntmps5
  go_wp2_with fail
  refine (K.out _ (bAlloc (Below.refl _ _) _)).mono ?_
  rintro e u1 ⟨rfl, q, rfl⟩
  have B0 : Bs ((w.alloc (.cells #[.int .i64 0, .int .i64 0, .int .i64 0] 23)).drewN q) w.heap.size 0 0 0 := by refine ⟨?_, ?_, ?_, ?_, ?_, ?_, ?_⟩ <;> go_simp
  have H : Below w.heap.size w ((w.alloc (.cells #[.int .i64 0, .int .i64 0, .int .i64 0] 23)).drewN q) := bDrewN (bAlloc (Below.refl _ _) _) q
  generalize (w.alloc (.cells #[.int .i64 0, .int .i64 0, .int .i64 0] 23)).drewN q = u1 at *
  go_wp2_with fail
  refine (K2.out _ H).mono ?_
  rintro e u2 ⟨rfl, q2, rfl⟩
  have B0 := B0.below (bDrewN (Below.refl _ _) q2)
  have H := bDrewN H q2
  clear K K2
  generalize u1.drewN q2 = u2 at *
  go_wp2_with fail
  refine (N1.out _ H).mono ?_
  rintro e u3 ⟨rfl, hb3⟩
  have B0 := B0.below hb3
  have H := bTrans H hb3
  clear hb3 N1
  go_wp2_with fail
  refine (N2.out _ H).mono ?_
  rintro e u4 ⟨rfl, hb4⟩
  have B0 := B0.below hb4
  have H := bTrans H hb4
  clear hb4 N2
  go_wp2_with fail
  refine (N3.out _ H).mono ?_
  rintro e u5 ⟨rfl, hb5⟩
  have B0 := B0.below hb5
  have H := bTrans H hb5
  clear hb5 N3
  have hne : ¬ w.heap.size = u5.heap.size := by have := B0.lt; omega
  have hne2 : ¬ u5.heap.size = w.heap.size := by omega
  obtain ⟨i0, i1, i2, j0, j1, j2, l5⟩ := id B0
  have q1 := Nat.ne_of_lt l5
  go_wp2_with fail
  all_goals
    refine bodyPost_ret (v := .tuple #[dr 0 0 0, .bool false]) (by simp [results, Tryd.results5, go_sem, i0, i1, i2, l5, q1, hne, hne2]) rfl ⟨rfl, ?_⟩
    repeat (first | exact H | refine bSet ?_ (by first | (simp; done) | (simp; omega)) _ | refine bAlloc ?_ _)

set_option maxHeartbeats 1000000 in
theorem implDrum_no4 (s a t m c : ByteArray) (f1 f2 : Bool) (n1 n2 n3 : Int) (w : World) (hs : s.size ≤ 1048576) (ht : t.size ≤ 1048576) (hm : ∃ m, w.cell? ⟨0, 0, none⟩ = some (.int .i64 m))
    (hx : Lib.cut s.data.toList [120] = (a.data.toList, t.data.toList, f1)) (hy : Lib.cut t.data.toList [47] = (m.data.toList, c.data.toList, f2))
    (hN : ∀ u, Below w.heap.size w u → Calls Tryd.prog 11 #[.string a] u fun e w' => e = .returned (.tuple #[.int .i64 n1, .bool true]) ∧ Below u.heap.size u w')
    (hM : ∀ u, Below w.heap.size w u → Calls Tryd.prog 11 #[.string m] u fun e w' => e = .returned (.tuple #[.int .i64 n2, .bool true]) ∧ Below u.heap.size u w')
    (hK : ∀ u, Below w.heap.size w u → Calls Tryd.prog 11 #[.string c] u fun e w' => e = .returned (.tuple #[.int .i64 n3, .bool true]) ∧ Below u.heap.size u w') (hD : drumB n1 n2 n3 = false) :
    Calls Tryd.prog 5 #[.string s] w fun e w' => e = .returned (drumV false n1 n2 n3) ∧ Below w.heap.size w w' := by
  obtain ⟨mx, hm⟩ := hm
  have hg0 : 0 < w.heap.size := World.block_lt_of_cell? w _ hm
  have N1 := Lib.hid hN
  have N2 := Lib.hid hM
  have N3 := Lib.hid hK
  have K := Lib.hid (fun (u : World) (hb : Below w.heap.size w u) => Tryd.strings_Cut s ⟨#[120]⟩ mx u (by omega) ((hb.cell (p := ⟨0, 0, none⟩) (by exact hg0)).trans hm))
  have K2 := Lib.hid (fun (u : World) (hb : Below w.heap.size w u) => Tryd.strings_Cut t ⟨#[47]⟩ mx u (by omega) ((hb.cell (p := ⟨0, 0, none⟩) (by exact hg0)).trans hm))
  have e120 : (⟨#[120]⟩ : ByteArray).data.toList = [120] := rfl
  have e47 : (⟨#[47]⟩ : ByteArray).data.toList = [47] := rfl
  rw [e120, hx] at K
  rw [e47, hy] at K2
  have ea : (⟨a.data.toList.toArray⟩ : ByteArray) = a := rfl
  have et : (⟨t.data.toList.toArray⟩ : ByteArray) = t := rfl
  have em : (⟨m.data.toList.toArray⟩ : ByteArray) = m := rfl
  have ec : (⟨c.data.toList.toArray⟩ : ByteArray) = c := rfl
  rw [ea, et] at K
  rw [em, ec] at K2
  clear ea et em ec hm hg0 e47 e120 hx hy hN hM hK hs ht
  go_enter Tryd.func5, Tryd.ntmps5
  go_wp2_with fail
  refine (K.out _ (bAlloc (Below.refl _ _) _)).mono ?_
  rintro e u1 ⟨rfl, q, rfl⟩
  have B0 : Bs ((w.alloc (.cells #[.int .i64 0, .int .i64 0, .int .i64 0] 23)).drewN q) w.heap.size 0 0 0 := by refine ⟨?_, ?_, ?_, ?_, ?_, ?_, ?_⟩ <;> go_simp
  have H : Below w.heap.size w ((w.alloc (.cells #[.int .i64 0, .int .i64 0, .int .i64 0] 23)).drewN q) := bDrewN (bAlloc (Below.refl _ _) _) q
  generalize (w.alloc (.cells #[.int .i64 0, .int .i64 0, .int .i64 0] 23)).drewN q = u1 at *
  go_wp2_with fail
  refine (K2.out _ H).mono ?_
  rintro e u2 ⟨rfl, q2, rfl⟩
  have B0 := B0.below (bDrewN (Below.refl _ _) q2)
  have H := bDrewN H q2
  clear K K2
  generalize u1.drewN q2 = u2 at *
  go_wp2_with fail
  refine (N1.out _ H).mono ?_
  rintro e u3 ⟨rfl, hb3⟩
  have B0 := B0.below hb3
  have H := bTrans H hb3
  clear hb3 N1
  go_wp2_with fail
  refine (N2.out _ H).mono ?_
  rintro e u4 ⟨rfl, hb4⟩
  have B0 := B0.below hb4
  have H := bTrans H hb4
  clear hb4 N2
  go_wp2_with fail
  refine (N3.out _ H).mono ?_
  rintro e u5 ⟨rfl, hb5⟩
  have B0 := B0.below hb5
  have H := bTrans H hb5
  clear hb5 N3
  have hne : ¬ w.heap.size = u5.heap.size := by have := B0.lt; omega
  have hne2 : ¬ u5.heap.size = w.heap.size := by omega
  go_wp2_with fail
  refine (validDrum_any _ _ _ _).mono ?_
  rintro e u6 ⟨rfl, hb6⟩
  have B0 := B0.below (bTrans (bAlloc (Below.refl _ _) _) hb6)
  have D0 := (bdNew u5 n1 n2 n3).below hb6
  have H := bTrans (bAlloc H (.cells #[.int .i64 n1, .int .i64 n2, .int .i64 n3] 23)) hb6
  clear hb6
  rw [hD]
  obtain ⟨g0, g1, g2, g3⟩ := D0
  obtain ⟨i0, i1, i2, j0, j1, j2, l5⟩ := id B0
  have q1 := Nat.ne_of_lt l5
  go_wp2_with fail
  all_goals
    refine bodyPost_ret (v := .tuple #[dr 0 0 0, .bool false]) (by simp [results, Tryd.results5, go_sem, i0, i1, i2, l5, q1, hne, hne2]) rfl ⟨rfl, ?_⟩
    repeat (first | exact H | refine bSet ?_ (by first | (simp; done) | (simp; omega)) _ | refine bAlloc ?_ _)

set_option maxHeartbeats 1000000 in
theorem implDrum_yes (s a t m c : ByteArray) (f1 f2 : Bool) (n1 n2 n3 : Int) (w : World) (hs : s.size ≤ 1048576) (ht : t.size ≤ 1048576) (hm : ∃ m, w.cell? ⟨0, 0, none⟩ = some (.int .i64 m))
    (hx : Lib.cut s.data.toList [120] = (a.data.toList, t.data.toList, f1)) (hy : Lib.cut t.data.toList [47] = (m.data.toList, c.data.toList, f2))
    (hN : ∀ u, Below w.heap.size w u → Calls Tryd.prog 11 #[.string a] u fun e w' => e = .returned (.tuple #[.int .i64 n1, .bool true]) ∧ Below u.heap.size u w')
    (hM : ∀ u, Below w.heap.size w u → Calls Tryd.prog 11 #[.string m] u fun e w' => e = .returned (.tuple #[.int .i64 n2, .bool true]) ∧ Below u.heap.size u w')
    (hK : ∀ u, Below w.heap.size w u → Calls Tryd.prog 11 #[.string c] u fun e w' => e = .returned (.tuple #[.int .i64 n3, .bool true]) ∧ Below u.heap.size u w') (hD : drumB n1 n2 n3 = true) :
    Calls Tryd.prog 5 #[.string s] w fun e w' => e = .returned (drumV true n1 n2 n3) ∧ Below w.heap.size w w' := by
  obtain ⟨mx, hm⟩ := hm
  have hg0 : 0 < w.heap.size := World.block_lt_of_cell? w _ hm
  have N1 := Lib.hid hN
  have N2 := Lib.hid hM
  have N3 := Lib.hid hK
  have K := Lib.hid (fun (u : World) (hb : Below w.heap.size w u) => Tryd.strings_Cut s ⟨#[120]⟩ mx u (by omega) ((hb.cell (p := ⟨0, 0, none⟩) (by exact hg0)).trans hm))
  have K2 := Lib.hid (fun (u : World) (hb : Below w.heap.size w u) => Tryd.strings_Cut t ⟨#[47]⟩ mx u (by omega) ((hb.cell (p := ⟨0, 0, none⟩) (by exact hg0)).trans hm))
  have e120 : (⟨#[120]⟩ : ByteArray).data.toList = [120] := rfl
  have e47 : (⟨#[47]⟩ : ByteArray).data.toList = [47] := rfl
  rw [e120, hx] at K
  rw [e47, hy] at K2
  have ea : (⟨a.data.toList.toArray⟩ : ByteArray) = a := rfl
  have et : (⟨t.data.toList.toArray⟩ : ByteArray) = t := rfl
  have em : (⟨m.data.toList.toArray⟩ : ByteArray) = m := rfl
  have ec : (⟨c.data.toList.toArray⟩ : ByteArray) = c := rfl
  rw [ea, et] at K
  rw [em, ec] at K2
  clear ea et em ec hm hg0 e47 e120 hx hy hN hM hK hs ht
  go_enter Tryd.func5, Tryd.ntmps5
  go_wp2_with fail
  refine (K.out _ (bAlloc (Below.refl _ _) _)).mono ?_
  rintro e u1 ⟨rfl, q, rfl⟩
  have B0 : Bs ((w.alloc (.cells #[.int .i64 0, .int .i64 0, .int .i64 0] 23)).drewN q) w.heap.size 0 0 0 := by refine ⟨?_, ?_, ?_, ?_, ?_, ?_, ?_⟩ <;> go_simp
  have H : Below w.heap.size w ((w.alloc (.cells #[.int .i64 0, .int .i64 0, .int .i64 0] 23)).drewN q) := bDrewN (bAlloc (Below.refl _ _) _) q
  generalize (w.alloc (.cells #[.int .i64 0, .int .i64 0, .int .i64 0] 23)).drewN q = u1 at *
  go_wp2_with fail
  refine (K2.out _ H).mono ?_
  rintro e u2 ⟨rfl, q2, rfl⟩
  have B0 := B0.below (bDrewN (Below.refl _ _) q2)
  have H := bDrewN H q2
  clear K K2
  generalize u1.drewN q2 = u2 at *
  go_wp2_with fail
  refine (N1.out _ H).mono ?_
  rintro e u3 ⟨rfl, hb3⟩
  have B0 := B0.below hb3
  have H := bTrans H hb3
  clear hb3 N1
  go_wp2_with fail
  refine (N2.out _ H).mono ?_
  rintro e u4 ⟨rfl, hb4⟩
  have B0 := B0.below hb4
  have H := bTrans H hb4
  clear hb4 N2
  go_wp2_with fail
  refine (N3.out _ H).mono ?_
  rintro e u5 ⟨rfl, hb5⟩
  have B0 := B0.below hb5
  have H := bTrans H hb5
  clear hb5 N3
  have hne : ¬ w.heap.size = u5.heap.size := by have := B0.lt; omega
  have hne2 : ¬ u5.heap.size = w.heap.size := by omega
  go_wp2_with fail
  refine (validDrum_any _ _ _ _).mono ?_
  rintro e u6 ⟨rfl, hb6⟩
  have B0 := B0.below (bTrans (bAlloc (Below.refl _ _) _) hb6)
  have D0 := (bdNew u5 n1 n2 n3).below hb6
  have H := bTrans (bAlloc H (.cells #[.int .i64 n1, .int .i64 n2, .int .i64 n3] 23)) hb6
  clear hb6
  rw [hD]
  obtain ⟨g0, g1, g2, g3⟩ := D0
  obtain ⟨i0, i1, i2, j0, j1, j2, l5⟩ := id B0
  have q1 := Nat.ne_of_lt l5
  go_wp2_with fail
  all_goals
    refine bodyPost_ret (v := .tuple #[dr n1 n2 n3, .bool true]) (by simp [results, Tryd.results5, go_sem, i0, i1, i2, l5, q1, hne, hne2]) rfl ⟨rfl, ?_⟩
    repeat (first | exact H | refine bSet ?_ (by first | (simp; done) | (simp; omega)) _ | refine bAlloc ?_ _)

end Go.Proofs.YthphihfcgpoefaaDoor
