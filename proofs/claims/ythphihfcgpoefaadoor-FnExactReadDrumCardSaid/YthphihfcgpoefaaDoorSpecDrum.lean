/- Drums read out of texts by the model. -/
import Derived.Test.YthphihfcgpoefaaDoorProg
import Derived.Test.YthphihfcgpoefaaDoorTexts
import Derived.Test.YthphihfcgpoefaaDoorSplitM
import Derived.Test.YthphihfcgpoefaaDoorRead
import Derived.Test.YthphihfcgpoefaaDoorSpecRead
import Derived.Test.YthphihfcgpoefaaDoorSplitW
import Derived.Test.YthphihfcgpoefaaDoorReadDrum
import Derived.Test.YthphihfcgpoefaaDoorDrum
import Derived.Test.YthphihfcgpoefaaDoorShelf
import Derived.Laws.AppendOwn
import Derived.Laws.OwnMore
import Derived.OwnWalk
import Derived.Tactics
import Derived.Tactics2
import Derived.WalkKit
import Derived.LoopTactic
import Derived.BigQuiet
import Derived.RegionTactic
import Derived.Deep.QuietTactic
import Derived.Outline
import Derived.Lib.Hide
import Derived.Below
import Derived.KernelRfl
namespace Go.Proofs.YthphihfcgpoefaaDoor
set_option linter.unusedSimpArgs false
set_option linter.unusedVariables false
open Go.RowKit

/-- A list of texts, as a value with its length. -/
theorem Strs.open {w : World} {B : Nat} {v : Value} {zs : List ByteArray} (h : Strs w B v zs) : ∃ A cap, v = .slice A zs.length cap := by
  rcases h.view with ⟨rfl, rfl⟩ | ⟨g, cap, rfl, _⟩
  · exact ⟨_, _, rfl⟩
  · exact ⟨_, _, rfl⟩

theorem len_ne {n : Nat} (h : n ≠ 2) : ((n : Int) != 2) = true := by rw [bne_iff_ne]; omega

/-- Not two parts between slashes. -/
theorem specDrum_parts (s : ByteArray) (w : World) (hs : s.size ≤ 1048576) (hp : (piecesB 47 s).length ≠ 2) :
    Calls Tryd.prog 4 #[.string s] w fun e w' => e = .returned (.tuple #[dr 0 0 0, .bool false]) ∧ Below w.heap.size w w' := by
  have C := Lib.hid (fun w => l01Split_slash s w hs)
  have hne := len_ne hp
  generalize piecesB 47 s = ps at *
  clear hp hs
  go_enter Tryd.func4, Tryd.ntmps4
  go_wp2_with fail
  refine (C.out _).mono ?_
  rintro e u1 ⟨v, rfl, io, hb1⟩
  obtain ⟨A, cap, rfl⟩ := io.open
  have B0 : Bs u1 w.heap.size 0 0 0 := Bs.below (by refine ⟨?_, ?_, ?_, ?_, ?_, ?_, ?_⟩ <;> go_simp) hb1
  have H : Below w.heap.size w u1 := bTrans (bAlloc (Below.refl _ _) _) hb1
  clear io hb1
  obtain ⟨i0, i1, i2, j0, j1, j2, l5⟩ := id B0
  have q1 := Nat.ne_of_lt l5
  go_wp2_with fail
  all_goals
    refine bodyPost_ret (v := .tuple #[dr 0 0 0, .bool false]) (by simp [results, Tryd.results4, go_sem, i0, i1, i2, l5, q1]) rfl ⟨rfl, ?_⟩
    repeat (first | exact H | refine bSet ?_ (by first | (simp; done) | (simp; omega)) _ | refine bAlloc ?_ _)

/-- Not two parts between letters x. -/
theorem specDrum_parts2 (s t u : ByteArray) (w : World) (hs : s.size ≤ 1048576) (ht : t.size ≤ 1048576) (hp : piecesB 47 s = [t, u]) (hp2 : (piecesB 120 t).length ≠ 2) :
    Calls Tryd.prog 4 #[.string s] w fun e w' => e = .returned (.tuple #[dr 0 0 0, .bool false]) ∧ Below w.heap.size w w' := by
  have C := Lib.hid (fun w => l01Split_slash s w hs)
  rw [hp] at C
  have C2 := Lib.hid (fun w => l01Split_x t w ht)
  have hne := len_ne hp2
  generalize piecesB 120 t = ps at *
  clear hp hp2 hs ht
  go_enter Tryd.func4, Tryd.ntmps4
  go_wp2_with fail
  refine (C.out _).mono ?_
  rintro e u1 ⟨v, rfl, io, hb1⟩
  rcases io.view with ⟨_, h0⟩ | ⟨g, cap, rfl, _, hg, _, hc, _⟩
  · cases h0
  have c0 : u1.cell? ⟨g, 0, none⟩ = some (.string t) := hc 0 (by simp)
  have B0 : Bs u1 w.heap.size 0 0 0 := Bs.below (by refine ⟨?_, ?_, ?_, ?_, ?_, ?_, ?_⟩ <;> go_simp) hb1
  have H : Below w.heap.size w u1 := bTrans (bAlloc (Below.refl _ _) _) hb1
  clear io hc hb1
  go_wp2_with fail
  refine (C2.out _).mono ?_
  rintro e u2 ⟨v2, rfl, io2, hb2⟩
  obtain ⟨A, cap2, rfl⟩ := io2.open
  have B0 := B0.below hb2
  have H := bTrans H hb2
  clear io2 hb2 c0
  obtain ⟨i0, i1, i2, j0, j1, j2, l5⟩ := id B0
  have q1 := Nat.ne_of_lt l5
  go_wp2_with fail
  all_goals
    refine bodyPost_ret (v := .tuple #[dr 0 0 0, .bool false]) (by simp [results, Tryd.results4, go_sem, i0, i1, i2, l5, q1]) rfl ⟨rfl, ?_⟩
    repeat (first | exact H | refine bSet ?_ (by first | (simp; done) | (simp; omega)) _ | refine bAlloc ?_ _)

set_option maxHeartbeats 1000000 in
theorem specDrum_no1 (s t u a m : ByteArray) (n1 n2 n3 : Int) (b2 b3 : Bool) (w : World) (hs : s.size ≤ 1048576) (ht : t.size ≤ 1048576) (hp : piecesB 47 s = [t, u]) (hp2 : piecesB 120 t = [a, m])
    (hN : ∀ w, Calls Tryd.prog 8 #[.string a] w fun e w' => e = .returned (.tuple #[.int .i64 n1, .bool false]) ∧ Below w.heap.size w w')
    (hM : ∀ w, Calls Tryd.prog 8 #[.string m] w fun e w' => e = .returned (.tuple #[.int .i64 n2, .bool b2]) ∧ Below w.heap.size w w')
    (hK : ∀ w, Calls Tryd.prog 8 #[.string u] w fun e w' => e = .returned (.tuple #[.int .i64 n3, .bool b3]) ∧ Below w.heap.size w w') :
    Calls Tryd.prog 4 #[.string s] w fun e w' => e = .returned (drumV false n1 n2 n3) ∧ Below w.heap.size w w' := by
  have C := Lib.hid (fun w => l01Split_slash s w hs)
  rw [hp] at C
  have C2 := Lib.hid (fun w => l01Split_x t w ht)
  rw [hp2] at C2
  have N1 := Lib.hid hN
  have N2 := Lib.hid hM
  have N3 := Lib.hid hK
  clear hp hp2 hs ht hN hM hK
  go_enter Tryd.func4, Tryd.ntmps4
  go_wp2_with fail
  refine (C.out _).mono ?_
  rintro e u1 ⟨v, rfl, io, hb1⟩
  rcases io.view with ⟨_, h0⟩ | ⟨g, cap, rfl, _, hg, _, hc, _⟩
  · cases h0
  have c0 : u1.cell? ⟨g, 0, none⟩ = some (.string t) := hc 0 (by simp)
  have c1 : u1.cell? ⟨g, 1, none⟩ = some (.string u) := hc 1 (by simp)
  have B0 : Bs u1 w.heap.size 0 0 0 := Bs.below (by refine ⟨?_, ?_, ?_, ?_, ?_, ?_, ?_⟩ <;> go_simp) hb1
  have H : Below w.heap.size w u1 := bTrans (bAlloc (Below.refl _ _) _) hb1
  clear io hc hb1 C
  go_wp2_with fail
  refine (C2.out _).mono ?_
  rintro e u2 ⟨v2, rfl, io2, hb2⟩
  rcases io2.view with ⟨_, h0⟩ | ⟨g2, cap2, rfl, _, hg2, _, hc2, _⟩
  · cases h0
  have d0 : u2.cell? ⟨g2, 0, none⟩ = some (.string a) := hc2 0 (by simp)
  have d1 : u2.cell? ⟨g2, 1, none⟩ = some (.string m) := hc2 1 (by simp)
  have c1 := (hb2.cell (p := ⟨g, 1, none⟩) (by exact hg)).trans c1
  have hg := Nat.lt_of_lt_of_le hg hb2.size
  have B0 := B0.below hb2
  have H := bTrans H hb2
  clear io2 hc2 hb2 c0 C2
  go_wp2_with fail
  refine (N1.out _).mono ?_
  rintro e u3 ⟨rfl, hb3⟩
  have B0 := B0.below hb3
  have H := bTrans H hb3
  have c1 := (hb3.cell (p := ⟨g, 1, none⟩) (by exact hg)).trans c1
  have hg := Nat.lt_of_lt_of_le hg hb3.size
  have d1 := (hb3.cell (p := ⟨g2, 1, none⟩) (by exact hg2)).trans d1
  clear hb3 N1 d0
  go_wp2_with fail
  refine (N2.out _).mono ?_
  rintro e u4 ⟨rfl, hb4⟩
  have B0 := B0.below hb4
  have H := bTrans H hb4
  have c1 := (hb4.cell (p := ⟨g, 1, none⟩) (by exact hg)).trans c1
  clear hb4 N2 d1
  go_wp2_with fail
  refine (N3.out _).mono ?_
  rintro e u5 ⟨rfl, hb5⟩
  have B0 := B0.below hb5
  have H := bTrans H hb5
  clear hb5 N3 c1
  have hne : ¬ w.heap.size = u5.heap.size := by have := B0.lt; omega
  have hne2 : ¬ u5.heap.size = w.heap.size := by omega
  obtain ⟨i0, i1, i2, j0, j1, j2, l5⟩ := id B0
  have q1 := Nat.ne_of_lt l5
  go_wp2_with fail
  all_goals
    refine bodyPost_ret (v := .tuple #[dr 0 0 0, .bool false]) (by simp [results, Tryd.results4, go_sem, i0, i1, i2, l5, q1, hne, hne2]) rfl ⟨rfl, ?_⟩
    repeat (first | exact H | refine bSet ?_ (by first | (simp; done) | (simp; omega)) _ | refine bAlloc ?_ _)

set_option maxHeartbeats 1000000 in
theorem specDrum_no2 (s t u a m : ByteArray) (n1 n2 n3 : Int) (b3 : Bool) (w : World) (hs : s.size ≤ 1048576) (ht : t.size ≤ 1048576) (hp : piecesB 47 s = [t, u]) (hp2 : piecesB 120 t = [a, m])
    (hN : ∀ w, Calls Tryd.prog 8 #[.string a] w fun e w' => e = .returned (.tuple #[.int .i64 n1, .bool true]) ∧ Below w.heap.size w w')
    (hM : ∀ w, Calls Tryd.prog 8 #[.string m] w fun e w' => e = .returned (.tuple #[.int .i64 n2, .bool false]) ∧ Below w.heap.size w w')
    (hK : ∀ w, Calls Tryd.prog 8 #[.string u] w fun e w' => e = .returned (.tuple #[.int .i64 n3, .bool b3]) ∧ Below w.heap.size w w') :
    Calls Tryd.prog 4 #[.string s] w fun e w' => e = .returned (drumV false n1 n2 n3) ∧ Below w.heap.size w w' := by
  have C := Lib.hid (fun w => l01Split_slash s w hs)
  rw [hp] at C
  have C2 := Lib.hid (fun w => l01Split_x t w ht)
  rw [hp2] at C2
  have N1 := Lib.hid hN
  have N2 := Lib.hid hM
  have N3 := Lib.hid hK
  clear hp hp2 hs ht hN hM hK
  go_enter Tryd.func4, Tryd.ntmps4
  go_wp2_with fail
  refine (C.out _).mono ?_
  rintro e u1 ⟨v, rfl, io, hb1⟩
  rcases io.view with ⟨_, h0⟩ | ⟨g, cap, rfl, _, hg, _, hc, _⟩
  · cases h0
  have c0 : u1.cell? ⟨g, 0, none⟩ = some (.string t) := hc 0 (by simp)
  have c1 : u1.cell? ⟨g, 1, none⟩ = some (.string u) := hc 1 (by simp)
  have B0 : Bs u1 w.heap.size 0 0 0 := Bs.below (by refine ⟨?_, ?_, ?_, ?_, ?_, ?_, ?_⟩ <;> go_simp) hb1
  have H : Below w.heap.size w u1 := bTrans (bAlloc (Below.refl _ _) _) hb1
  clear io hc hb1 C
  go_wp2_with fail
  refine (C2.out _).mono ?_
  rintro e u2 ⟨v2, rfl, io2, hb2⟩
  rcases io2.view with ⟨_, h0⟩ | ⟨g2, cap2, rfl, _, hg2, _, hc2, _⟩
  · cases h0
  have d0 : u2.cell? ⟨g2, 0, none⟩ = some (.string a) := hc2 0 (by simp)
  have d1 : u2.cell? ⟨g2, 1, none⟩ = some (.string m) := hc2 1 (by simp)
  have c1 := (hb2.cell (p := ⟨g, 1, none⟩) (by exact hg)).trans c1
  have hg := Nat.lt_of_lt_of_le hg hb2.size
  have B0 := B0.below hb2
  have H := bTrans H hb2
  clear io2 hc2 hb2 c0 C2
  go_wp2_with fail
  refine (N1.out _).mono ?_
  rintro e u3 ⟨rfl, hb3⟩
  have B0 := B0.below hb3
  have H := bTrans H hb3
  have c1 := (hb3.cell (p := ⟨g, 1, none⟩) (by exact hg)).trans c1
  have hg := Nat.lt_of_lt_of_le hg hb3.size
  have d1 := (hb3.cell (p := ⟨g2, 1, none⟩) (by exact hg2)).trans d1
  clear hb3 N1 d0
  go_wp2_with fail
  refine (N2.out _).mono ?_
  rintro e u4 ⟨rfl, hb4⟩
  have B0 := B0.below hb4
  have H := bTrans H hb4
  have c1 := (hb4.cell (p := ⟨g, 1, none⟩) (by exact hg)).trans c1
  clear hb4 N2 d1
  go_wp2_with fail
  refine (N3.out _).mono ?_
  rintro e u5 ⟨rfl, hb5⟩
  have B0 := B0.below hb5
  have H := bTrans H hb5
  clear hb5 N3 c1
  have hne : ¬ w.heap.size = u5.heap.size := by have := B0.lt; omega
  have hne2 : ¬ u5.heap.size = w.heap.size := by omega
  obtain ⟨i0, i1, i2, j0, j1, j2, l5⟩ := id B0
  have q1 := Nat.ne_of_lt l5
  go_wp2_with fail
  all_goals
    refine bodyPost_ret (v := .tuple #[dr 0 0 0, .bool false]) (by simp [results, Tryd.results4, go_sem, i0, i1, i2, l5, q1, hne, hne2]) rfl ⟨rfl, ?_⟩
    repeat (first | exact H | refine bSet ?_ (by first | (simp; done) | (simp; omega)) _ | refine bAlloc ?_ _)

set_option maxHeartbeats 1000000 in
theorem specDrum_no3 (s t u a m : ByteArray) (n1 n2 n3 : Int) (w : World) (hs : s.size ≤ 1048576) (ht : t.size ≤ 1048576) (hp : piecesB 47 s = [t, u]) (hp2 : piecesB 120 t = [a, m])
    (hN : ∀ w, Calls Tryd.prog 8 #[.string a] w fun e w' => e = .returned (.tuple #[.int .i64 n1, .bool true]) ∧ Below w.heap.size w w')
    (hM : ∀ w, Calls Tryd.prog 8 #[.string m] w fun e w' => e = .returned (.tuple #[.int .i64 n2, .bool true]) ∧ Below w.heap.size w w')
    (hK : ∀ w, Calls Tryd.prog 8 #[.string u] w fun e w' => e = .returned (.tuple #[.int .i64 n3, .bool false]) ∧ Below w.heap.size w w') :
    Calls Tryd.prog 4 #[.string s] w fun e w' => e = .returned (drumV false n1 n2 n3) ∧ Below w.heap.size w w' := by
  have C := Lib.hid (fun w => l01Split_slash s w hs)
  rw [hp] at C
  have C2 := Lib.hid (fun w => l01Split_x t w ht)
  rw [hp2] at C2
  have N1 := Lib.hid hN
  have N2 := Lib.hid hM
  have N3 := Lib.hid hK
  clear hp hp2 hs ht hN hM hK
  go_enter Tryd.func4, Tryd.ntmps4
  go_wp2_with fail
  refine (C.out _).mono ?_
  rintro e u1 ⟨v, rfl, io, hb1⟩
  rcases io.view with ⟨_, h0⟩ | ⟨g, cap, rfl, _, hg, _, hc, _⟩
  · cases h0
  have c0 : u1.cell? ⟨g, 0, none⟩ = some (.string t) := hc 0 (by simp)
  have c1 : u1.cell? ⟨g, 1, none⟩ = some (.string u) := hc 1 (by simp)
  have B0 : Bs u1 w.heap.size 0 0 0 := Bs.below (by refine ⟨?_, ?_, ?_, ?_, ?_, ?_, ?_⟩ <;> go_simp) hb1
  have H : Below w.heap.size w u1 := bTrans (bAlloc (Below.refl _ _) _) hb1
  clear io hc hb1 C
  go_wp2_with fail
  refine (C2.out _).mono ?_
  rintro e u2 ⟨v2, rfl, io2, hb2⟩
  rcases io2.view with ⟨_, h0⟩ | ⟨g2, cap2, rfl, _, hg2, _, hc2, _⟩
  · cases h0
  have d0 : u2.cell? ⟨g2, 0, none⟩ = some (.string a) := hc2 0 (by simp)
  have d1 : u2.cell? ⟨g2, 1, none⟩ = some (.string m) := hc2 1 (by simp)
  have c1 := (hb2.cell (p := ⟨g, 1, none⟩) (by exact hg)).trans c1
  have hg := Nat.lt_of_lt_of_le hg hb2.size
  have B0 := B0.below hb2
  have H := bTrans H hb2
  clear io2 hc2 hb2 c0 C2
  go_wp2_with fail
  refine (N1.out _).mono ?_
  rintro e u3 ⟨rfl, hb3⟩
  have B0 := B0.below hb3
  have H := bTrans H hb3
  have c1 := (hb3.cell (p := ⟨g, 1, none⟩) (by exact hg)).trans c1
  have hg := Nat.lt_of_lt_of_le hg hb3.size
  have d1 := (hb3.cell (p := ⟨g2, 1, none⟩) (by exact hg2)).trans d1
  clear hb3 N1 d0
  go_wp2_with fail
  refine (N2.out _).mono ?_
  rintro e u4 ⟨rfl, hb4⟩
  have B0 := B0.below hb4
  have H := bTrans H hb4
  have c1 := (hb4.cell (p := ⟨g, 1, none⟩) (by exact hg)).trans c1
  clear hb4 N2 d1
  go_wp2_with fail
  refine (N3.out _).mono ?_
  rintro e u5 ⟨rfl, hb5⟩
  have B0 := B0.below hb5
  have H := bTrans H hb5
  clear hb5 N3 c1
  have hne : ¬ w.heap.size = u5.heap.size := by have := B0.lt; omega
  have hne2 : ¬ u5.heap.size = w.heap.size := by omega
  obtain ⟨i0, i1, i2, j0, j1, j2, l5⟩ := id B0
  have q1 := Nat.ne_of_lt l5
  go_wp2_with fail
  all_goals
    refine bodyPost_ret (v := .tuple #[dr 0 0 0, .bool false]) (by simp [results, Tryd.results4, go_sem, i0, i1, i2, l5, q1, hne, hne2]) rfl ⟨rfl, ?_⟩
    repeat (first | exact H | refine bSet ?_ (by first | (simp; done) | (simp; omega)) _ | refine bAlloc ?_ _)

set_option maxHeartbeats 1000000 in
theorem specDrum_no4 (s t u a m : ByteArray) (n1 n2 n3 : Int) (w : World) (hs : s.size ≤ 1048576) (ht : t.size ≤ 1048576) (hp : piecesB 47 s = [t, u]) (hp2 : piecesB 120 t = [a, m])
    (hN : ∀ w, Calls Tryd.prog 8 #[.string a] w fun e w' => e = .returned (.tuple #[.int .i64 n1, .bool true]) ∧ Below w.heap.size w w')
    (hM : ∀ w, Calls Tryd.prog 8 #[.string m] w fun e w' => e = .returned (.tuple #[.int .i64 n2, .bool true]) ∧ Below w.heap.size w w')
    (hK : ∀ w, Calls Tryd.prog 8 #[.string u] w fun e w' => e = .returned (.tuple #[.int .i64 n3, .bool true]) ∧ Below w.heap.size w w') (hD : drumB n1 n2 n3 = false) :
    Calls Tryd.prog 4 #[.string s] w fun e w' => e = .returned (drumV false n1 n2 n3) ∧ Below w.heap.size w w' := by
  have C := Lib.hid (fun w => l01Split_slash s w hs)
  rw [hp] at C
  have C2 := Lib.hid (fun w => l01Split_x t w ht)
  rw [hp2] at C2
  have N1 := Lib.hid hN
  have N2 := Lib.hid hM
  have N3 := Lib.hid hK
  clear hp hp2 hs ht hN hM hK
  go_enter Tryd.func4, Tryd.ntmps4
  go_wp2_with fail
  refine (C.out _).mono ?_
  rintro e u1 ⟨v, rfl, io, hb1⟩
  rcases io.view with ⟨_, h0⟩ | ⟨g, cap, rfl, _, hg, _, hc, _⟩
  · cases h0
  have c0 : u1.cell? ⟨g, 0, none⟩ = some (.string t) := hc 0 (by simp)
  have c1 : u1.cell? ⟨g, 1, none⟩ = some (.string u) := hc 1 (by simp)
  have B0 : Bs u1 w.heap.size 0 0 0 := Bs.below (by refine ⟨?_, ?_, ?_, ?_, ?_, ?_, ?_⟩ <;> go_simp) hb1
  have H : Below w.heap.size w u1 := bTrans (bAlloc (Below.refl _ _) _) hb1
  clear io hc hb1 C
  go_wp2_with fail
  refine (C2.out _).mono ?_
  rintro e u2 ⟨v2, rfl, io2, hb2⟩
  rcases io2.view with ⟨_, h0⟩ | ⟨g2, cap2, rfl, _, hg2, _, hc2, _⟩
  · cases h0
  have d0 : u2.cell? ⟨g2, 0, none⟩ = some (.string a) := hc2 0 (by simp)
  have d1 : u2.cell? ⟨g2, 1, none⟩ = some (.string m) := hc2 1 (by simp)
  have c1 := (hb2.cell (p := ⟨g, 1, none⟩) (by exact hg)).trans c1
  have hg := Nat.lt_of_lt_of_le hg hb2.size
  have B0 := B0.below hb2
  have H := bTrans H hb2
  clear io2 hc2 hb2 c0 C2
  go_wp2_with fail
  refine (N1.out _).mono ?_
  rintro e u3 ⟨rfl, hb3⟩
  have B0 := B0.below hb3
  have H := bTrans H hb3
  have c1 := (hb3.cell (p := ⟨g, 1, none⟩) (by exact hg)).trans c1
  have hg := Nat.lt_of_lt_of_le hg hb3.size
  have d1 := (hb3.cell (p := ⟨g2, 1, none⟩) (by exact hg2)).trans d1
  clear hb3 N1 d0
  go_wp2_with fail
  refine (N2.out _).mono ?_
  rintro e u4 ⟨rfl, hb4⟩
  have B0 := B0.below hb4
  have H := bTrans H hb4
  have c1 := (hb4.cell (p := ⟨g, 1, none⟩) (by exact hg)).trans c1
  clear hb4 N2 d1
  go_wp2_with fail
  refine (N3.out _).mono ?_
  rintro e u5 ⟨rfl, hb5⟩
  have B0 := B0.below hb5
  have H := bTrans H hb5
  clear hb5 N3 c1
  have hne : ¬ w.heap.size = u5.heap.size := by have := B0.lt; omega
  have hne2 : ¬ u5.heap.size = w.heap.size := by omega
  go_wp2_with fail
  refine (l07Ok_any _ n1 n2 n3 _ (bdNew _ _ _ _)).mono ?_
  rintro e u6 ⟨rfl, rfl⟩
  rw [hD]
  obtain ⟨i0, i1, i2, j0, j1, j2, l5⟩ := id B0
  have q1 := Nat.ne_of_lt l5
  go_wp2_with fail
  all_goals
    refine bodyPost_ret (v := .tuple #[dr 0 0 0, .bool false]) (by simp [results, Tryd.results4, go_sem, i0, i1, i2, l5, q1, hne, hne2]) rfl ⟨rfl, ?_⟩
    repeat (first | exact H | refine bSet ?_ (by first | (simp; done) | (simp; omega)) _ | refine bAlloc ?_ _)

set_option maxHeartbeats 1000000 in
theorem specDrum_yes (s t u a m : ByteArray) (n1 n2 n3 : Int) (w : World) (hs : s.size ≤ 1048576) (ht : t.size ≤ 1048576) (hp : piecesB 47 s = [t, u]) (hp2 : piecesB 120 t = [a, m])
    (hN : ∀ w, Calls Tryd.prog 8 #[.string a] w fun e w' => e = .returned (.tuple #[.int .i64 n1, .bool true]) ∧ Below w.heap.size w w')
    (hM : ∀ w, Calls Tryd.prog 8 #[.string m] w fun e w' => e = .returned (.tuple #[.int .i64 n2, .bool true]) ∧ Below w.heap.size w w')
    (hK : ∀ w, Calls Tryd.prog 8 #[.string u] w fun e w' => e = .returned (.tuple #[.int .i64 n3, .bool true]) ∧ Below w.heap.size w w') (hD : drumB n1 n2 n3 = true) :
    Calls Tryd.prog 4 #[.string s] w fun e w' => e = .returned (drumV true n1 n2 n3) ∧ Below w.heap.size w w' := by
  have C := Lib.hid (fun w => l01Split_slash s w hs)
  rw [hp] at C
  have C2 := Lib.hid (fun w => l01Split_x t w ht)
  rw [hp2] at C2
  have N1 := Lib.hid hN
  have N2 := Lib.hid hM
  have N3 := Lib.hid hK
  clear hp hp2 hs ht hN hM hK
  go_enter Tryd.func4, Tryd.ntmps4
  go_wp2_with fail
  refine (C.out _).mono ?_
  rintro e u1 ⟨v, rfl, io, hb1⟩
  rcases io.view with ⟨_, h0⟩ | ⟨g, cap, rfl, _, hg, _, hc, _⟩
  · cases h0
  have c0 : u1.cell? ⟨g, 0, none⟩ = some (.string t) := hc 0 (by simp)
  have c1 : u1.cell? ⟨g, 1, none⟩ = some (.string u) := hc 1 (by simp)
  have B0 : Bs u1 w.heap.size 0 0 0 := Bs.below (by refine ⟨?_, ?_, ?_, ?_, ?_, ?_, ?_⟩ <;> go_simp) hb1
  have H : Below w.heap.size w u1 := bTrans (bAlloc (Below.refl _ _) _) hb1
  clear io hc hb1 C
  go_wp2_with fail
  refine (C2.out _).mono ?_
  rintro e u2 ⟨v2, rfl, io2, hb2⟩
  rcases io2.view with ⟨_, h0⟩ | ⟨g2, cap2, rfl, _, hg2, _, hc2, _⟩
  · cases h0
  have d0 : u2.cell? ⟨g2, 0, none⟩ = some (.string a) := hc2 0 (by simp)
  have d1 : u2.cell? ⟨g2, 1, none⟩ = some (.string m) := hc2 1 (by simp)
  have c1 := (hb2.cell (p := ⟨g, 1, none⟩) (by exact hg)).trans c1
  have hg := Nat.lt_of_lt_of_le hg hb2.size
  have B0 := B0.below hb2
  have H := bTrans H hb2
  clear io2 hc2 hb2 c0 C2
  go_wp2_with fail
  refine (N1.out _).mono ?_
  rintro e u3 ⟨rfl, hb3⟩
  have B0 := B0.below hb3
  have H := bTrans H hb3
  have c1 := (hb3.cell (p := ⟨g, 1, none⟩) (by exact hg)).trans c1
  have hg := Nat.lt_of_lt_of_le hg hb3.size
  have d1 := (hb3.cell (p := ⟨g2, 1, none⟩) (by exact hg2)).trans d1
  clear hb3 N1 d0
  go_wp2_with fail
  refine (N2.out _).mono ?_
  rintro e u4 ⟨rfl, hb4⟩
  have B0 := B0.below hb4
  have H := bTrans H hb4
  have c1 := (hb4.cell (p := ⟨g, 1, none⟩) (by exact hg)).trans c1
  clear hb4 N2 d1
  go_wp2_with fail
  refine (N3.out _).mono ?_
  rintro e u5 ⟨rfl, hb5⟩
  have B0 := B0.below hb5
  have H := bTrans H hb5
  clear hb5 N3 c1
  have hne : ¬ w.heap.size = u5.heap.size := by have := B0.lt; omega
  have hne2 : ¬ u5.heap.size = w.heap.size := by omega
  go_wp2_with fail
  refine (l07Ok_any _ n1 n2 n3 _ (bdNew _ _ _ _)).mono ?_
  rintro e u6 ⟨rfl, rfl⟩
  rw [hD]
  obtain ⟨i0, i1, i2, j0, j1, j2, l5⟩ := id B0
  have q1 := Nat.ne_of_lt l5
  go_wp2_with fail
  all_goals
    refine bodyPost_ret (v := .tuple #[dr n1 n2 n3, .bool true]) (by simp [results, Tryd.results4, go_sem, i0, i1, i2, l5, q1, hne, hne2]) rfl ⟨rfl, ?_⟩
    repeat (first | exact H | refine bSet ?_ (by first | (simp; done) | (simp; omega)) _ | refine bAlloc ?_ _)

end Go.Proofs.YthphihfcgpoefaaDoor
