/- LongestDark: how long a dark part takes, in the program and in the model. -/
import Derived.Test.YtflgjohknjgdcaaProg
import Derived.Test.YtflgjohknjgdcaaBldFn3
import Derived.Laws.Cover1
import Derived.Deep.RegionWith
import Derived.Deep.DrawnRows
import Derived.Deep.RegionHeld3
import Derived.Deep.DeepCutAuto
import Derived.Tactics
import Derived.Tactics2
import Derived.WalkKit
import Derived.LoopTactic
import Derived.BigQuiet
import Derived.RegionTactic
import Derived.Deep.QuietTactic
import Derived.Outline
import Derived.Lib.Hide
import Derived.Below
import Derived.KernelRfl
namespace Go.Proofs.Ytflgjohknjgdcaa
set_option linter.unusedSimpArgs false
set_option linter.unusedVariables false
open Go.RowKit

theorem bkSet2 {v : World} {g : Nat} {x y a b : Int} (h : Bk v g x y) : Bk ((v.setCell ⟨g, 0, none⟩ (.int .i64 a)).setCell ⟨g, 1, none⟩ (.int .i64 b)) g a b := by
  obtain ⟨c0, c1, f0, f1, hl⟩ := h
  refine ⟨?_, ?_, ?_, ?_, ?_⟩
  · rw [World.cell?_setCell_other _ _ _ _ (by simp), World.cell?_setCell_same _ _ _ c0]
  · rw [World.cell?_setCell_same (u := .int .i64 y) _ _ _ ((World.cell?_setCell_other _ _ _ _ (by simp)).trans c1)]
  · simpa using f0
  · simpa using f1
  · simpa using hl

theorem Wh.dark {m o : Int} {M S G : Nat} (W : Wh m o M S G) : (S : Int) - (G : Int) = (1000 - o) / m := by
  obtain ⟨rfl, rfl, ms, m1, m2, g1, gs⟩ := W
  have e : (1000 : Int) - ((M * G : Nat) : Int) = (M : Int) * ((S : Int) - (G : Int)) := by
    rw [Int.mul_sub, ← Int.natCast_mul, ← Int.natCast_mul, ms]
    rfl
  rw [e, Int.mul_ediv_cancel_left _ (by omega)]

set_option maxHeartbeats 4000000 in
theorem implDark_yes (m o n d : Int) (w : World) (h1 : bladesB m o = true) (h2 : okB n d = true) (h3 : rateB n d = true) :
    Calls Try.prog 42 #[fr m o, fr n d] w fun e w' => e = .returned (.tuple #[fr ((((1000 - o) / m) * d).tdiv (divI (((1000 - o) / m) * d) (1000 * n))) ((1000 * n).tdiv (divI (((1000 - o) / m) * d) (1000 * n))), .int .i64 0]) ∧ Below w.heap.size w w' := by
  have lb := rateB_bd h3
  obtain ⟨M, S, G, W⟩ := Wh.of h1
  obtain ⟨s1, s2, s3, s4, m1, m2, o1, o2, m0⟩ := W.sb
  go_enter Try.func42, Try.ntmps42
  go_wp2_with fail
  refine (validBlades_any m o _).mono ?_
  rintro e u1 ⟨rfl, hb1⟩
  have Q0 : Bk u1 (w.heap.size) m o := by exact bkOf hb1 (by refine ⟨?_, ?_, ?_, ?_, ?_⟩ <;> go_simp)
  have Q1 : Bk u1 (w.heap.size + 1) n d := by exact bkOf hb1 (by refine ⟨?_, ?_, ?_, ?_, ?_⟩ <;> go_simp)
  have Q2 : Bk u1 (w.heap.size + 1 + 1) 0 0 := by exact bkOf hb1 (by refine ⟨?_, ?_, ?_, ?_, ?_⟩ <;> go_simp)
  have hw1 : Below w.heap.size w u1 := bTrans (bAlloc (bAlloc (bAlloc (Below.refl _ _) _) _) _) hb1
  have P0 := Q0
  have P1 := Q1
  have P2 := Q2
  obtain ⟨a0, b0, f0, g0, z0⟩ := Q0
  obtain ⟨a1, b1, f1, g1, z1⟩ := Q1
  obtain ⟨a2, b2, f2, g2, z2⟩ := Q2
  go_wp2_with fail
  refine (validFraction_any _ _ _).mono ?_
  rintro e u2 ⟨rfl, hb2⟩
  have Q0 := bkOf hb2 P0
  have Q1 := bkOf hb2 P1
  have Q2 := bkOf hb2 P2
  have hw2 := bTrans hw1 hb2
  clear P0 a0 b0 f0 g0 z0 P1 a1 b1 f1 g1 z1 P2 a2 b2 f2 g2 z2 hb1 hb2 hw1
  have P0 := Q0
  have P1 := Q1
  have P2 := Q2
  obtain ⟨a0, b0, f0, g0, z0⟩ := Q0
  obtain ⟨a1, b1, f1, g1, z1⟩ := Q1
  obtain ⟨a2, b2, f2, g2, z2⟩ := Q2
  go_wp2_with fail
  refine (wheelRate_any _ _ _).mono ?_
  rintro e u3 ⟨rfl, hb3⟩
  have Q0 := bkOf hb3 P0
  have Q1 := bkOf hb3 P1
  have Q2 := bkOf hb3 P2
  have hw3 := bTrans hw2 hb3
  clear P0 a0 b0 f0 g0 z0 P1 a1 b1 f1 g1 z1 P2 a2 b2 f2 g2 z2 hb3 hw2
  have P0 := Q0
  have P1 := Q1
  have P2 := Q2
  obtain ⟨a0, b0, f0, g0, z0⟩ := Q0
  obtain ⟨a1, b1, f1, g1, z1⟩ := Q1
  obtain ⟨a2, b2, f2, g2, z2⟩ := Q2
  generalize hk : w.heap.size = k at *
  have HK := Lib.hid hk
  clear hk
  have mk : ∀ v, Below u3.heap.size u3 v → v.cell? ⟨k, 0, none⟩ = some (.int .i64 m) ∧ v.cell? ⟨k, 1, none⟩ = some (.int .i64 o) ∧ Below u3.heap.size u3 v := fun v hb => ⟨(hb.cell (p := ⟨k, 0, none⟩) z0).trans a0, (hb.cell (p := ⟨k, 1, none⟩) z0).trans b0, hb⟩
  have MK := Lib.hid mk
  have wgs := W.gs
  have dm := W.dark
  have md := mulBd (x := (1000 - o) / m) (y := d) 1000 1000 (by omega) (by omega) (by omega) (by omega)
  have hw : IntKind.i64.wrap ((S : Int) - (G : Int)) = (1000 - o) / m := by
    rw [IntWalk.i64_in _ (by omega)]
    exact W.dark
  have hw2 : IntKind.i64.wrap ((1000 - o) / m) = (1000 - o) / m := IntWalk.i64_in _ (by omega)
  clear mk
  go_upto_region 5 with fail
  go_cut [6] (fun s6 wx => ∃ g : Nat, s6 = .pointer (some ⟨g, 0, none⟩) ∧ Bk wx g ((1000 - o) / m) 1000 ∧ u3.heap.size ≤ g ∧ Below u3.heap.size u3 wx)
  case first =>
    go_region_held3 (fun v => v.cell? ⟨k, 0, none⟩ = some (.int .i64 m) ∧ v.cell? ⟨k, 1, none⟩ = some (.int .i64 o) ∧ Below u3.heap.size u3 v) (first | exact MK.out _ (by repeat (first | exact HB.out | exact Below.refl _ _ | refine bSet ?_ (by first | (simp; done) | (simp; omega) | omega) _ | refine bAlloc ?_ _ | refine Below.drew ?_)) | (trace_state; fail)) (first | (go_at_call 84; refine (sector_any m o W _).mono ?_; rintro e v ⟨rfl, hbv⟩; have HB := Lib.hid (bTrans (‹_ ∧ _ ∧ Below _ u3 _›).2.2 hbv); obtain ⟨hc, hf⟩ := bCells hbv; have hs := HB.out.size; have hl := fun (b : Nat) h => Nat.lt_of_lt_of_le (n := b) h hbv.size) | (go_at_call 85; refine (gap_any m o W _).mono ?_; rintro e v ⟨rfl, hbv⟩; have HB := Lib.hid (bTrans (‹_ ∧ _ ∧ Below _ u3 _›).2.2 hbv); obtain ⟨hc, hf⟩ := bCells hbv; have hs := HB.out.size; have hl := fun (b : Nat) h => Nat.lt_of_lt_of_le (n := b) h hbv.size))
    all_goals go_wp2_with fail
    all_goals go_meet
    all_goals refine ⟨_, rfl, (by first | (refine ⟨?_, ?_, ?_, ?_, ?_⟩ <;> (go_simp; done)) | exact bkSet2 (x := 0) (y := 0) (by refine ⟨?_, ?_, ?_, ?_, ?_⟩ <;> go_simp)), (by first | (simp; done) | omega), ?_⟩
    all_goals (repeat (first | exact HB.out | exact Below.refl _ _ | refine bSet ?_ (by first | (simp; done) | (simp; omega) | omega) _ | refine bAlloc ?_ _ | refine Below.drew ?_))
  case rest =>
    obtain ⟨g, rfl, B3, hg, hb⟩ := hcut
    obtain ⟨i0, i1, j0, j1, l1⟩ := bkOf hb P1
    obtain ⟨i2, i3, j2, j3, l2⟩ := bkOf hb P2
    have B2 := bkOf hb P2
    obtain ⟨i4, i5, j4, j5, l4⟩ := B3
    clear a0 b0 a1 b1 a2 b2 f0 g0 f1 g1 f2 g2 P0 P1 P2 MK
    go_wp2_with fail
    refine (times_any ((1000 - o) / m) 1000 d n _ (by omega) (by omega) (by omega) (by omega) (by omega) (by omega) (by omega) (by omega)).mono ?_
    rintro e u4 ⟨rfl, hb4⟩
    have B4 := bkOf hb4 (bkOf (bAlloc (Below.refl _ _) _) B2)
    go_wp2_with fail
    refine (lowest_any (((1000 - o) / m) * d) (1000 * n) _ (by omega) (by omega) (by omega) (by omega) (by omega)).mono ?_
    rintro e u5 ⟨rfl, hb5⟩
    clear i0 i1 i2 i3 i4 i5 j0 j1 j2 j3 j4 j5 l1 l4
    obtain ⟨i0, i1, j0, j1, l1⟩ := bkOf hb5 B4
    go_wp2_with fail
    refine bodyPost_ret (v := _) (by simp [results, Try.results42, go_sem, i0, i1, l1, Nat.ne_of_lt l1]) rfl ⟨rfl, ?_⟩
    rw [HK.out]
    have h6 : Below k wc u5 := ((bTrans (bTrans (bAlloc (Below.refl _ _) _) hb4) hb5).mono (by omega))
    have h7 : Below k w u5 := hw3.trans ((hb.mono (by omega)).trans h6)
    exact (h7.setCell (p := ⟨k + 1 + 1, 0, none⟩) (by simp; omega) _).setCell (p := ⟨k + 1 + 1, 1, none⟩) (by simp; omega) _

end Go.Proofs.Ytflgjohknjgdcaa
