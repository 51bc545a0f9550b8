/- Wheels with blades: when they are valid, their sectors and gaps. -/
import Derived.Test.YtflgjohknjgdcaaProg
import Derived.Test.YtflgjohknjgdcaaLeaf
import Derived.Test.YtflgjohknjgdcaaWithin
import Derived.Laws.Cover1
import Derived.Deep.RegionWith
import Derived.Deep.DrawnRows
import Derived.Deep.RegionHeld3
import Derived.Tactics
import Derived.Tactics2
import Derived.WalkKit
import Derived.LoopTactic
import Derived.BigQuiet
import Derived.RegionTactic
import Derived.Deep.QuietTactic
import Derived.Outline
import Derived.Lib.Hide
import Derived.Below
import Derived.KernelRfl
namespace Go.Proofs.Ytflgjohknjgdcaa
set_option linter.unusedSimpArgs false
set_option linter.unusedVariables false
open Go.RowKit

/-- A wheel may have so many blades. -/
def countB (m : Int) : Bool := inB m 1 12 && decide (1000 % m = 0)
/-- A wheel is valid. -/
def bladesB (m o : Int) : Bool := inB m 1 12 && inB o 1 999 && decide (o % m = 0) && decide (1000 % m = 0)

theorem bladesB_eq (m o : Int) : bladesB m o = (countB m && inB o 1 999 && decide (o % m = 0)) := by
  unfold bladesB countB
  cases inB m 1 12 <;> cases inB o 1 999 <;> cases decide (o % m = 0) <;> cases decide ((1000 : Int) % m = 0) <;> rfl

/-- A valid wheel as natural numbers: blades, parts of a sector, parts of a gap. -/
structure Wh (m o : Int) (M S G : Nat) : Prop where
  hm : m = (M : Int)
  ho : o = ((M * G : Nat) : Int)
  ms : M * S = 1000
  m1 : 1 ≤ M
  m2 : M ≤ 12
  g1 : 1 ≤ G
  gs : G < S

theorem Wh.of {m o : Int} (h : bladesB m o = true) : ∃ M S G, Wh m o M S G := by
  simp only [bladesB, Bool.and_eq_true, inB_iff, decide_eq_true_eq] at h
  obtain ⟨⟨⟨⟨a, b⟩, c, d⟩, e⟩, f⟩ := h
  obtain ⟨M, rfl⟩ := Int.eq_ofNat_of_zero_le (show 0 ≤ m by omega)
  obtain ⟨O, rfl⟩ := Int.eq_ofNat_of_zero_le (show 0 ≤ o by omega)
  have e1 : O % M = 0 := by exact_mod_cast e
  have f1 : 1000 % M = 0 := by
    have f2 : ((1000 % M : Nat) : Int) = 0 := by rw [Int.natCast_emod]; exact f
    omega
  have e2 : M * (O / M) = O := Nat.mul_div_cancel' (Nat.dvd_of_mod_eq_zero e1)
  have f2 : M * (1000 / M) = 1000 := Nat.mul_div_cancel' (Nat.dvd_of_mod_eq_zero f1)
  refine ⟨M, 1000 / M, O / M, rfl, by rw [e2], f2, by omega, by omega, ?_, ?_⟩
  · apply Nat.pos_of_ne_zero
    intro h0
    rw [h0] at e2
    omega
  · apply Nat.lt_of_mul_lt_mul_left (a := M)
    rw [e2, f2]
    omega

theorem Wh.sb {m o : Int} {M S G : Nat} (h : Wh m o M S G) : 83 ≤ S ∧ S ≤ 1000 ∧ (1000 : Int) / m = S ∧ o / m = G ∧ 1 ≤ m ∧ m ≤ 12 ∧ 1 ≤ o ∧ o ≤ 999 ∧ ¬ m = 0 := by
  obtain ⟨rfl, rfl, ms, m1, m2, g1, gs⟩ := h
  have hS : S = 1000 / M := (Nat.div_eq_of_eq_mul_right (by omega) ms.symm).symm
  have hG : (M * G) / M = G := Nat.mul_div_cancel_left _ (by omega)
  have h1 : M * G < M * S := Nat.mul_lt_mul_of_pos_left gs (by omega)
  have h2 : M * 1 ≤ M * G := Nat.mul_le_mul_left M g1
  refine ⟨?_, ?_, ?_, ?_, by omega, by omega, by omega, by omega, by omega⟩
  · rcases Nat.lt_or_ge S 83 with h | h
    · have := Nat.mul_le_mul m2 (show S ≤ 82 by omega)
      omega
    · exact h
  · have := Nat.mul_le_mul m1 (Nat.le_refl S)
    omega
  · rw [hS]; rfl
  · rw [← Int.natCast_ediv, hG]

theorem binfo : (Try.prog.info? 25).map (fun i => (i.zero, i.size, i.bytes)) = some (some (.agg #[.int .i64 0, .int .i64 0]), 2, 16) := by kernel_rfl

/-- laws.toBlades. -/
theorem toBlades_any (m o : Int) (w : World) :
    Calls Try.prog 49 #[fr m o] w fun e w' => e = .returned (fr m o) ∧ Below w.heap.size w w' := by
  go_enter Try.func49, Try.ntmps49
  go_wp2
  refine bodyPost_ret (v := fr m o) (by simp [results, Try.results49, go_sem]) rfl ⟨rfl, ?_⟩
  repeat (first | exact Below.refl _ _ | refine bAlloc ?_ _)

/-- impl.isBladeCount. -/
theorem bladeCount_any (m : Int) (w : World) :
    Calls Try.prog 64 #[.int .i64 m] w fun e w' => e = .returned (.bool (countB m)) ∧ w = w' := by
  cases h1 : inB m 1 12
  · go_enter Try.func64, Try.ntmps64
    go_wp2_with (go_at_call 78; refine (isWithin_any _ _ _ _).mono ?_; rintro e u ⟨rfl, rfl⟩)
    go_ret
    exact ⟨ret_bool (by simp [countB, h1]), rfl⟩
  · obtain ⟨a, b⟩ := inB_iff.1 h1
    have h0 : ¬ m = 0 := by omega
    by_cases h2 : 1000 % m = 0
    · go_enter Try.func64, Try.ntmps64
      go_wp2_with (go_at_call 78; refine (isWithin_any _ _ _ _).mono ?_; rintro e u ⟨rfl, rfl⟩)
      go_ret
      exact ⟨ret_bool (by simp [countB, h1, h2]), rfl⟩
    · go_enter Try.func64, Try.ntmps64
      go_wp2_with (go_at_call 78; refine (isWithin_any _ _ _ _).mono ?_; rintro e u ⟨rfl, rfl⟩)
      go_ret
      exact ⟨ret_bool (by simp [countB, h1, h2]), rfl⟩

/-- impl.ValidBlades. -/
theorem validBlades_any (m o : Int) (w : World) :
    Calls Try.prog 32 #[fr m o] w fun e w' => e = .returned (.bool (bladesB m o)) ∧ Below w.heap.size w w' := by
  cases h1 : countB m
  · go_enter Try.func32, Try.ntmps32
    go_wp2_with (first | (go_at_call 64; refine (bladeCount_any _ _).mono ?_; rintro e u ⟨rfl, rfl⟩) | (go_at_call 78; refine (isWithin_any _ _ _ _).mono ?_; rintro e u ⟨rfl, rfl⟩))
    go_ret
    exact ⟨ret_bool (by simp [bladesB_eq, h1]), bAlloc (Below.refl _ _) _⟩
  · cases h2 : inB o 1 999
    · go_enter Try.func32, Try.ntmps32
      go_wp2_with (first | (go_at_call 64; refine (bladeCount_any _ _).mono ?_; rintro e u ⟨rfl, rfl⟩) | (go_at_call 78; refine (isWithin_any _ _ _ _).mono ?_; rintro e u ⟨rfl, rfl⟩))
      go_ret
      exact ⟨ret_bool (by simp [bladesB_eq, h2]), bAlloc (Below.refl _ _) _⟩
    · have k1 := h1
      simp only [countB, Bool.and_eq_true, inB_iff, decide_eq_true_eq] at k1
      obtain ⟨⟨m1, m2⟩, m3⟩ := k1
      obtain ⟨o1, o2⟩ := inB_iff.1 h2
      have h0 : ¬ m = 0 := by omega
      clear m3
      by_cases h3 : o % m = 0
      · go_enter Try.func32, Try.ntmps32
        go_wp2_with (first | (go_at_call 64; refine (bladeCount_any _ _).mono ?_; rintro e u ⟨rfl, rfl⟩) | (go_at_call 78; refine (isWithin_any _ _ _ _).mono ?_; rintro e u ⟨rfl, rfl⟩))
        go_ret
        exact ⟨ret_bool (by simp [bladesB_eq, h1, h2, h3]), bAlloc (Below.refl _ _) _⟩
      · go_enter Try.func32, Try.ntmps32
        go_wp2_with (first | (go_at_call 64; refine (bladeCount_any _ _).mono ?_; rintro e u ⟨rfl, rfl⟩) | (go_at_call 78; refine (isWithin_any _ _ _ _).mono ?_; rintro e u ⟨rfl, rfl⟩))
        go_ret
        exact ⟨ret_bool (by simp [bladesB_eq, h1, h2, h3]), bAlloc (Below.refl _ _) _⟩

theorem l00In_yes {n lo hi : Int} {w : World} (h : inB n lo hi = true) :
    Calls Try.prog 75 #[.int .i64 n, .int .i64 lo, .int .i64 hi] w fun e w' => e = .returned (.bool true) ∧ w = w' := by
  have := l00In_any n lo hi w
  rwa [h] at this
theorem l00In_no {n lo hi : Int} {w : World} (h : inB n lo hi = false) :
    Calls Try.prog 75 #[.int .i64 n, .int .i64 lo, .int .i64 hi] w fun e w' => e = .returned (.bool false) ∧ w = w' := by
  have := l00In_any n lo hi w
  rwa [h] at this

set_option maxHeartbeats 2000000 in
/-- spec.l09Ok. -/
theorem l09Ok_any (b : Nat) (m o : Int) (w : World) (B : Bk w b m o) :
    Calls Try.prog 68 #[.pointer (some ⟨b, 0, none⟩)] w fun e w' => e = .returned (.bool (bladesB m o)) ∧ ∃ n, w' = w.drewN n := by
  obtain ⟨c0, c1, f0, f1, hl⟩ := B
  cases h1 : inB m 1 12
  · go_enter Try.func68, Try.ntmps68
    go_wp2
    go_quiet ((go_at_call 75; first | exact quietEq (l00In_no h1) | exact quietEq (l00In_yes h1) | exact quietEq (l00In_no h2) | exact quietEq (l00In_yes h2)))
    go_wp2
    go_ret
    exact ⟨ret_bool (by simp [bladesB, h1]), _, rfl⟩
  · cases h2 : inB o 1 999
    · go_enter Try.func68, Try.ntmps68
      go_wp2
      go_quiet ((go_at_call 75; first | exact quietEq (l00In_no h1) | exact quietEq (l00In_yes h1) | exact quietEq (l00In_no h2) | exact quietEq (l00In_yes h2)))
      go_wp2
      go_ret
      exact ⟨ret_bool (by simp [bladesB, h2]), _, rfl⟩
    · obtain ⟨m1, m2⟩ := inB_iff.1 h1
      obtain ⟨o1, o2⟩ := inB_iff.1 h2
      have h0 : ¬ m = 0 := by omega
      by_cases h3 : o % m = 0
      · have e3 : (o % m == 0) = true := by simp [h3]
        by_cases h4 : 1000 % m = 0
        all_goals
          go_enter Try.func68, Try.ntmps68
          go_wp2
          go_quiet ((go_at_call 75; first | exact quietEq (l00In_no h1) | exact quietEq (l00In_yes h1) | exact quietEq (l00In_no h2) | exact quietEq (l00In_yes h2)))
          go_wp2
          go_ret
          exact ⟨ret_bool (by simp [bladesB, h1, h2, h3, h4]), _, rfl⟩
      · have e3 : (o % m == 0) = false := by simp [h3]
        go_enter Try.func68, Try.ntmps68
        go_wp2
        go_quiet ((go_at_call 75; first | exact quietEq (l00In_no h1) | exact quietEq (l00In_yes h1) | exact quietEq (l00In_no h2) | exact quietEq (l00In_yes h2)))
        go_wp2
        go_ret
        exact ⟨ret_bool (by simp [bladesB, h1, h2, h3]), _, rfl⟩

theorem bkNew (w : World) (m o : Int) (t : TypeId) : Bk (w.alloc (.cells #[.int .i64 m, .int .i64 o] t)) w.heap.size m o := by
  refine ⟨?_, ?_, ?_, ?_, ?_⟩ <;> go_simp

/-- spec.ValidBlades. -/
theorem specValidBlades_any (m o : Int) (w : World) :
    Calls Try.prog 33 #[fr m o] w fun e w' => e = .returned (.bool (bladesB m o)) ∧ Below w.heap.size w w' := by
  go_enter Try.func33, Try.ntmps33
  go_wp2_with (go_at_call 68; refine (l09Ok_any _ m o _ (bkNew _ _ _ _)).mono ?_; rintro e u ⟨rfl, nd, rfl⟩)
  go_ret
  exact ⟨rfl, bDrewN (bAlloc (Below.refl _ _) _) _⟩

/-- impl.Blades.sector. -/
theorem sector_any (m o : Int) {M S G : Nat} (W : Wh m o M S G) (w : World) :
    Calls Try.prog 84 #[fr m o] w fun e w' => e = .returned (.int .i64 S) ∧ Below w.heap.size w w' := by
  obtain ⟨s1, s2, s3, s4, m1, m2, o1, o2, m0⟩ := W.sb
  go_enter Try.func84, Try.ntmps84
  go_wp2
  go_ret
  exact ⟨ret_int (by rw [← s3]), bAlloc (Below.refl _ _) _⟩

/-- impl.Blades.gap. -/
theorem gap_any (m o : Int) {M S G : Nat} (W : Wh m o M S G) (w : World) :
    Calls Try.prog 85 #[fr m o] w fun e w' => e = .returned (.int .i64 G) ∧ Below w.heap.size w w' := by
  obtain ⟨s1, s2, s3, s4, m1, m2, o1, o2, m0⟩ := W.sb
  go_enter Try.func85, Try.ntmps85
  go_wp2
  go_ret
  exact ⟨ret_int (by rw [← s4]), bAlloc (Below.refl _ _) _⟩

/-- A part is open. -/
def openB (S G : Nat) (x : Nat) : Bool := decide (x % S < G)

theorem openB_eq {S G x : Nat} : decide ((x : Int) % (S : Int) < (G : Int)) = openB S G x :=
  decide_eq_decide.2 (by rw [← Int.natCast_emod]; exact Int.ofNat_lt)

/-- spec.l09Open. -/
theorem l09Open_any (b : Nat) (m o : Int) {M S G : Nat} (W : Wh m o M S G) (x : Nat) (w : World) (B : Bk w b m o) (hx : x ≤ 1000000) :
    Calls Try.prog 76 #[.pointer (some ⟨b, 0, none⟩), .int .i64 x] w fun e w' => e = .returned (.bool (openB S G x)) ∧ ∃ n, w' = w.drewN n := by
  obtain ⟨s1, s2, s3, s4, m1, m2, o1, o2, m0⟩ := W.sb
  obtain ⟨c0, c1, f0, f1, hl⟩ := B
  have hS : ¬ (S : Int) = 0 := by omega
  go_enter Try.func76, Try.ntmps76
  go_wp2
  go_quiet (fail)
  go_wp2
  go_ret
  refine ⟨ret_bool ?_, _, rfl⟩
  exact openB_eq

/-- The wheel's function of its open parts: its two variables. -/
def Op (w : World) (b1 b2 S G : Nat) : Prop :=
  w.cell? ⟨b1, 0, none⟩ = some (.int .i64 S) ∧ w.cell? ⟨b2, 0, none⟩ = some (.int .i64 G) ∧ b1 < w.heap.size ∧ b2 < w.heap.size

/-- impl.Blades.opening's function. -/
theorem opening1_any (b1 b2 : Nat) {S G : Nat} (x : Nat) (w : World) (h : Op w b1 b2 S G) (hS : 1 ≤ S) (hS2 : S ≤ 1000) (hG : G ≤ 1000) (hx : x ≤ 1000000) :
    Calls Try.prog 96 #[.int .i64 x, .pointer (some ⟨b1, 0, none⟩), .pointer (some ⟨b2, 0, none⟩)] w fun e w' => e = .returned (.bool (openB S G x)) ∧ ∃ n, w' = w.drewN n := by
  obtain ⟨c0, c1, l1, l2⟩ := h
  have hS0 : ¬ (S : Int) = 0 := by omega
  go_enter Try.func96, Try.ntmps96
  go_wp2
  go_quiet (fail)
  go_wp2
  go_ret
  refine ⟨ret_bool ?_, _, rfl⟩
  exact openB_eq

end Go.Proofs.Ytflgjohknjgdcaa
