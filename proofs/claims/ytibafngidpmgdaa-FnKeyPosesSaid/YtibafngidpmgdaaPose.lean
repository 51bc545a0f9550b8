/- Whether joints are a pose, whether two poses are equal: the program and the model. -/
import Derived.Test.YtibafngidpmgdaaProg
import Derived.Test.YtibafngidpmgdaaPts
import Derived.OwnWalk
import Derived.Deep.RegionWith
import Derived.Deep.DrawnRows
import Derived.Deep.RegionHeld3
import Derived.Laws.StructEq
import Derived.Tactics
import Derived.Tactics2
import Derived.WalkKit
import Derived.LoopTactic
import Derived.BigQuiet
import Derived.RegionTactic
import Derived.Deep.QuietTactic
import Derived.Outline
import Derived.Lib.Hide
import Derived.Below
import Derived.KernelRfl
namespace Go.Proofs.Ytibafngidpmgdaa
set_option linter.unusedSimpArgs false
set_option linter.unusedVariables false
open Go.RowKit

/-- A joint is within the span. -/
def ptB (p : Pt) : Bool := inB p.1 0 1000 && inB p.2 0 1000
/-- Joints are a pose. -/
def poseB (ps : List Pt) : Bool := inB ps.length 1 8 && ps.all ptB

theorem ptB_bd {p : Pt} (h : ptB p = true) : 0 ≤ p.1 ∧ p.1 ≤ 1000 ∧ 0 ≤ p.2 ∧ p.2 ≤ 1000 := by
  simp only [ptB, Bool.and_eq_true] at h
  obtain ⟨h1, h2⟩ := h
  obtain ⟨a, b⟩ := inB_iff.1 h1
  obtain ⟨c, d⟩ := inB_iff.1 h2
  exact ⟨a, b, c, d⟩
theorem poseB_len {ps : List Pt} (h : poseB ps = true) : 1 ≤ ps.length ∧ ps.length ≤ 8 := by
  simp only [poseB, Bool.and_eq_true] at h
  have := inB_iff.1 h.1
  omega
theorem getD_mem (ps : List Pt) (j : Nat) (h : j < ps.length) : ps.getD j (0, 0) ∈ ps := by
  rw [List.getD_eq_getElem?_getD, List.getElem?_eq_getElem h]
  exact List.getElem_mem h
theorem poseB_get {ps : List Pt} (h : poseB ps = true) (j : Nat) (hj : j < ps.length) : 0 ≤ (ps.getD j (0, 0)).1 ∧ (ps.getD j (0, 0)).1 ≤ 1000 ∧ 0 ≤ (ps.getD j (0, 0)).2 ∧ (ps.getD j (0, 0)).2 ≤ 1000 := by
  simp only [poseB, Bool.and_eq_true] at h
  exact ptB_bd (List.all_eq_true.1 h.2 _ (getD_mem ps j hj))
theorem poseB_long {ps : List Pt} (h : ¬ (1 ≤ (ps.length : Int) ∧ (ps.length : Int) ≤ 8)) : poseB ps = false := by
  simp only [poseB, inB_not.2 h, Bool.false_and]
theorem poseB_bad {ps : List Pt} (j : Nat) (hj : j < ps.length) (h : ptB (ps.getD j (0, 0)) = false) : poseB ps = false := by
  rw [poseB, Bool.and_eq_false_iff]
  refine .inr ?_
  rw [List.all_eq_false]
  exact ⟨_, getD_mem ps j hj, by rw [h]; simp⟩
theorem poseB_all {ps : List Pt} (h : ∀ j, j < ps.length → ptB (ps.getD j (0, 0)) = true) : poseB ps = inB ps.length 1 8 := by
  rw [poseB]
  have : ps.all ptB = true := by
    rw [List.all_eq_true]
    intro p hp
    obtain ⟨j, hj, rfl⟩ := List.getElem_of_mem hp
    have := h j hj
    rwa [List.getD_eq_getElem?_getD, List.getElem?_eq_getElem hj] at this
  rw [this, Bool.and_true]

/-- impl.Point.isValid. -/
theorem isValid_any (x y : Int) (w : World) :
    Calls Try.prog 114 #[fr x y] w fun e w' => e = .returned (.bool (ptB (x, y))) ∧ Below w.heap.size w w' := by
  by_cases d1 : 0 ≤ x
  · by_cases d2 : x ≤ 1000
    · by_cases n1 : 0 ≤ y
      · by_cases n2 : y ≤ 1000
        all_goals
          go_enter Try.func114, Try.ntmps114
          go_wp2
          go_ret
          exact ⟨ret_bool (by simp [ptB, inB]; omega), bAlloc (Below.refl _ _) _⟩
      · go_enter Try.func114, Try.ntmps114
        go_wp2
        go_ret
        exact ⟨ret_bool (by simp [ptB, inB]; omega), bAlloc (Below.refl _ _) _⟩
    · go_enter Try.func114, Try.ntmps114
      go_wp2
      go_ret
      exact ⟨ret_bool (by simp [ptB, inB]; omega), bAlloc (Below.refl _ _) _⟩
  · go_enter Try.func114, Try.ntmps114
    go_wp2
    go_ret
    exact ⟨ret_bool (by simp [ptB, inB]; omega), bAlloc (Below.refl _ _) _⟩

set_option maxHeartbeats 1000000 in
set_option maxRecDepth 100000 in
/-- impl.ValidPose. -/
theorem validPose_any (A : Option Addr) (n c : Nat) (ps : List Pt) (w : World) (hv : Rd w A n ps) :
    Calls Try.prog 47 #[.slice A n c] w fun e w' => e = .returned (.bool (poseB ps)) ∧ Below w.heap.size w w' := by
  have hn := hv.2.1
  have HL := Lib.hid hv.1
  have HV := Lib.hid hv
  clear hv
  by_cases h1 : 1 ≤ n
  · by_cases h2 : n ≤ 8
    · go_enter Try.func47, Try.ntmps47
      go_wp2
      go_loopw [15] (fun i wr => ∃ k : Nat, k ≤ n ∧ i = .int .i64 k ∧ Hid (∀ j, j < k → ptB (ps.getD j (0, 0)) = true) ∧ Hid (Below w.heap.size w wr)) (fun i _ => n - (intOf i).toNat)
      case atStart => exact ⟨0, Nat.zero_le _, rfl, Lib.hid (fun j hj => by omega), Lib.hid (Below.refl _ _)⟩
      case round =>
        obtain ⟨k, hk, rfl, HP, HB⟩ := hrel
        by_cases hlt : k < n
        · obtain ⟨_, _, h3⟩ := HV.out.below HB.out
          rcases h3 with h0 | ⟨g, rfl, hg, h3⟩
          · omega
          obtain ⟨c0, c1⟩ := h3 k hlt
          clear h3
          obtain ⟨x, y, hq⟩ : ∃ x y, ps.getD k (0, 0) = (x, y) := ⟨_, _, rfl⟩
          rw [hq] at c0 c1
          simp only at c0 c1
          cases hb : ptB (x, y)
          · have HF := Lib.hid (poseB_bad k (by rw [HL.out]; exact hlt) (by rw [hq]; exact hb))
            clear hq
            go_wp2_with fail
            refine (isValid_any x y _).mono ?_
            rintro e u ⟨rfl, hb3⟩
            rw [hb]
            go_wp2
            go_ret
            exact ⟨ret_bool HF.out.symm, bTrans (bAlloc HB.out _) hb3⟩
          · have HF := Lib.hid (show ptB (ps.getD k (0, 0)) = true by rw [hq]; exact hb)
            clear hq
            go_wp2_with fail
            refine (isValid_any x y _).mono ?_
            rintro e u ⟨rfl, hb3⟩
            rw [hb]
            go_wp2
            go_roundw
            case rel => exact ⟨k + 1, by omega, by go_num, Lib.hid (fun j hj => by
              by_cases hjk : j < k
              · exact HP.out j hjk
              · have : j = k := by omega
                subst this
                exact HF.out), Lib.hid (bTrans (bAlloc HB.out _) hb3)⟩
            case measure => simp [intOf]; omega
        · have : k = n := by omega
          subst this
          have HF := Lib.hid (poseB_all (ps := ps) (by rw [HL.out]; exact HP.out))
          go_wp2
          go_ret
          exact ⟨ret_bool (by rw [HF.out, HL.out, inB_iff.2 (by omega)]), HB.out⟩
    · have HF := Lib.hid (poseB_long (ps := ps) (by rw [HL.out]; omega))
      go_enter Try.func47, Try.ntmps47
      go_wp2
      go_ret
      exact ⟨ret_bool HF.out.symm, Below.refl _ _⟩
  · have HF := Lib.hid (poseB_long (ps := ps) (by rw [HL.out]; omega))
    go_enter Try.func47, Try.ntmps47
    go_wp2
    go_ret
    exact ⟨ret_bool HF.out.symm, Below.refl _ _⟩

set_option maxHeartbeats 1000000 in
set_option maxRecDepth 100000 in
/-- spec.l04Ok. -/
theorem l04Ok_any (A : Option Addr) (n c : Nat) (ps : List Pt) (w : World) (hv : Rd w A n ps) :
    Calls Try.prog 83 #[.slice A n c] w fun e w' => e = .returned (.bool (poseB ps)) ∧ w = w' := by
  have hn := hv.2.1
  have HL := Lib.hid hv.1
  have HV := Lib.hid hv
  clear hv
  go_enter Try.func83, Try.ntmps83
  go_wp2
  go_loop [3] (fun i => ∃ k : Nat, k ≤ n ∧ i = .int .i64 k ∧ Hid (∀ j, j < k → ptB (ps.getD j (0, 0)) = true)) (fun i => n - (intOf i).toNat)
  case atStart => exact ⟨0, Nat.zero_le _, rfl, Lib.hid (fun j hj => by omega)⟩
  case round =>
    obtain ⟨k, hk, rfl, HP⟩ := hrel
    by_cases hlt : k < n
    · obtain ⟨_, _, h3⟩ := HV.out
      rcases h3 with h0 | ⟨g, rfl, hg, h3⟩
      · omega
      obtain ⟨c0, c1⟩ := h3 k hlt
      clear h3
      obtain ⟨x, y, hq⟩ : ∃ x y, ps.getD k (0, 0) = (x, y) := ⟨_, _, rfl⟩
      rw [hq] at c0 c1
      simp only at c0 c1
      have HQ := Lib.hid hq
      clear hq
      cases hbx : inB x 0 1000
      · have HF := Lib.hid (poseB_bad k (by rw [HL.out]; exact hlt) (by rw [HQ.out]; simp [ptB, hbx]))
        go_wp2_with fail
        refine (l00In_any _ _ _ _).mono ?_
        rintro e u ⟨rfl, rfl⟩
        rw [hbx]
        go_wp2
        go_ret
        exact ⟨ret_bool HF.out.symm, rfl⟩
      · cases hby : inB y 0 1000
        · have HF := Lib.hid (poseB_bad k (by rw [HL.out]; exact hlt) (by rw [HQ.out]; simp [ptB, hby]))
          go_wp2_with fail
          refine (l00In_any _ _ _ _).mono ?_
          rintro e u ⟨rfl, rfl⟩
          rw [hbx]
          go_wp2_with fail
          refine (l00In_any _ _ _ _).mono ?_
          rintro e u ⟨rfl, rfl⟩
          rw [hby]
          go_wp2
          go_ret
          exact ⟨ret_bool HF.out.symm, rfl⟩
        · have HF := Lib.hid (show ptB (ps.getD k (0, 0)) = true by rw [HQ.out]; simp [ptB, hbx, hby])
          go_wp2_with fail
          refine (l00In_any _ _ _ _).mono ?_
          rintro e u ⟨rfl, rfl⟩
          rw [hbx]
          go_wp2_with fail
          refine (l00In_any _ _ _ _).mono ?_
          rintro e u ⟨rfl, rfl⟩
          rw [hby]
          go_wp2
          go_round
          case rel => exact ⟨k + 1, by omega, by go_num, Lib.hid (fun j hj => by
            by_cases hjk : j < k
            · exact HP.out j hjk
            · have : j = k := by omega
              subst this
              exact HF.out)⟩
          case measure => simp [intOf]; omega
    · have : k = n := by omega
      subst this
      have HF := Lib.hid (poseB_all (ps := ps) (by rw [HL.out]; exact HP.out))
      go_wp2_with fail
      refine (l00In_any _ _ _ _).mono ?_
      rintro e u ⟨rfl, rfl⟩
      go_wp2
      go_ret
      exact ⟨ret_bool (by rw [HF.out, HL.out]), rfl⟩

/-- spec.ValidPose. -/
theorem specValidPose_any (A : Option Addr) (n c : Nat) (ps : List Pt) (w : World) (hv : Rd w A n ps) :
    Calls Try.prog 48 #[.slice A n c] w fun e w' => e = .returned (.bool (poseB ps)) ∧ w = w' := by
  have HV := Lib.hid hv
  clear hv
  go_enter Try.func48, Try.ntmps48
  go_wp2_with fail
  refine (l04Ok_any A n c ps _ HV.out).mono ?_
  rintro e u ⟨rfl, rfl⟩
  go_wp2
  go_ret
  exact ⟨rfl, rfl⟩

/-- Two points compared. -/
theorem equalIn_pt (a b c d : Int) (w : World) : (Op.equalIn 10000 57 (.agg #[.int .i64 a, .int .i64 b]) (.agg #[.int .i64 c, .int .i64 d])).run Try.prog w = .ok (a == c && b == d) w := by
  have u2 := Try.underlying2
  have h1 : Try.prog.underlying 57 = some (.struct (Try.prog.fieldsOf 57)) := by kernel_rfl
  have h2 : Try.prog.stoodInHeld 57 = false := by kernel_rfl
  rw [show (10000 : Nat) = 9999 + 1 from rfl, run_equalIn_agg w 9999 57 _ _ h1 h2]
  simp only [Program.fieldsOf, Try.underlying57]
  go_simp
  by_cases e1 : a = c <;> by_cases e2 : b = d <;> simp [e1, e2]
theorem neq_pt (a b c d : Int) (w : World) : (binOp .neq 57 (.agg #[.int .i64 a, .int .i64 b]) (.agg #[.int .i64 c, .int .i64 d])).run Try.prog w = .ok (.bool (!(a == c && b == d))) w := by
  rw [run_neq_struct, equalIn_pt]; rfl
attribute [local go_sem ↓] neq_pt

/-- Whether two lists of points are equal. -/
def sameB (ps qs : List Pt) : Bool := decide (ps = qs)
theorem sameB_len {ps qs : List Pt} (h : ps.length ≠ qs.length) : sameB ps qs = false := by
  rw [sameB, decide_eq_false_iff_not]
  exact fun e => h (by rw [e])
theorem sameB_off {ps qs : List Pt} (j : Nat) (h : ps.getD j (0, 0) ≠ qs.getD j (0, 0)) : sameB ps qs = false := by
  rw [sameB, decide_eq_false_iff_not]
  exact fun e => h (by rw [e])
theorem sameB_all {ps qs : List Pt} (hl : ps.length = qs.length) (h : ∀ j, j < ps.length → ps.getD j (0, 0) = qs.getD j (0, 0)) : sameB ps qs = true := by
  rw [sameB, decide_eq_true_iff]
  apply List.ext_getElem hl
  intro j h1 h2
  have := h j h1
  rwa [List.getD_eq_getElem?_getD, List.getElem?_eq_getElem h1, List.getD_eq_getElem?_getD, List.getElem?_eq_getElem h2] at this

set_option maxHeartbeats 1000000 in
set_option maxRecDepth 100000 in
/-- slices.Equal at points. -/
theorem equal_any (A A' : Option Addr) (n m c c' : Nat) (ps qs : List Pt) (w : World) (hv : Rd w A n ps) (hu : Rd w A' m qs) :
    Calls Try.prog 113 #[.slice A n c, .slice A' m c'] w fun e w' => e = .returned (.bool (sameB ps qs)) ∧ ∃ d, w' = w.drewN d := by
  have hn := hv.2.1
  have hm := hu.2.1
  have HLn := Lib.hid hv.1
  have HLm := Lib.hid hu.1
  have HV := Lib.hid hv
  have HU := Lib.hid hu
  clear hv hu
  by_cases hnm : n = m
  · have HNM := Lib.hid hnm
    have hnm2 : ((n : Int) != (m : Int)) = false := by simp [hnm]
    subst hnm
    go_enter Try.func113, Try.ntmps113
    go_wp2
    go_loopw [13] (fun i wr => ∃ k : Nat, k ≤ n ∧ i = .int .i64 k ∧ Hid (∀ j, j < k → ps.getD j (0, 0) = qs.getD j (0, 0)) ∧ ∃ d, Hid (wr = w.drewN d)) (fun i _ => n - (intOf i).toNat)
    case atStart => exact ⟨0, Nat.zero_le _, rfl, Lib.hid (fun j hj => by omega), 0, Lib.hid rfl⟩
    case round =>
      obtain ⟨k, hk, rfl, HP, d0, HW⟩ := hrel
      by_cases hlt : k < n
      · obtain ⟨_, _, h3⟩ := HV.out.drewN d0
        obtain ⟨_, _, h4⟩ := HU.out.drewN d0
        rw [← HW.out] at h3 h4
        rcases h3 with h0 | ⟨g, rfl, hg, h3⟩
        · omega
        rcases h4 with h0 | ⟨b, rfl, hb, h4⟩
        · omega
        obtain ⟨c0, c1⟩ := h3 k hlt
        obtain ⟨c2, c3⟩ := h4 k hlt
        clear h3 h4
        obtain ⟨x, y, hq⟩ : ∃ x y, ps.getD k (0, 0) = (x, y) := ⟨_, _, rfl⟩
        obtain ⟨x', y', hq'⟩ : ∃ x y, qs.getD k (0, 0) = (x, y) := ⟨_, _, rfl⟩
        rw [hq] at c0 c1
        rw [hq'] at c2 c3
        simp only at c0 c1 c2 c3
        cases hs : (x == x' && y == y')
        · have HF := Lib.hid (show sameB ps qs = false from sameB_off k (by
            rw [hq, hq']
            intro e
            cases e
            simp at hs))
          clear hq hq'
          go_wp2
          go_quiet (fail)
          go_wp2
          go_ret
          exact ⟨ret_bool HF.out.symm, _, by rw [HW.out, World.drewN_drewN]⟩
        · have HF := Lib.hid (show ps.getD k (0, 0) = qs.getD k (0, 0) by
            simp only [Bool.and_eq_true, beq_iff_eq] at hs
            rw [hq, hq', hs.1, hs.2])
          clear hq hq'
          go_wp2
          go_quiet (fail)
          go_wp2
          go_roundw
          case rel => exact ⟨k + 1, by omega, by go_num, Lib.hid (fun j hj => by
            by_cases hjk : j < k
            · exact HP.out j hjk
            · have : j = k := by omega
              subst this
              exact HF.out), _, Lib.hid (by rw [HW.out, World.drewN_drewN])⟩
          case measure => simp [intOf]; omega
      · have : k = n := by omega
        subst this
        have HF := Lib.hid (sameB_all (ps := ps) (qs := qs) (by rw [HLn.out, HLm.out]) (by rw [HLn.out]; exact HP.out))
        go_wp2
        go_ret
        exact ⟨ret_bool HF.out.symm, d0, HW.out⟩
  · have HF := Lib.hid (sameB_len (ps := ps) (qs := qs) (by rw [HLn.out, HLm.out]; exact hnm))
    have hne : ¬ (n : Int) = (m : Int) := by omega
    have hnm2 : ((n : Int) != (m : Int)) = true := by rw [bne_iff_ne]; omega
    go_enter Try.func113, Try.ntmps113
    go_wp2
    go_ret
    exact ⟨ret_bool HF.out.symm, 0, rfl⟩

set_option maxHeartbeats 1000000 in
set_option maxRecDepth 100000 in
/-- spec.SamePose. -/
theorem specSamePose_any (A A' : Option Addr) (n m c c' : Nat) (ps qs : List Pt) (w : World) (hv : Rd w A n ps) (hu : Rd w A' m qs) :
    Calls Try.prog 45 #[.slice A n c, .slice A' m c'] w fun e w' => e = .returned (.bool (sameB ps qs)) ∧ ∃ d, w' = w.drewN d := by
  have hn := hv.2.1
  have hm := hu.2.1
  have HLn := Lib.hid hv.1
  have HLm := Lib.hid hu.1
  have HV := Lib.hid hv
  have HU := Lib.hid hu
  clear hv hu
  by_cases hnm : n = m
  · have HNM := Lib.hid hnm
    have hnm2 : ((n : Int) != (m : Int)) = false := by simp [hnm]
    subst hnm
    go_enter Try.func45, Try.ntmps45
    go_wp2
    go_loopw [5] (fun i wr => ∃ k : Nat, k ≤ n ∧ i = .int .i64 k ∧ Hid (∀ j, j < k → ps.getD j (0, 0) = qs.getD j (0, 0)) ∧ ∃ d, Hid (wr = w.drewN d)) (fun i _ => n - (intOf i).toNat)
    case atStart => exact ⟨0, Nat.zero_le _, rfl, Lib.hid (fun j hj => by omega), 0, Lib.hid rfl⟩
    case round =>
      obtain ⟨k, hk, rfl, HP, d0, HW⟩ := hrel
      by_cases hlt : k < n
      · obtain ⟨_, _, h3⟩ := HV.out.drewN d0
        obtain ⟨_, _, h4⟩ := HU.out.drewN d0
        rw [← HW.out] at h3 h4
        rcases h3 with h0 | ⟨g, rfl, hg, h3⟩
        · omega
        rcases h4 with h0 | ⟨b, rfl, hb, h4⟩
        · omega
        obtain ⟨c0, c1⟩ := h3 k hlt
        obtain ⟨c2, c3⟩ := h4 k hlt
        clear h3 h4
        obtain ⟨x, y, hq⟩ : ∃ x y, ps.getD k (0, 0) = (x, y) := ⟨_, _, rfl⟩
        obtain ⟨x', y', hq'⟩ : ∃ x y, qs.getD k (0, 0) = (x, y) := ⟨_, _, rfl⟩
        rw [hq] at c0 c1
        rw [hq'] at c2 c3
        simp only at c0 c1 c2 c3
        cases hs : (x == x' && y == y')
        · have HF := Lib.hid (show sameB ps qs = false from sameB_off k (by
            rw [hq, hq']
            intro e
            cases e
            simp at hs))
          clear hq hq'
          go_wp2
          go_quiet (fail)
          go_wp2
          go_ret
          exact ⟨ret_bool HF.out.symm, _, by rw [HW.out, World.drewN_drewN]⟩
        · have HF := Lib.hid (show ps.getD k (0, 0) = qs.getD k (0, 0) by
            simp only [Bool.and_eq_true, beq_iff_eq] at hs
            rw [hq, hq', hs.1, hs.2])
          clear hq hq'
          go_wp2
          go_quiet (fail)
          go_wp2
          go_roundw
          case rel => exact ⟨k + 1, by omega, by go_num, Lib.hid (fun j hj => by
            by_cases hjk : j < k
            · exact HP.out j hjk
            · have : j = k := by omega
              subst this
              exact HF.out), _, Lib.hid (by rw [HW.out, World.drewN_drewN])⟩
          case measure => simp [intOf]; omega
      · have : k = n := by omega
        subst this
        have HF := Lib.hid (sameB_all (ps := ps) (qs := qs) (by rw [HLn.out, HLm.out]) (by rw [HLn.out]; exact HP.out))
        go_wp2
        go_ret
        exact ⟨ret_bool HF.out.symm, d0, HW.out⟩
  · have HF := Lib.hid (sameB_len (ps := ps) (qs := qs) (by rw [HLn.out, HLm.out]; exact hnm))
    have hne : ¬ (n : Int) = (m : Int) := by omega
    have hnm2 : ((n : Int) != (m : Int)) = true := by rw [bne_iff_ne]; omega
    go_enter Try.func45, Try.ntmps45
    go_wp2
    go_ret
    exact ⟨ret_bool HF.out.symm, 0, rfl⟩

/-- impl.SamePose. -/
theorem samePose_any (A A' : Option Addr) (n m c c' : Nat) (ps qs : List Pt) (w : World) (hv : Rd w A n ps) (hu : Rd w A' m qs) :
    Calls Try.prog 46 #[.slice A n c, .slice A' m c'] w fun e w' => e = .returned (.bool (sameB ps qs)) ∧ ∃ d, w' = w.drewN d := by
  have HV := Lib.hid hv
  have HU := Lib.hid hu
  clear hv hu
  go_enter Try.func46, Try.ntmps46
  go_wp2_with fail
  refine (equal_any A A' n m c c' ps qs _ HV.out HU.out).mono ?_
  rintro e u ⟨rfl, d, rfl⟩
  go_wp2
  go_ret
  exact ⟨rfl, d, rfl⟩

end Go.Proofs.Ytibafngidpmgdaa
