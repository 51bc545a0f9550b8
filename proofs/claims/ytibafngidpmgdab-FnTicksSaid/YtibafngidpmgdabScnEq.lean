/- Lists of scenes compared, in the program and in the model. -/
import Derived.Test.YtibafngidpmgdabScn
import Derived.Deep.RegionWith
import Derived.Deep.DrawnRows
import Derived.Laws.StructEq
import Derived.Tactics
import Derived.Tactics2
import Derived.WalkKit
import Derived.LoopTactic
import Derived.BigQuiet
import Derived.RegionTactic
import Derived.Deep.QuietTactic
import Derived.Outline
import Derived.Lib.Hide
import Derived.Below
import Derived.KernelRfl
namespace Go.Proofs.Ytibafngidpmgdab
set_option linter.unusedSimpArgs false
set_option linter.unusedVariables false
open Go.RowKit

/-- Two scenes compared. -/
theorem equalIn_sc (a : ByteArray) (b : Int) (c : ByteArray) (d : Int) (w : World) : (Op.equalIn 10000 29 (.agg #[.string a, .int .i64 b]) (.agg #[.string c, .int .i64 d])).run Try.prog w = .ok (eqT a c && b == d) w := by
  have u2 := Try.underlying2
  have u9 := Try.underlying9
  have h1 : Try.prog.underlying 29 = some (.struct (Try.prog.fieldsOf 29)) := by kernel_rfl
  have h2 : Try.prog.stoodInHeld 29 = false := by kernel_rfl
  rw [show (10000 : Nat) = 9999 + 1 from rfl, run_equalIn_agg w 9999 29 _ _ h1 h2]
  simp only [Program.fieldsOf, Try.underlying29]
  go_simp
  cases e1 : (a.toList == c.toList) <;> by_cases e2 : b = d <;> (simp [eqT, e1, e2]; try simpa using e1)
theorem neq_sc (a : ByteArray) (b : Int) (c : ByteArray) (d : Int) (w : World) : (binOp .neq 29 (.agg #[.string a, .int .i64 b]) (.agg #[.string c, .int .i64 d])).run Try.prog w = .ok (.bool (!(eqT a c && b == d))) w := by
  rw [run_neq_struct, equalIn_sc]; rfl
attribute [local go_sem ↓] neq_sc

/-- Whether two lists of scenes are equal. -/
def sameC (ps qs : List Scn) : Bool := decide (ps = qs)
theorem sameC_len {ps qs : List Scn} (h : ps.length ≠ qs.length) : sameC ps qs = false := by
  rw [sameC, decide_eq_false_iff_not]
  exact fun e => h (by rw [e])
theorem sameC_off {ps qs : List Scn} (j : Nat) (h : ps.getD j Go.Proofs.Ytibafngidpmgdab.s0 ≠ qs.getD j Go.Proofs.Ytibafngidpmgdab.s0) : sameC ps qs = false := by
  rw [sameC, decide_eq_false_iff_not]
  exact fun e => h (by rw [e])
theorem sameC_all {ps qs : List Scn} (hl : ps.length = qs.length) (h : ∀ j, j < ps.length → ps.getD j Go.Proofs.Ytibafngidpmgdab.s0 = qs.getD j Go.Proofs.Ytibafngidpmgdab.s0) : sameC ps qs = true := by
  rw [sameC, decide_eq_true_iff]
  apply List.ext_getElem hl
  intro j h1 h2
  have := h j h1
  rwa [List.getD_eq_getElem?_getD, List.getElem?_eq_getElem h1, List.getD_eq_getElem?_getD, List.getElem?_eq_getElem h2] at this

set_option maxHeartbeats 1000000 in
set_option maxRecDepth 100000 in
/-- slices.Equal at scenes. -/
theorem equalC_any (A A' : Option Addr) (n m c c' : Nat) (ps qs : List Scn) (w : World) (hv : RdC w A n ps) (hu : RdC w A' m qs) :
    Calls Try.prog 66 #[.slice A n c, .slice A' m c'] w fun e w' => e = .returned (.bool (sameC ps qs)) ∧ ∃ d, w' = w.drewN d := by
  have hn := hv.2.1
  have hm := hu.2.1
  have HLn := Lib.hid hv.1
  have HLm := Lib.hid hu.1
  have HV := Lib.hid hv
  have HU := Lib.hid hu
  clear hv hu
  by_cases hnm : n = m
  · have HNM := Lib.hid hnm
    have hnm2 : ((n : Int) != (m : Int)) = false := by simp [hnm]
    subst hnm
    go_enter Try.func66, Try.ntmps66
    go_wp2
    go_loopw [13] (fun i wr => ∃ k : Nat, k ≤ n ∧ i = .int .i64 k ∧ Hid (∀ j, j < k → ps.getD j Go.Proofs.Ytibafngidpmgdab.s0 = qs.getD j Go.Proofs.Ytibafngidpmgdab.s0) ∧ ∃ d, Hid (wr = w.drewN d)) (fun i _ => n - (intOf i).toNat)
    case atStart => exact ⟨0, Nat.zero_le _, rfl, Lib.hid (fun j hj => by omega), 0, Lib.hid rfl⟩
    case round =>
      obtain ⟨k, hk, rfl, HP, d0, HW⟩ := hrel
      by_cases hlt : k < n
      · obtain ⟨_, _, h3⟩ := HV.out.drewN d0
        obtain ⟨_, _, h4⟩ := HU.out.drewN d0
        rw [← HW.out] at h3 h4
        rcases h3 with h0 | ⟨g, rfl, hg, h3⟩
        · omega
        rcases h4 with h0 | ⟨b, rfl, hb, h4⟩
        · omega
        obtain ⟨c0, c1⟩ := h3 k hlt
        obtain ⟨c2, c3⟩ := h4 k hlt
        clear h3 h4
        obtain ⟨x, y, hq⟩ : ∃ x y, ps.getD k Go.Proofs.Ytibafngidpmgdab.s0 = (x, y) := ⟨_, _, rfl⟩
        obtain ⟨x', y', hq'⟩ : ∃ x y, qs.getD k Go.Proofs.Ytibafngidpmgdab.s0 = (x, y) := ⟨_, _, rfl⟩
        rw [hq] at c0 c1
        rw [hq'] at c2 c3
        simp only at c0 c1 c2 c3
        cases hs : (eqT x x' && y == y')
        · have HF := Lib.hid (show sameC ps qs = false from sameC_off k (by
            rw [hq, hq']
            intro e
            cases e
            simp [eqT_refl] at hs))
          clear hq hq'
          go_wp2
          go_quiet (fail)
          go_wp2
          go_ret
          exact ⟨ret_bool HF.out.symm, _, by rw [HW.out, World.drewN_drewN]⟩
        · have HF := Lib.hid (show ps.getD k Go.Proofs.Ytibafngidpmgdab.s0 = qs.getD k Go.Proofs.Ytibafngidpmgdab.s0 by
            simp only [Bool.and_eq_true, beq_iff_eq, eqT_iff] at hs
            rw [hq, hq', hs.1, hs.2])
          clear hq hq'
          go_wp2
          go_quiet (fail)
          go_wp2
          go_roundw
          case rel => exact ⟨k + 1, by omega, by go_num, Lib.hid (fun j hj => by
            by_cases hjk : j < k
            · exact HP.out j hjk
            · have : j = k := by omega
              subst this
              exact HF.out), _, Lib.hid (by rw [HW.out, World.drewN_drewN])⟩
          case measure => simp [intOf]; omega
      · have : k = n := by omega
        subst this
        have HF := Lib.hid (sameC_all (ps := ps) (qs := qs) (by rw [HLn.out, HLm.out]) (by rw [HLn.out]; exact HP.out))
        go_wp2
        go_ret
        exact ⟨ret_bool HF.out.symm, d0, HW.out⟩
  · have HF := Lib.hid (sameC_len (ps := ps) (qs := qs) (by rw [HLn.out, HLm.out]; exact hnm))
    have hne : ¬ (n : Int) = (m : Int) := by omega
    have hnm2 : ((n : Int) != (m : Int)) = true := by rw [bne_iff_ne]; omega
    go_enter Try.func66, Try.ntmps66
    go_wp2
    go_ret
    exact ⟨ret_bool HF.out.symm, 0, rfl⟩

set_option maxHeartbeats 1000000 in
set_option maxRecDepth 100000 in
/-- spec.SameScenes. -/
theorem specSameScenes_any (A A' : Option Addr) (n m c c' : Nat) (ps qs : List Scn) (w : World) (hv : RdC w A n ps) (hu : RdC w A' m qs) :
    Calls Try.prog 22 #[.slice A n c, .slice A' m c'] w fun e w' => e = .returned (.bool (sameC ps qs)) ∧ ∃ d, w' = w.drewN d := by
  have hn := hv.2.1
  have hm := hu.2.1
  have HLn := Lib.hid hv.1
  have HLm := Lib.hid hu.1
  have HV := Lib.hid hv
  have HU := Lib.hid hu
  clear hv hu
  by_cases hnm : n = m
  · have HNM := Lib.hid hnm
    have hnm2 : ((n : Int) != (m : Int)) = false := by simp [hnm]
    subst hnm
    go_enter Try.func22, Try.ntmps22
    go_wp2
    go_loopw [5] (fun i wr => ∃ k : Nat, k ≤ n ∧ i = .int .i64 k ∧ Hid (∀ j, j < k → ps.getD j Go.Proofs.Ytibafngidpmgdab.s0 = qs.getD j Go.Proofs.Ytibafngidpmgdab.s0) ∧ ∃ d, Hid (wr = w.drewN d)) (fun i _ => n - (intOf i).toNat)
    case atStart => exact ⟨0, Nat.zero_le _, rfl, Lib.hid (fun j hj => by omega), 0, Lib.hid rfl⟩
    case round =>
      obtain ⟨k, hk, rfl, HP, d0, HW⟩ := hrel
      by_cases hlt : k < n
      · obtain ⟨_, _, h3⟩ := HV.out.drewN d0
        obtain ⟨_, _, h4⟩ := HU.out.drewN d0
        rw [← HW.out] at h3 h4
        rcases h3 with h0 | ⟨g, rfl, hg, h3⟩
        · omega
        rcases h4 with h0 | ⟨b, rfl, hb, h4⟩
        · omega
        obtain ⟨c0, c1⟩ := h3 k hlt
        obtain ⟨c2, c3⟩ := h4 k hlt
        clear h3 h4
        obtain ⟨x, y, hq⟩ : ∃ x y, ps.getD k Go.Proofs.Ytibafngidpmgdab.s0 = (x, y) := ⟨_, _, rfl⟩
        obtain ⟨x', y', hq'⟩ : ∃ x y, qs.getD k Go.Proofs.Ytibafngidpmgdab.s0 = (x, y) := ⟨_, _, rfl⟩
        rw [hq] at c0 c1
        rw [hq'] at c2 c3
        simp only at c0 c1 c2 c3
        cases hs : (eqT x x' && y == y')
        · have HF := Lib.hid (show sameC ps qs = false from sameC_off k (by
            rw [hq, hq']
            intro e
            cases e
            simp [eqT_refl] at hs))
          clear hq hq'
          go_wp2
          go_quiet (fail)
          go_wp2
          go_ret
          exact ⟨ret_bool HF.out.symm, _, by rw [HW.out, World.drewN_drewN]⟩
        · have HF := Lib.hid (show ps.getD k Go.Proofs.Ytibafngidpmgdab.s0 = qs.getD k Go.Proofs.Ytibafngidpmgdab.s0 by
            simp only [Bool.and_eq_true, beq_iff_eq, eqT_iff] at hs
            rw [hq, hq', hs.1, hs.2])
          clear hq hq'
          go_wp2
          go_quiet (fail)
          go_wp2
          go_roundw
          case rel => exact ⟨k + 1, by omega, by go_num, Lib.hid (fun j hj => by
            by_cases hjk : j < k
            · exact HP.out j hjk
            · have : j = k := by omega
              subst this
              exact HF.out), _, Lib.hid (by rw [HW.out, World.drewN_drewN])⟩
          case measure => simp [intOf]; omega
      · have : k = n := by omega
        subst this
        have HF := Lib.hid (sameC_all (ps := ps) (qs := qs) (by rw [HLn.out, HLm.out]) (by rw [HLn.out]; exact HP.out))
        go_wp2
        go_ret
        exact ⟨ret_bool HF.out.symm, d0, HW.out⟩
  · have HF := Lib.hid (sameC_len (ps := ps) (qs := qs) (by rw [HLn.out, HLm.out]; exact hnm))
    have hne : ¬ (n : Int) = (m : Int) := by omega
    have hnm2 : ((n : Int) != (m : Int)) = true := by rw [bne_iff_ne]; omega
    go_enter Try.func22, Try.ntmps22
    go_wp2
    go_ret
    exact ⟨ret_bool HF.out.symm, 0, rfl⟩

/-- impl.SameScenes. -/
theorem sameScenes_any (A A' : Option Addr) (n m c c' : Nat) (ps qs : List Scn) (w : World) (hv : RdC w A n ps) (hu : RdC w A' m qs) :
    Calls Try.prog 31 #[.slice A n c, .slice A' m c'] w fun e w' => e = .returned (.bool (sameC ps qs)) ∧ ∃ d, w' = w.drewN d := by
  have HV := Lib.hid hv
  have HU := Lib.hid hu
  clear hv hu
  go_enter Try.func31, Try.ntmps31
  go_wp2_with fail
  refine (equalC_any A A' n m c c' ps qs _ HV.out HU.out).mono ?_
  rintro e u ⟨rfl, d, rfl⟩
  go_wp2
  go_ret
  exact ⟨rfl, d, rfl⟩

end Go.Proofs.Ytibafngidpmgdab
