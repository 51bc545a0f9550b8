/- Whether key poses are valid: the program and the model. -/
import Derived.Test.YtibafngidpmgdaaProg
import Derived.Test.YtibafngidpmgdaaPose
import Derived.Test.YtibafngidpmgdaaKeys
import Derived.Test.YtibafngidpmgdaaGrew
import Derived.OwnWalk
import Derived.Deep.RegionWith
import Derived.Deep.DrawnRows
import Derived.Deep.RegionHeld3
import Derived.Tactics
import Derived.Tactics2
import Derived.WalkKit
import Derived.LoopTactic
import Derived.BigQuiet
import Derived.RegionTactic
import Derived.Deep.QuietTactic
import Derived.IntWalk
import Derived.Outline
import Derived.Lib.Hide
import Derived.Below
import Derived.KernelRfl
namespace Go.Proofs.Ytibafngidpmgdaa
set_option linter.unusedSimpArgs false
set_option linter.unusedVariables false
open Go.RowKit

/-- One key pose of a list is in order. -/
def KeyOk (ks : List Key) (i : Nat) : Prop :=
  0 ≤ (ks.getD i k0).1 ∧ (ks.getD i k0).1 ≤ 10000 ∧ poseB (ks.getD i k0).2 = true ∧ (ks.getD i k0).2.length = (ks.getD 0 k0).2.length ∧ (i = 0 ∨ (ks.getD (i - 1) k0).1 < (ks.getD i k0).1)
instance (ks : List Key) (i : Nat) : Decidable (KeyOk ks i) := by unfold KeyOk; infer_instance
/-- Key poses are valid. -/
def keysB (ks : List Key) : Bool := inB ks.length 1 10 && (List.range ks.length).all fun i => decide (KeyOk ks i)
theorem keysB_ok {ks : List Key} (h : keysB ks = true) : 1 ≤ ks.length ∧ ks.length ≤ 10 ∧ ∀ i, i < ks.length → KeyOk ks i := by
  simp only [keysB, Bool.and_eq_true] at h
  have h1 := inB_iff.1 h.1
  refine ⟨by omega, by omega, fun i hi => ?_⟩
  have := List.all_eq_true.1 h.2 i (List.mem_range.2 hi)
  simpa using this
theorem keysB_no {ks : List Key} (i : Nat) (hi : i < ks.length) (h : ¬ KeyOk ks i) : keysB ks = false := by
  rw [keysB, Bool.and_eq_false_iff]
  refine .inr ?_
  rw [List.all_eq_false]
  exact ⟨i, List.mem_range.2 hi, by simpa using h⟩
theorem keysB_long {ks : List Key} (h : ¬ (1 ≤ (ks.length : Int) ∧ (ks.length : Int) ≤ 10)) : keysB ks = false := by
  rw [keysB, inB_not.2 h, Bool.false_and]
theorem keysB_all {ks : List Key} (h : ∀ i, i < ks.length → KeyOk ks i) : keysB ks = inB ks.length 1 10 := by
  rw [keysB]
  have : ((List.range ks.length).all fun i => decide (KeyOk ks i)) = true := by
    rw [List.all_eq_true]
    intro i hi
    simpa using h i (List.mem_range.1 hi)
  rw [this, Bool.and_true]

set_option maxHeartbeats 4000000 in
set_option maxRecDepth 100000 in
/-- spec.l04Keys. -/
theorem l04Keys_any (A : Option Addr) (n c : Nat) (ks : List Key) (w : World) (hv : RdK w A n ks) :
    Calls Try.prog 92 #[.slice A n c] w fun e w' => e = .returned (.bool (keysB ks)) ∧ ∃ d, w' = w.drewN d := by
  have hn := hv.2.1
  have HL := Lib.hid hv.1
  have HV := Lib.hid hv
  clear hv
  go_enter Try.func92, Try.ntmps92
  go_wp2
  go_loopw [3] (fun i wr => ∃ k : Nat, k ≤ n ∧ i = .int .i64 k ∧ Hid (∀ j, j < k → KeyOk ks j) ∧ ∃ d, Hid (wr = w.drewN d)) (fun i _ => n - (intOf i).toNat)
  case atStart => exact ⟨0, Nat.zero_le _, rfl, Lib.hid (fun j hj => by omega), 0, Lib.hid rfl⟩
  case round =>
    obtain ⟨k, hk, rfl, HP, d0, HW⟩ := hrel
    by_cases hlt : k < n
    · obtain ⟨_, _, h3⟩ := HV.out
      rcases h3 with h0 | ⟨g, rfl, hg, h3⟩
      · omega
      obtain ⟨a0, A0, f0, a1, r0⟩ := h3 0 (by omega)
      obtain ⟨c0, A1, f1, c1, r1⟩ := h3 k hlt
      have hcells : ∀ b o, wr.cell? ⟨b, o, none⟩ = w.cell? ⟨b, o, none⟩ := fun b o => by rw [HW.out]; rfl
      rw [← hcells] at a0 a1 c0 c1
      have r1 : Rd wr A1 (ks.getD k Go.Proofs.Ytibafngidpmgdaa.k0).2.length (ks.getD k Go.Proofs.Ytibafngidpmgdaa.k0).2 := by rw [HW.out]; exact r1.drewN d0
      have hl1 := r1.2.1
      have hl0 := r0.2.1
      clear r0
      have OK := Lib.hid (fun m => l04Ok_any A1 _ f1 _ (wr.drewN m) (r1.drewN m))
      have IN := Lib.hid (fun w => l00In_any (ks.getD k Go.Proofs.Ytibafngidpmgdaa.k0).1 0 10000 w)
      have hN := Lib.hid (fun h => keysB_no (ks := ks) k (by rw [HL.out]; exact hlt) h)
      replace a0 : wr.cell? ⟨g, 0, none⟩ = some (.int .i64 (ks.getD 0 Go.Proofs.Ytibafngidpmgdaa.k0).1) := by simpa using a0
      replace a1 : wr.cell? ⟨g, 1, none⟩ = some (.slice A0 (ks.getD 0 Go.Proofs.Ytibafngidpmgdaa.k0).2.length f0) := by simpa using a1
      have hpos : 0 < n := by omega
      clear r1
      cases hin : inB (ks.getD k Go.Proofs.Ytibafngidpmgdaa.k0).1 0 10000
      · rw [hin] at IN
        clear h3 hcells
        have HF := Lib.hid (hN.out (fun h => by rw [inB_iff.2 ⟨h.1, h.2.1⟩] at hin; cases hin))
        clear hin
        clear hN
        generalize (ks.getD k Go.Proofs.Ytibafngidpmgdaa.k0).1 = t at *
        generalize (ks.getD k Go.Proofs.Ytibafngidpmgdaa.k0).2.length = m at *
        generalize (ks.getD 0 Go.Proofs.Ytibafngidpmgdaa.k0).2.length = m0 at *
        go_wp2
        go_quiet ((first | (go_at_call 84; with_reducible exact quietEq (IN.out _)) | (go_at_call 83; with_reducible exact quietEq (OK.out _))))
        go_wp2
        go_ret
        exact ⟨ret_bool HF.out.symm, _, by rw [HW.out, World.drewN_drewN]⟩
      · rw [hin] at IN
        cases hp : poseB (ks.getD k Go.Proofs.Ytibafngidpmgdaa.k0).2
        · rw [hp] at OK
          clear h3 hcells
          have HF := Lib.hid (hN.out (fun h => by rw [h.2.2.1] at hp; cases hp))
          clear hin hp
          clear hN
          generalize (ks.getD k Go.Proofs.Ytibafngidpmgdaa.k0).1 = t at *
          generalize (ks.getD k Go.Proofs.Ytibafngidpmgdaa.k0).2.length = m at *
          generalize (ks.getD 0 Go.Proofs.Ytibafngidpmgdaa.k0).2.length = m0 at *
          go_wp2
          go_quiet ((first | (go_at_call 84; with_reducible exact quietEq (IN.out _)) | (go_at_call 83; with_reducible exact quietEq (OK.out _))))
          go_wp2
          go_ret
          exact ⟨ret_bool HF.out.symm, _, by rw [HW.out, World.drewN_drewN]⟩
        · rw [hp] at OK
          by_cases hm : (ks.getD k Go.Proofs.Ytibafngidpmgdaa.k0).2.length = (ks.getD 0 Go.Proofs.Ytibafngidpmgdaa.k0).2.length
          · have hmb : (((ks.getD k Go.Proofs.Ytibafngidpmgdaa.k0).2.length : Int) != ((ks.getD 0 Go.Proofs.Ytibafngidpmgdaa.k0).2.length : Int)) = false := by rw [hm]; simp
            cases k with
            | zero =>
              have hi2 := inB_iff.1 hin
              have HK := Lib.hid (show KeyOk ks 0 from ⟨hi2.1, hi2.2, hp, rfl, .inl rfl⟩)
              replace c0 : wr.cell? ⟨g, 0, none⟩ = some (.int .i64 (ks.getD 0 Go.Proofs.Ytibafngidpmgdaa.k0).1) := by simpa using c0
              replace c1 : wr.cell? ⟨g, 1, none⟩ = some (.slice A1 (ks.getD 0 Go.Proofs.Ytibafngidpmgdaa.k0).2.length f1) := by simpa using c1
              clear h3 hcells hin hp hm hi2 a0 a1 hN
              rw [show ((0 : Nat) : Int) = 0 from rfl]
              generalize (ks.getD 0 Go.Proofs.Ytibafngidpmgdaa.k0).1 = t at *
              generalize (ks.getD 0 Go.Proofs.Ytibafngidpmgdaa.k0).2.length = m at *
              generalize (ks.getD 0 Go.Proofs.Ytibafngidpmgdaa.k0).2.length = m0 at *
              go_wp2
              go_quiet ((first | (go_at_call 84; with_reducible exact quietEq (IN.out _)) | (go_at_call 83; with_reducible exact quietEq (OK.out _))))
              go_wp2
              go_roundw
              case rel => exact ⟨0 + 1, by omega, by go_num, Lib.hid (fun i hi => by
                by_cases hik : i < 0
                · exact HP.out i hik
                · have : i = 0 := by omega
                  rw [this]
                  exact HK.out), _, Lib.hid (by rw [HW.out, World.drewN_drewN])⟩
              case measure => simp [intOf]; omega
            | succ j =>
              obtain ⟨p0, _⟩ := h3 j (by omega)
              rw [← hcells] at p0
              have hi2 := inB_iff.1 hin
              have wj : IntKind.i64.wrap ((j : Int) + 1 - 1) = (j : Int) := by rw [IntWalk.i64_in _ (by omega)]; omega
              have hj1 : (0 : Int) < (j : Int) + 1 := by omega
              have hcast := Lib.hid (show ((j + 1 : Nat) : Int) = (j : Int) + 1 from by omega)
              by_cases ho : (ks.getD j Go.Proofs.Ytibafngidpmgdaa.k0).1 < (ks.getD (j + 1) Go.Proofs.Ytibafngidpmgdaa.k0).1
              · have HK := Lib.hid (show KeyOk ks (j + 1) from ⟨hi2.1, hi2.2, hp, hm, .inr (by simpa using ho)⟩)
                have ho2 : ¬ (ks.getD (j + 1) Go.Proofs.Ytibafngidpmgdaa.k0).1 ≤ (ks.getD j Go.Proofs.Ytibafngidpmgdaa.k0).1 := by omega
                clear h3 hcells hin hp hm hi2 hN ho
                generalize (ks.getD (j + 1) Go.Proofs.Ytibafngidpmgdaa.k0).1 = t at *
                generalize (ks.getD j Go.Proofs.Ytibafngidpmgdaa.k0).1 = t0 at *
                generalize (ks.getD (j + 1) Go.Proofs.Ytibafngidpmgdaa.k0).2.length = m at *
                generalize (ks.getD 0 Go.Proofs.Ytibafngidpmgdaa.k0).2.length = m0 at *
                rw [hcast.out]
                go_wp2
                go_quiet ((first | (go_at_call 84; with_reducible exact quietEq (IN.out _)) | (go_at_call 83; with_reducible exact quietEq (OK.out _))))
                go_wp2
                go_roundw
                case rel => exact ⟨j + 1 + 1, by omega, by go_num, Lib.hid (fun i hi => by
                  by_cases hik : i < j + 1
                  · exact HP.out i hik
                  · have : i = j + 1 := by omega
                    rw [this]
                    exact HK.out), _, Lib.hid (by rw [HW.out, World.drewN_drewN])⟩
                case measure => simp [intOf]; omega
              · have HF := Lib.hid (hN.out (fun h => by
                  rcases h.2.2.2.2 with h | h
                  · omega
                  · exact ho (by simpa using h)))
                have ho2 : (ks.getD (j + 1) Go.Proofs.Ytibafngidpmgdaa.k0).1 ≤ (ks.getD j Go.Proofs.Ytibafngidpmgdaa.k0).1 := by omega
                clear h3 hcells hin hp hm hi2 hN ho
                generalize (ks.getD (j + 1) Go.Proofs.Ytibafngidpmgdaa.k0).1 = t at *
                generalize (ks.getD j Go.Proofs.Ytibafngidpmgdaa.k0).1 = t0 at *
                generalize (ks.getD (j + 1) Go.Proofs.Ytibafngidpmgdaa.k0).2.length = m at *
                generalize (ks.getD 0 Go.Proofs.Ytibafngidpmgdaa.k0).2.length = m0 at *
                rw [hcast.out]
                go_wp2
                go_quiet ((first | (go_at_call 84; with_reducible exact quietEq (IN.out _)) | (go_at_call 83; with_reducible exact quietEq (OK.out _))))
                go_wp2
                go_ret
                exact ⟨ret_bool HF.out.symm, _, by rw [HW.out, World.drewN_drewN]⟩
          · have hmb : (((ks.getD k Go.Proofs.Ytibafngidpmgdaa.k0).2.length : Int) != ((ks.getD 0 Go.Proofs.Ytibafngidpmgdaa.k0).2.length : Int)) = true := by rw [bne_iff_ne]; omega
            clear h3 hcells
            have HF := Lib.hid (hN.out (fun h => by exact hm h.2.2.2.1))
            clear hin hp hm
            clear hN
            generalize (ks.getD k Go.Proofs.Ytibafngidpmgdaa.k0).1 = t at *
            generalize (ks.getD k Go.Proofs.Ytibafngidpmgdaa.k0).2.length = m at *
            generalize (ks.getD 0 Go.Proofs.Ytibafngidpmgdaa.k0).2.length = m0 at *
            go_wp2
            go_quiet ((first | (go_at_call 84; with_reducible exact quietEq (IN.out _)) | (go_at_call 83; with_reducible exact quietEq (OK.out _))))
            go_wp2
            go_ret
            exact ⟨ret_bool HF.out.symm, _, by rw [HW.out, World.drewN_drewN]⟩
    · have : k = n := by omega
      subst this
      have HF := Lib.hid (keysB_all (ks := ks) (by rw [HL.out]; exact HP.out))
      go_wp2_with fail
      refine (l00In_any _ _ _ _).mono ?_
      rintro e u ⟨rfl, rfl⟩
      go_wp2
      go_ret
      exact ⟨ret_bool (by rw [HF.out, HL.out]), d0, HW.out⟩

/-- spec.ValidKeys. -/
theorem specValidKeys_any (A : Option Addr) (n c : Nat) (ks : List Key) (w : World) (hv : RdK w A n ks) :
    Calls Try.prog 50 #[.slice A n c] w fun e w' => e = .returned (.bool (keysB ks)) ∧ ∃ d, w' = w.drewN d := by
  have HV := Lib.hid hv
  clear hv
  go_enter Try.func50, Try.ntmps50
  go_wp2_with fail
  refine (l04Keys_any A n c ks _ HV.out).mono ?_
  rintro e u ⟨rfl, d, rfl⟩
  go_wp2
  go_ret
  exact ⟨rfl, d, rfl⟩

/-- The tick of the key pose before. -/
def bfK (ks : List Key) (k : Nat) : Int := if k = 0 then -1 else (ks.getD (k - 1) k0).1
theorem bfK_succ (ks : List Key) (k : Nat) : bfK ks (k + 1) = (ks.getD k k0).1 := by rw [bfK, if_neg (by omega)]; rfl
theorem bfK_bd {ks : List Key} {k : Nat} (h : ∀ j, j < k → KeyOk ks j) : -1 ≤ bfK ks k ∧ bfK ks k ≤ 10000 := by
  unfold bfK
  split
  · omega
  · have := h (k - 1) (by omega)
    have h1 := this.1
    have h2 := this.2.1
    omega
theorem keyOk_of {ks : List Key} {k : Nat} (hb : -1 ≤ bfK ks k) (h1 : bfK ks k < (ks.getD k k0).1) (h2 : (ks.getD k k0).1 ≤ 10000) (h3 : poseB (ks.getD k k0).2 = true) (h4 : (ks.getD k k0).2.length = (ks.getD 0 k0).2.length) : KeyOk ks k := by
  refine ⟨by omega, h2, h3, h4, ?_⟩
  by_cases hk : k = 0
  · exact .inl hk
  · rw [bfK, if_neg hk] at h1
    exact .inr h1
theorem keyOk_bf {ks : List Key} {k : Nat} (h : KeyOk ks k) : bfK ks k < (ks.getD k k0).1 := by
  unfold bfK
  split
  · have := h.1
    omega
  · rcases h.2.2.2.2 with h | h
    · contradiction
    · exact h

set_option maxHeartbeats 4000000 in
set_option maxRecDepth 100000 in
/-- impl.ValidKeys. -/
theorem validKeys_any (A : Option Addr) (n c : Nat) (ks : List Key) (w : World) (hv : RdK w A n ks) :
    Calls Try.prog 49 #[.slice A n c] w fun e w' => e = .returned (.bool (keysB ks)) ∧ Below w.heap.size w w' := by
  have hn := hv.2.1
  have HL := Lib.hid hv.1
  have HV := Lib.hid hv
  clear hv
  by_cases h1 : 1 ≤ n
  · by_cases h2 : n ≤ 10
    · go_enter Try.func49, Try.ntmps49
      go_wp2
      go_loopw [16, 3] (fun i b wr => ∃ k : Nat, k ≤ n ∧ i = .int .i64 k ∧ b = .int .i64 (bfK ks k) ∧ Hid (∀ j, j < k → KeyOk ks j) ∧ Hid (Below w.heap.size w wr)) (fun i _ _ => n - (intOf i).toNat)
      case atStart => exact ⟨0, Nat.zero_le _, rfl, rfl, Lib.hid (fun j hj => by omega), Lib.hid (Below.refl _ _)⟩
      case round =>
        obtain ⟨k, hk, rfl, rfl, HP, HB⟩ := hrel
        obtain ⟨bf1, bf2⟩ := bfK_bd HP.out
        by_cases hlt : k < n
        · obtain ⟨_, _, h3⟩ := HV.out.below HB.out
          rcases h3 with h0 | ⟨g, rfl, hg, h3⟩
          · omega
          obtain ⟨_, A0, f0, a1, r0⟩ := h3 0 (by omega)
          obtain ⟨c0, A1, f1, c1, r1⟩ := h3 k hlt
          replace a1 : wr.cell? ⟨g, 1, none⟩ = some (.slice A0 (ks.getD 0 Go.Proofs.Ytibafngidpmgdaa.k0).2.length f0) := by simpa using a1
          have hl1 := r1.2.1
          have hl0 := r0.2.1
          clear r0 h3
          have OK := Lib.hid (fun u hb => validPose_any A1 _ f1 _ u (r1.below hb))
          have hN := Lib.hid (fun h => keysB_no (ks := ks) k (by rw [HL.out]; exact hlt) h)
          have HO := Lib.hid (fun h1 h2 h3 h4 => keyOk_of (ks := ks) (k := k) bf1 h1 h2 h3 h4)
          have HBF := Lib.hid (bfK_succ ks k)
          have HKB := Lib.hid (fun h => keyOk_bf (ks := ks) (k := k) h)
          clear r1
          have hZ0 : g < wr.heap.size := hg
          have HBA := Lib.hid (bAlloc HB.out (.cells #[.int .i64 (ks.getD k Go.Proofs.Ytibafngidpmgdaa.k0).1, .slice A1 (ks.getD k Go.Proofs.Ytibafngidpmgdaa.k0).2.length f1] 55))
          by_cases h1 : (ks.getD k Go.Proofs.Ytibafngidpmgdaa.k0).1 ≤ bfK ks k
          · have HF := Lib.hid (hN.out (fun h => by have := HKB.out h; omega))
            clear HO HKB hN
            generalize bfK ks k = b at *
            generalize hT : (ks.getD k Go.Proofs.Ytibafngidpmgdaa.k0).1 = t at *
            have HT := Lib.hid hT
            clear hT
            generalize (ks.getD k Go.Proofs.Ytibafngidpmgdaa.k0).2.length = m at *
            generalize (ks.getD 0 Go.Proofs.Ytibafngidpmgdaa.k0).2.length = m0 at *
            go_wp2
            have b0 : (wr.alloc (.cells #[.int .i64 t, .slice A1 m f1] 55)).cell? ⟨wr.heap.size, 0, none⟩ = some (.int .i64 t) := by go_simp
            have b1 : (wr.alloc (.cells #[.int .i64 t, .slice A1 m f1] 55)).cell? ⟨wr.heap.size, 1, none⟩ = some (.slice A1 m f1) := by go_simp
            replace a1 : (wr.alloc (.cells #[.int .i64 t, .slice A1 m f1] 55)).cell? ⟨g, 1, none⟩ = some (.slice A0 m0 f0) := (World.cell?_alloc_lt wr _ _ (by exact hZ0)).trans a1
            have hZ : wr.heap.size < (wr.alloc (.cells #[.int .i64 t, .slice A1 m f1] 55)).heap.size := by simp
            have hgZ : g < (wr.alloc (.cells #[.int .i64 t, .slice A1 m f1] 55)).heap.size := by simp; omega
            replace OK := Lib.hid (fun q hb => OK.out q (bTrans (bAlloc (Below.refl _ wr) (.cells #[.int .i64 t, .slice A1 m f1] 55)) hb))
            generalize wr.alloc (.cells #[.int .i64 t, .slice A1 m f1] 55) = WA at *
            generalize wr.heap.size = Z at *
            clear c0 c1
            have g1 : decide (t ≤ b) = true := by simpa using h1
            go_quiet (fail)
            go_wp2
            go_ret
            exact ⟨ret_bool HF.out.symm, bDrewN HBA.out _⟩
          · by_cases h2 : 10000 < (ks.getD k Go.Proofs.Ytibafngidpmgdaa.k0).1
            · have HF := Lib.hid (hN.out (fun h => by have := h.2.1; omega))
              clear HO HKB hN
              generalize bfK ks k = b at *
              generalize hT : (ks.getD k Go.Proofs.Ytibafngidpmgdaa.k0).1 = t at *
              have HT := Lib.hid hT
              clear hT
              generalize (ks.getD k Go.Proofs.Ytibafngidpmgdaa.k0).2.length = m at *
              generalize (ks.getD 0 Go.Proofs.Ytibafngidpmgdaa.k0).2.length = m0 at *
              go_wp2
              have b0 : (wr.alloc (.cells #[.int .i64 t, .slice A1 m f1] 55)).cell? ⟨wr.heap.size, 0, none⟩ = some (.int .i64 t) := by go_simp
              have b1 : (wr.alloc (.cells #[.int .i64 t, .slice A1 m f1] 55)).cell? ⟨wr.heap.size, 1, none⟩ = some (.slice A1 m f1) := by go_simp
              replace a1 : (wr.alloc (.cells #[.int .i64 t, .slice A1 m f1] 55)).cell? ⟨g, 1, none⟩ = some (.slice A0 m0 f0) := (World.cell?_alloc_lt wr _ _ (by exact hZ0)).trans a1
              have hZ : wr.heap.size < (wr.alloc (.cells #[.int .i64 t, .slice A1 m f1] 55)).heap.size := by simp
              have hgZ : g < (wr.alloc (.cells #[.int .i64 t, .slice A1 m f1] 55)).heap.size := by simp; omega
              replace OK := Lib.hid (fun q hb => OK.out q (bTrans (bAlloc (Below.refl _ wr) (.cells #[.int .i64 t, .slice A1 m f1] 55)) hb))
              generalize wr.alloc (.cells #[.int .i64 t, .slice A1 m f1] 55) = WA at *
              generalize wr.heap.size = Z at *
              clear c0 c1
              have g1 : decide (t ≤ b) = false := by simpa using h1
              have g2 : decide (10000 < t) = true := by simpa using h2
              go_quiet (fail)
              go_wp2
              go_ret
              exact ⟨ret_bool HF.out.symm, bDrewN HBA.out _⟩
            · cases h3 : poseB (ks.getD k Go.Proofs.Ytibafngidpmgdaa.k0).2
              · have HF := Lib.hid (hN.out (fun h => by have := h.2.2.1; rw [h3] at this; cases this))
                rw [h3] at OK
                clear h3
                clear HO HKB hN
                generalize bfK ks k = b at *
                generalize hT : (ks.getD k Go.Proofs.Ytibafngidpmgdaa.k0).1 = t at *
                have HT := Lib.hid hT
                clear hT
                generalize (ks.getD k Go.Proofs.Ytibafngidpmgdaa.k0).2.length = m at *
                generalize (ks.getD 0 Go.Proofs.Ytibafngidpmgdaa.k0).2.length = m0 at *
                go_wp2
                have b0 : (wr.alloc (.cells #[.int .i64 t, .slice A1 m f1] 55)).cell? ⟨wr.heap.size, 0, none⟩ = some (.int .i64 t) := by go_simp
                have b1 : (wr.alloc (.cells #[.int .i64 t, .slice A1 m f1] 55)).cell? ⟨wr.heap.size, 1, none⟩ = some (.slice A1 m f1) := by go_simp
                replace a1 : (wr.alloc (.cells #[.int .i64 t, .slice A1 m f1] 55)).cell? ⟨g, 1, none⟩ = some (.slice A0 m0 f0) := (World.cell?_alloc_lt wr _ _ (by exact hZ0)).trans a1
                have hZ : wr.heap.size < (wr.alloc (.cells #[.int .i64 t, .slice A1 m f1] 55)).heap.size := by simp
                have hgZ : g < (wr.alloc (.cells #[.int .i64 t, .slice A1 m f1] 55)).heap.size := by simp; omega
                replace OK := Lib.hid (fun q hb => OK.out q (bTrans (bAlloc (Below.refl _ wr) (.cells #[.int .i64 t, .slice A1 m f1] 55)) hb))
                generalize wr.alloc (.cells #[.int .i64 t, .slice A1 m f1] 55) = WA at *
                generalize wr.heap.size = Z at *
                clear c0 c1
                have g1 : decide (t ≤ b) = false := by simpa using h1
                have g2 : decide (10000 < t) = false := by simpa using h2
                have q0 : ∀ p : Grew WA, p.u.cell? ⟨Z, 0, none⟩ = some (.int .i64 t) := fun p => p.cell hZ b0
                have q1 : ∀ p : Grew WA, p.u.cell? ⟨Z, 1, none⟩ = some (.slice A1 m f1) := fun p => p.cell hZ b1
                have q2 : ∀ p : Grew WA, p.u.cell? ⟨g, 1, none⟩ = some (.slice A0 m0 f0) := fun p => p.cell hgZ a1
                refine wp_region_grew (by kernel_rfl) (by kernel_rfl) ?_
                repeat (go_big_quiet_step ((go_at_call 47; with_reducible exact grewOf (OK.out _ (Grew.h _)))))
                refine wpQuiet_nil ?_
                intro w3 hw'
                obtain ⟨p3, hw''⟩ := hw'
                have hb2 : Below WA.heap.size WA w3 := by rw [hw'']; exact p3.h
                clear hw'' p3 q0 q1 q2
                go_wp2
                go_ret
                exact ⟨ret_bool HF.out.symm, bTrans HBA.out hb2⟩
              · by_cases h4 : (ks.getD k Go.Proofs.Ytibafngidpmgdaa.k0).2.length = (ks.getD 0 Go.Proofs.Ytibafngidpmgdaa.k0).2.length
                · have HK := Lib.hid (HO.out (by omega) (by omega) h3 h4)
                  have hmb : (((ks.getD k Go.Proofs.Ytibafngidpmgdaa.k0).2.length : Int) != ((ks.getD 0 Go.Proofs.Ytibafngidpmgdaa.k0).2.length : Int)) = false := by rw [h4]; simp
                  rw [h3] at OK
                  clear h3 h4
                  clear HO HKB hN
                  generalize bfK ks k = b at *
                  generalize hT : (ks.getD k Go.Proofs.Ytibafngidpmgdaa.k0).1 = t at *
                  have HT := Lib.hid hT
                  clear hT
                  generalize (ks.getD k Go.Proofs.Ytibafngidpmgdaa.k0).2.length = m at *
                  generalize (ks.getD 0 Go.Proofs.Ytibafngidpmgdaa.k0).2.length = m0 at *
                  go_wp2
                  have b0 : (wr.alloc (.cells #[.int .i64 t, .slice A1 m f1] 55)).cell? ⟨wr.heap.size, 0, none⟩ = some (.int .i64 t) := by go_simp
                  have b1 : (wr.alloc (.cells #[.int .i64 t, .slice A1 m f1] 55)).cell? ⟨wr.heap.size, 1, none⟩ = some (.slice A1 m f1) := by go_simp
                  replace a1 : (wr.alloc (.cells #[.int .i64 t, .slice A1 m f1] 55)).cell? ⟨g, 1, none⟩ = some (.slice A0 m0 f0) := (World.cell?_alloc_lt wr _ _ (by exact hZ0)).trans a1
                  have hZ : wr.heap.size < (wr.alloc (.cells #[.int .i64 t, .slice A1 m f1] 55)).heap.size := by simp
                  have hgZ : g < (wr.alloc (.cells #[.int .i64 t, .slice A1 m f1] 55)).heap.size := by simp; omega
                  replace OK := Lib.hid (fun q hb => OK.out q (bTrans (bAlloc (Below.refl _ wr) (.cells #[.int .i64 t, .slice A1 m f1] 55)) hb))
                  generalize wr.alloc (.cells #[.int .i64 t, .slice A1 m f1] 55) = WA at *
                  generalize wr.heap.size = Z at *
                  clear c0 c1
                  have g1 : decide (t ≤ b) = false := by simpa using h1
                  have g2 : decide (10000 < t) = false := by simpa using h2
                  have q0 : ∀ p : Grew WA, p.u.cell? ⟨Z, 0, none⟩ = some (.int .i64 t) := fun p => p.cell hZ b0
                  have q1 : ∀ p : Grew WA, p.u.cell? ⟨Z, 1, none⟩ = some (.slice A1 m f1) := fun p => p.cell hZ b1
                  have q2 : ∀ p : Grew WA, p.u.cell? ⟨g, 1, none⟩ = some (.slice A0 m0 f0) := fun p => p.cell hgZ a1
                  refine wp_region_grew (by kernel_rfl) (by kernel_rfl) ?_
                  repeat (go_big_quiet_step ((go_at_call 47; with_reducible exact grewOf (OK.out _ (Grew.h _)))))
                  refine wpQuiet_nil ?_
                  intro w3 hw'
                  obtain ⟨p3, hw''⟩ := hw'
                  have hb2 : Below WA.heap.size WA w3 := by rw [hw'']; exact p3.h
                  clear hw'' p3 q0 q1 q2
                  have e0 : w3.cell? ⟨Z, 0, none⟩ = some (.int .i64 t) := Grew.cell ⟨w3, hb2⟩ hZ b0
                  go_wp2
                  go_roundw
                  case rel => exact ⟨k + 1, by omega, by go_num, by rw [HBF.out], Lib.hid (fun i hi => by
                    by_cases hik : i < k
                    · exact HP.out i hik
                    · have : i = k := by omega
                      rw [this]
                      exact HK.out), Lib.hid (bTrans HBA.out hb2)⟩
                  case measure => simp [intOf]; omega
                · have HF := Lib.hid (hN.out (fun h => h4 h.2.2.2.1))
                  have hmb : (((ks.getD k Go.Proofs.Ytibafngidpmgdaa.k0).2.length : Int) != ((ks.getD 0 Go.Proofs.Ytibafngidpmgdaa.k0).2.length : Int)) = true := by rw [bne_iff_ne]; omega
                  rw [h3] at OK
                  clear h3 h4
                  clear HO HKB hN
                  generalize bfK ks k = b at *
                  generalize hT : (ks.getD k Go.Proofs.Ytibafngidpmgdaa.k0).1 = t at *
                  have HT := Lib.hid hT
                  clear hT
                  generalize (ks.getD k Go.Proofs.Ytibafngidpmgdaa.k0).2.length = m at *
                  generalize (ks.getD 0 Go.Proofs.Ytibafngidpmgdaa.k0).2.length = m0 at *
                  go_wp2
                  have b0 : (wr.alloc (.cells #[.int .i64 t, .slice A1 m f1] 55)).cell? ⟨wr.heap.size, 0, none⟩ = some (.int .i64 t) := by go_simp
                  have b1 : (wr.alloc (.cells #[.int .i64 t, .slice A1 m f1] 55)).cell? ⟨wr.heap.size, 1, none⟩ = some (.slice A1 m f1) := by go_simp
                  replace a1 : (wr.alloc (.cells #[.int .i64 t, .slice A1 m f1] 55)).cell? ⟨g, 1, none⟩ = some (.slice A0 m0 f0) := (World.cell?_alloc_lt wr _ _ (by exact hZ0)).trans a1
                  have hZ : wr.heap.size < (wr.alloc (.cells #[.int .i64 t, .slice A1 m f1] 55)).heap.size := by simp
                  have hgZ : g < (wr.alloc (.cells #[.int .i64 t, .slice A1 m f1] 55)).heap.size := by simp; omega
                  replace OK := Lib.hid (fun q hb => OK.out q (bTrans (bAlloc (Below.refl _ wr) (.cells #[.int .i64 t, .slice A1 m f1] 55)) hb))
                  generalize wr.alloc (.cells #[.int .i64 t, .slice A1 m f1] 55) = WA at *
                  generalize wr.heap.size = Z at *
                  clear c0 c1
                  have g1 : decide (t ≤ b) = false := by simpa using h1
                  have g2 : decide (10000 < t) = false := by simpa using h2
                  have q0 : ∀ p : Grew WA, p.u.cell? ⟨Z, 0, none⟩ = some (.int .i64 t) := fun p => p.cell hZ b0
                  have q1 : ∀ p : Grew WA, p.u.cell? ⟨Z, 1, none⟩ = some (.slice A1 m f1) := fun p => p.cell hZ b1
                  have q2 : ∀ p : Grew WA, p.u.cell? ⟨g, 1, none⟩ = some (.slice A0 m0 f0) := fun p => p.cell hgZ a1
                  refine wp_region_grew (by kernel_rfl) (by kernel_rfl) ?_
                  repeat (go_big_quiet_step ((go_at_call 47; with_reducible exact grewOf (OK.out _ (Grew.h _)))))
                  refine wpQuiet_nil ?_
                  intro w3 hw'
                  obtain ⟨p3, hw''⟩ := hw'
                  have hb2 : Below WA.heap.size WA w3 := by rw [hw'']; exact p3.h
                  clear hw'' p3 q0 q1 q2
                  go_wp2
                  go_ret
                  exact ⟨ret_bool HF.out.symm, bTrans HBA.out hb2⟩
        · have : k = n := by omega
          subst this
          have HF := Lib.hid (keysB_all (ks := ks) (by rw [HL.out]; exact HP.out))
          go_wp2
          go_ret
          exact ⟨ret_bool (by rw [HF.out, HL.out, inB_iff.2 (by omega)]), HB.out⟩
    · have HF := Lib.hid (keysB_long (ks := ks) (by rw [HL.out]; omega))
      go_enter Try.func49, Try.ntmps49
      go_wp2
      go_ret
      exact ⟨ret_bool HF.out.symm, Below.refl _ _⟩
  · have HF := Lib.hid (keysB_long (ks := ks) (by rw [HL.out]; omega))
    go_enter Try.func49, Try.ntmps49
    go_wp2
    go_ret
    exact ⟨ret_bool HF.out.symm, Below.refl _ _⟩

end Go.Proofs.Ytibafngidpmgdaa
