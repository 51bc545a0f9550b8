/- Scenes that are valid: the model. -/
import Derived.Test.YtibafngidpmgdabScnOk
import Derived.Deep.RegionWith
import Derived.Deep.DrawnRows
import Derived.Deep.RegionHeld3
import Derived.IntWalk
import Derived.Tactics
import Derived.Tactics2
import Derived.WalkKit
import Derived.LoopTactic
import Derived.BigQuiet
import Derived.RegionTactic
import Derived.Deep.QuietTactic
import Derived.Outline
import Derived.Lib.Hide
import Derived.Below
import Derived.KernelRfl
namespace Go.Proofs.Ytibafngidpmgdab
set_option linter.unusedSimpArgs false
set_option linter.unusedVariables false
open Go.RowKit

set_option maxHeartbeats 4000000 in
set_option maxRecDepth 100000 in
/-- spec.l08Ok. -/
theorem l08Ok_any (A : Option Addr) (n c : Nat) (ps : List Scn) (w : World) (hv : RdC w A n ps) (hm : ∀ j, j < n → (ps.getD j s0).1.size ≤ maxLen) :
    Calls Try.prog 62 #[.slice A n c] w fun e w' => e = .returned (.bool (scnsB ps)) ∧ Below w.heap.size w w' := by
  have hn := hv.2.1
  have HL := Lib.hid hv.1
  have HV := Lib.hid hv
  have HM := Lib.hid hm
  clear hv hm
  go_enter Try.func62, Try.ntmps62
  go_wp2
  go_loopw [3] (fun i wr => ∃ k : Nat, k ≤ n ∧ i = .int .i64 k ∧ Hid (∀ j, j < k → stepC ps j = true) ∧ Hid (Below w.heap.size w wr)) (fun i _ => n - (intOf i).toNat)
  case atStart => exact ⟨0, Nat.zero_le _, rfl, Lib.hid (fun j hj => by omega), Lib.hid (Below.refl _ _)⟩
  case round =>
    obtain ⟨k, hk, rfl, HP, HB⟩ := hrel
    by_cases hlt : k < n
    · obtain ⟨_, _, h3⟩ := HV.out.below HB.out
      rcases h3 with h0 | ⟨g, rfl, hg, h3⟩
      · omega
      obtain ⟨c0, c1⟩ := h3 k hlt
      have hMk := HM.out k hlt
      have HN := Lib.hid (fun h => scnsB_bad (ps := ps) (k := k) (by rw [HL.out]; exact hlt) h)
      have HU := Lib.hid (show stepC ps k = (sceneB (ps.getD k Go.Proofs.Ytibafngidpmgdab.s0) && !(decide (0 < k) && eqT (ps.getD k Go.Proofs.Ytibafngidpmgdab.s0).1 (ps.getD (k - 1) Go.Proofs.Ytibafngidpmgdab.s0).1)) from rfl)
      have hpre := Lib.hid (fun (h : 0 < k) => (h3 (k - 1) (by omega)).1)
      clear h3
      generalize ps.getD k Go.Proofs.Ytibafngidpmgdab.s0 = q at *
      obtain ⟨x, y⟩ := q
      simp only at c0 c1 hMk HU
      unfold maxLen at hMk
      have IN := Lib.hid (fun w => l00In_any y 1 1000 w)
      have HBA := Lib.hid (bAlloc HB.out (.cells #[.string x, .int .i64 y] 29))
      by_cases hs : x.size = 1
      · have hs1 : ((x.size : Int) != 1) = false := by rw [hs]; rfl
        have hs0 : 0 < x.size := by omega
        have hl := letter_of hs0
        have HO := Lib.hid (show posB x 1 = smallB (letter x 0) from posB_one hs)
        obtain ⟨L, hL⟩ : ∃ L : UInt8, (x[0]'hs0) = L := ⟨_, rfl⟩
        rw [hL] at hl
        by_cases k1 : (L.toNat : Int) < 97
        · have HF := Lib.hid (HN.out (by rw [HU.out, sceneB, HO.out, ← hl]; simp [smallB]; omega))
          have k2 : decide ((L.toNat : Int) < 97) = true := by simpa using k1
          clear hMk HN HU hpre hl hs k1
          go_wp2
          have b0 : (wr.alloc (.cells #[.string x, .int .i64 y] 29)).cell? ⟨wr.heap.size, 0, none⟩ = some (.string x) := by go_simp
          have b1 : (wr.alloc (.cells #[.string x, .int .i64 y] 29)).cell? ⟨wr.heap.size, 1, none⟩ = some (.int .i64 y) := by go_simp
          generalize wr.alloc (.cells #[.string x, .int .i64 y] 29) = WA at *
          generalize wr.heap.size = Z at *
          clear c0 c1
          go_quiet ((go_at_call 70; with_reducible exact quietEq (IN.out _)))
          go_wp2
          go_ret
          exact ⟨ret_bool HF.out.symm, bDrewN HBA.out _⟩
        · have k2 : decide ((L.toNat : Int) < 97) = false := by simpa using k1
          by_cases k3 : 122 < (L.toNat : Int)
          · have HF := Lib.hid (HN.out (by rw [HU.out, sceneB, HO.out, ← hl]; simp [smallB]; omega))
            have k4 : decide (122 < (L.toNat : Int)) = true := by simpa using k3
            clear hMk HN HU hpre hl hs k1 k3
            go_wp2
            have b0 : (wr.alloc (.cells #[.string x, .int .i64 y] 29)).cell? ⟨wr.heap.size, 0, none⟩ = some (.string x) := by go_simp
            have b1 : (wr.alloc (.cells #[.string x, .int .i64 y] 29)).cell? ⟨wr.heap.size, 1, none⟩ = some (.int .i64 y) := by go_simp
            generalize wr.alloc (.cells #[.string x, .int .i64 y] 29) = WA at *
            generalize wr.heap.size = Z at *
            clear c0 c1
            go_quiet ((go_at_call 70; with_reducible exact quietEq (IN.out _)))
            go_wp2
            go_ret
            exact ⟨ret_bool HF.out.symm, bDrewN HBA.out _⟩
          · have k4 : decide (122 < (L.toNat : Int)) = false := by simpa using k3
            have hsm : smallB (letter x 0) = true := by rw [← hl]; simp [smallB]; omega
            have HT := Lib.hid (show sceneB (x, y) = inB y 1 1000 by rw [sceneB, HO.out, hsm]; rfl)
            clear hsm hl
            cases hin : inB y 1 1000
            · rw [hin] at IN
              have HF := Lib.hid (HN.out (by rw [HU.out, HT.out, hin]; rfl))
              clear hMk HN HU hpre hs k1 k3 hin
              go_wp2
              have b0 : (wr.alloc (.cells #[.string x, .int .i64 y] 29)).cell? ⟨wr.heap.size, 0, none⟩ = some (.string x) := by go_simp
              have b1 : (wr.alloc (.cells #[.string x, .int .i64 y] 29)).cell? ⟨wr.heap.size, 1, none⟩ = some (.int .i64 y) := by go_simp
              generalize wr.alloc (.cells #[.string x, .int .i64 y] 29) = WA at *
              generalize wr.heap.size = Z at *
              clear c0 c1
              go_quiet ((go_at_call 70; with_reducible exact quietEq (IN.out _)))
              go_wp2
              go_ret
              exact ⟨ret_bool HF.out.symm, bDrewN HBA.out _⟩
            · rw [hin] at IN
              cases k with
              | zero =>
                have HK := Lib.hid (show stepC ps 0 = true by rw [HU.out, HT.out, hin]; rfl)
                clear hMk HN HU hpre hs k1 k3 hin
                rw [show ((0 : Nat) : Int) = 0 from rfl]
                go_wp2
                have b0 : (wr.alloc (.cells #[.string x, .int .i64 y] 29)).cell? ⟨wr.heap.size, 0, none⟩ = some (.string x) := by go_simp
                have b1 : (wr.alloc (.cells #[.string x, .int .i64 y] 29)).cell? ⟨wr.heap.size, 1, none⟩ = some (.int .i64 y) := by go_simp
                generalize wr.alloc (.cells #[.string x, .int .i64 y] 29) = WA at *
                generalize wr.heap.size = Z at *
                clear c0 c1
                go_quiet ((go_at_call 70; with_reducible exact quietEq (IN.out _)))
                go_wp2
                go_roundw
                case rel => exact ⟨0 + 1, by omega, by go_num, Lib.hid (fun i hi => by
                  have : i = 0 := by omega
                  rw [this]
                  exact HK.out), Lib.hid (bDrewN HBA.out _)⟩
                case measure => simp [intOf]; omega
              | succ j =>
                have p0 := hpre.out (by omega)
                have wj : IntKind.i64.wrap ((j : Int) + 1 - 1) = (j : Int) := by rw [IntWalk.i64_in _ (by omega)]; omega
                have hj1 : (0 : Int) < (j : Int) + 1 := by omega
                have hcast := Lib.hid (show ((j + 1 : Nat) : Int) = (j : Int) + 1 from by omega)
                rw [Nat.add_sub_cancel] at p0
                have HU2 := Lib.hid (show stepC ps (j + 1) = !((ps.getD j Go.Proofs.Ytibafngidpmgdab.s0).1.toList == x.toList) by
                  rw [HU.out, HT.out, hin, Nat.add_sub_cancel]
                  simp only [eqT, Bool.true_and, Nat.zero_lt_succ, decide_true]
                  rw [Bool.beq_comm])
                generalize (ps.getD j Go.Proofs.Ytibafngidpmgdab.s0).1 = x' at *
                cases he : (x'.toList == x.toList)
                · have HK := Lib.hid (show stepC ps (j + 1) = true by rw [HU2.out, he]; rfl)
                  clear hMk HN HU hpre HU2 hs k1 k3 hin
                  rw [hcast.out]
                  go_wp2
                  have b0 : (wr.alloc (.cells #[.string x, .int .i64 y] 29)).cell? ⟨wr.heap.size, 0, none⟩ = some (.string x) := by go_simp
                  have b1 : (wr.alloc (.cells #[.string x, .int .i64 y] 29)).cell? ⟨wr.heap.size, 1, none⟩ = some (.int .i64 y) := by go_simp
                  replace p0 : (wr.alloc (.cells #[.string x, .int .i64 y] 29)).cell? ⟨g, j * 2, none⟩ = some (.string x') := (World.cell?_alloc_lt wr _ _ (by exact hg)).trans p0
                  generalize wr.alloc (.cells #[.string x, .int .i64 y] 29) = WA at *
                  generalize wr.heap.size = Z at *
                  clear c0 c1
                  go_quiet ((go_at_call 70; with_reducible exact quietEq (IN.out _)))
                  go_wp2
                  go_roundw
                  case rel => exact ⟨j + 1 + 1, by omega, by go_num, Lib.hid (fun i hi => by
                    by_cases hik : i < j + 1
                    · exact HP.out i hik
                    · have : i = j + 1 := by omega
                      rw [this]
                      exact HK.out), Lib.hid (bDrewN HBA.out _)⟩
                  case measure => simp [intOf]; omega
                · have HF := Lib.hid (HN.out (by rw [HU2.out, he]; rfl))
                  clear hMk HN HU hpre HU2 hs k1 k3 hin
                  rw [hcast.out]
                  go_wp2
                  have b0 : (wr.alloc (.cells #[.string x, .int .i64 y] 29)).cell? ⟨wr.heap.size, 0, none⟩ = some (.string x) := by go_simp
                  have b1 : (wr.alloc (.cells #[.string x, .int .i64 y] 29)).cell? ⟨wr.heap.size, 1, none⟩ = some (.int .i64 y) := by go_simp
                  replace p0 : (wr.alloc (.cells #[.string x, .int .i64 y] 29)).cell? ⟨g, j * 2, none⟩ = some (.string x') := (World.cell?_alloc_lt wr _ _ (by exact hg)).trans p0
                  generalize wr.alloc (.cells #[.string x, .int .i64 y] 29) = WA at *
                  generalize wr.heap.size = Z at *
                  clear c0 c1
                  go_quiet ((go_at_call 70; with_reducible exact quietEq (IN.out _)))
                  go_wp2
                  go_ret
                  exact ⟨ret_bool HF.out.symm, bDrewN HBA.out _⟩
      · have hs1 : ((x.size : Int) != 1) = true := by rw [bne_iff_ne]; omega
        have HF := Lib.hid (HN.out (by rw [HU.out, sceneB, posB_off (s := x) (n := 1) (by omega)]; rfl))
        clear HN HU hpre hs
        go_wp2
        have b0 : (wr.alloc (.cells #[.string x, .int .i64 y] 29)).cell? ⟨wr.heap.size, 0, none⟩ = some (.string x) := by go_simp
        have b1 : (wr.alloc (.cells #[.string x, .int .i64 y] 29)).cell? ⟨wr.heap.size, 1, none⟩ = some (.int .i64 y) := by go_simp
        generalize wr.alloc (.cells #[.string x, .int .i64 y] 29) = WA at *
        generalize wr.heap.size = Z at *
        clear c0 c1
        go_quiet ((go_at_call 70; with_reducible exact quietEq (IN.out _)))
        go_wp2
        go_ret
        exact ⟨ret_bool HF.out.symm, bDrewN HBA.out _⟩
    · have : k = n := by omega
      subst this
      have HA := Lib.hid (show scnsB ps = inB (k : Int) 1 12 by
        by_cases h : 1 ≤ k ∧ k ≤ 12
        · rw [scnsB_mk (by rw [HL.out]; exact h) (by rw [HL.out]; exact HP.out), eq_comm, inB_iff]
          omega
        · rw [scnsB_off (by rw [HL.out]; exact h), eq_comm, inB_not]
          omega)
      go_wp2_with fail
      refine (l00In_any _ _ _ _).mono ?_
      rintro e u ⟨rfl, rfl⟩
      go_wp2
      go_ret
      exact ⟨ret_bool HA.out.symm, HB.out⟩

/-- spec.ValidScenes. -/
theorem specValidScenes_any (A : Option Addr) (n c : Nat) (ps : List Scn) (w : World) (hv : RdC w A n ps) (hm : ∀ j, j < n → (ps.getD j s0).1.size ≤ maxLen) :
    Calls Try.prog 27 #[.slice A n c] w fun e w' => e = .returned (.bool (scnsB ps)) ∧ Below w.heap.size w w' := by
  have HV := Lib.hid hv
  have HM := Lib.hid hm
  clear hv hm
  go_enter Try.func27, Try.ntmps27
  go_wp2_with fail
  refine (l08Ok_any A n c ps _ HV.out HM.out).mono ?_
  rintro e u ⟨rfl, hb⟩
  go_wp2
  go_ret
  exact ⟨rfl, hb⟩

end Go.Proofs.Ytibafngidpmgdab
