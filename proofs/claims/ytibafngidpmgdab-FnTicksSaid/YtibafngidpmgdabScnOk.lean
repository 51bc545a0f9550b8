/- Scenes that are valid: the program and the model. -/
import Derived.Test.YtibafngidpmgdabScnMath
import Derived.Test.YtibafngidpmgdabMotOk
import Derived.Test.YtibafngidpmgdabGrew
import Derived.Deep.RegionWith
import Derived.Deep.DrawnRows
import Derived.Deep.RegionHeld3
import Derived.IntWalk
import Derived.Tactics
import Derived.Tactics2
import Derived.WalkKit
import Derived.LoopTactic
import Derived.BigQuiet
import Derived.RegionTactic
import Derived.Deep.QuietTactic
import Derived.Outline
import Derived.Lib.Hide
import Derived.Below
import Derived.KernelRfl
namespace Go.Proofs.Ytibafngidpmgdab
set_option linter.unusedSimpArgs false
set_option linter.unusedVariables false
open Go.RowKit

/-- impl.Scene.isValid. -/
theorem sceneValid_any (p : ByteArray) (t : Int) (w : World) (hp : p.size ≤ maxLen) :
    Calls Try.prog 64 #[sv p t] w fun e w' => e = .returned (.bool (sceneB (p, t))) ∧ Below w.heap.size w w' := by
  have A1 := Lib.hid (fun w => arePoses_any p 1 w hp)
  cases h1 : posB p 1
  · rw [h1] at A1
    go_enter Try.func64, Try.ntmps64
    go_wp2_with fail
    refine (A1.out _).mono ?_
    rintro e u ⟨rfl, hb⟩
    go_wp2_with fail
    go_ret
    exact ⟨ret_bool (by simp [sceneB, h1]), bTrans (bAlloc (Below.refl _ _) _) hb⟩
  · rw [h1] at A1
    go_enter Try.func64, Try.ntmps64
    go_wp2_with fail
    refine (A1.out _).mono ?_
    rintro e u ⟨rfl, hb⟩
    obtain ⟨hc, hf⟩ := bCells hb
    have hz := hb.size
    simp at hz
    go_wp2_with fail
    refine (isWithin_any _ _ _ _).mono ?_
    rintro e u2 ⟨rfl, rfl⟩
    go_wp2_with fail
    go_ret
    exact ⟨ret_bool (by simp [sceneB, h1]), bTrans (bAlloc (Below.refl _ _) _) hb⟩

theorem one_letter {s : ByteArray} (h : posB s 1 = true) : s.size = 1 ∧ 97 ≤ (letter s 0).toNat ∧ (letter s 0).toNat ≤ 122 := by
  have h1 := posB_size h
  have h2 := posB_letter h (show 0 < s.size by omega)
  simp only [smallB, Bool.and_eq_true, decide_eq_true_eq] at h2
  exact ⟨by omega, h2⟩
theorem posB_one {s : ByteArray} (h : s.size = 1) : posB s 1 = smallB (letter s 0) := by
  cases e : smallB (letter s 0)
  · exact posB_bad (k := 0) (by omega) e
  · refine posB_mk (by omega) fun k hk => ?_
    rw [show k = 0 by omega]
    exact e

set_option maxHeartbeats 4000000 in
set_option maxRecDepth 100000 in
/-- impl.ValidScenes. -/
theorem validScenes_any (A : Option Addr) (n c : Nat) (ps : List Scn) (w : World) (hv : RdC w A n ps) (hm : ∀ j, j < n → (ps.getD j s0).1.size ≤ maxLen) :
    Calls Try.prog 29 #[.slice A n c] w fun e w' => e = .returned (.bool (scnsB ps)) ∧ Below w.heap.size w w' := by
  have hn := hv.2.1
  have HL := Lib.hid hv.1
  have HV := Lib.hid hv
  have HM := Lib.hid hm
  clear hv hm
  by_cases h1 : 1 ≤ n
  · by_cases h2 : n ≤ 12
    · have HX := Lib.hid (show 1 ≤ ps.length ∧ ps.length ≤ 12 by rw [HL.out]; omega)
      go_enter Try.func29, Try.ntmps29
      go_wp2
      go_loopw [15] (fun i wr => ∃ k : Nat, k ≤ n ∧ i = .int .i64 k ∧ Hid (∀ j, j < k → stepC ps j = true) ∧ Hid (Below w.heap.size w wr)) (fun i _ => n - (intOf i).toNat)
      case atStart => exact ⟨0, Nat.zero_le _, rfl, Lib.hid (fun j hj => by omega), Lib.hid (Below.refl _ _)⟩
      case round =>
        obtain ⟨k, hk, rfl, HP, HB⟩ := hrel
        by_cases hlt : k < n
        · obtain ⟨_, _, h3⟩ := HV.out.below HB.out
          rcases h3 with h0 | ⟨g, rfl, hg, h3⟩
          · omega
          obtain ⟨c0, c1⟩ := h3 k hlt
          have hMk := HM.out k hlt
          have HN := Lib.hid (fun h => scnsB_bad (ps := ps) (k := k) (by rw [HL.out]; exact hlt) h)
          have HU := Lib.hid (show stepC ps k = (sceneB (ps.getD k Go.Proofs.Ytibafngidpmgdab.s0) && !(decide (0 < k) && eqT (ps.getD k Go.Proofs.Ytibafngidpmgdab.s0).1 (ps.getD (k - 1) Go.Proofs.Ytibafngidpmgdab.s0).1)) from rfl)
          have hpre := Lib.hid (fun (h : 0 < k) => (h3 (k - 1) (by omega)).1)
          clear h3
          generalize ps.getD k Go.Proofs.Ytibafngidpmgdab.s0 = q at *
          obtain ⟨x, y⟩ := q
          simp only at c0 c1 hMk HU
          have V := Lib.hid (fun u => sceneValid_any x y u hMk)
          have HBA := Lib.hid (bAlloc HB.out (.cells #[.string x, .int .i64 y] 29))
          cases hb : sceneB (x, y)
          · have HF := Lib.hid (HN.out (by rw [HU.out, hb]; rfl))
            rw [hb] at V
            clear hMk HN HU hpre hb
            go_wp2
            have b0 : (wr.alloc (.cells #[.string x, .int .i64 y] 29)).cell? ⟨wr.heap.size, 0, none⟩ = some (.string x) := by go_simp
            have b1 : (wr.alloc (.cells #[.string x, .int .i64 y] 29)).cell? ⟨wr.heap.size, 1, none⟩ = some (.int .i64 y) := by go_simp
            have hZ : wr.heap.size < (wr.alloc (.cells #[.string x, .int .i64 y] 29)).heap.size := by simp
            generalize wr.alloc (.cells #[.string x, .int .i64 y] 29) = WA at *
            generalize wr.heap.size = Z at *
            clear c0 c1
            have q0 : ∀ p : Grew WA, p.u.cell? ⟨Z, 0, none⟩ = some (.string x) := fun p => p.cell hZ b0
            have q1 : ∀ p : Grew WA, p.u.cell? ⟨Z, 1, none⟩ = some (.int .i64 y) := fun p => p.cell hZ b1
            refine wp_region_grew (by kernel_rfl) (by kernel_rfl) ?_
            repeat (go_big_quiet_step ((go_at_call 64; with_reducible exact grewOf (V.out _))))
            refine wpQuiet_nil ?_
            intro w3 hw'
            obtain ⟨p3, hw''⟩ := hw'
            have hb2 : Below WA.heap.size WA w3 := by rw [hw'']; exact p3.h
            clear hw'' p3 q0 q1
            go_wp2
            go_ret
            exact ⟨ret_bool HF.out.symm, bTrans HBA.out hb2⟩
          · rw [hb] at V
            cases k with
            | zero =>
              have HK := Lib.hid (show stepC ps 0 = true by rw [HU.out, hb]; rfl)
              clear hMk HN HU hpre hb
              rw [show ((0 : Nat) : Int) = 0 from rfl]
              go_wp2
              have b0 : (wr.alloc (.cells #[.string x, .int .i64 y] 29)).cell? ⟨wr.heap.size, 0, none⟩ = some (.string x) := by go_simp
              have b1 : (wr.alloc (.cells #[.string x, .int .i64 y] 29)).cell? ⟨wr.heap.size, 1, none⟩ = some (.int .i64 y) := by go_simp
              have hZ : wr.heap.size < (wr.alloc (.cells #[.string x, .int .i64 y] 29)).heap.size := by simp
              generalize wr.alloc (.cells #[.string x, .int .i64 y] 29) = WA at *
              generalize wr.heap.size = Z at *
              clear c0 c1
              have q0 : ∀ p : Grew WA, p.u.cell? ⟨Z, 0, none⟩ = some (.string x) := fun p => p.cell hZ b0
              have q1 : ∀ p : Grew WA, p.u.cell? ⟨Z, 1, none⟩ = some (.int .i64 y) := fun p => p.cell hZ b1
              refine wp_region_grew (by kernel_rfl) (by kernel_rfl) ?_
              repeat (go_big_quiet_step ((go_at_call 64; with_reducible exact grewOf (V.out _))))
              refine wpQuiet_nil ?_
              intro w3 hw'
              obtain ⟨p3, hw''⟩ := hw'
              have hb2 : Below WA.heap.size WA w3 := by rw [hw'']; exact p3.h
              clear hw'' p3 q0 q1
              go_wp2
              go_roundw
              case rel => exact ⟨0 + 1, by omega, by go_num, Lib.hid (fun i hi => by
                have : i = 0 := by omega
                rw [this]
                exact HK.out), Lib.hid (bTrans HBA.out hb2)⟩
              case measure => simp [intOf]; omega
            | succ j =>
              have p0 := hpre.out (by omega)
              have wj : IntKind.i64.wrap ((j : Int) + 1 - 1) = (j : Int) := by rw [IntWalk.i64_in _ (by omega)]; omega
              have hj1 : (0 : Int) < (j : Int) + 1 := by omega
              have hcast := Lib.hid (show ((j + 1 : Nat) : Int) = (j : Int) + 1 from by omega)
              rw [Nat.add_sub_cancel] at p0
              have HU2 := Lib.hid (show stepC ps (j + 1) = !(x.toList == (ps.getD j Go.Proofs.Ytibafngidpmgdab.s0).1.toList) by rw [HU.out, hb, Nat.add_sub_cancel]; simp [eqT])
              generalize (ps.getD j Go.Proofs.Ytibafngidpmgdab.s0).1 = x' at *
              cases he : (x.toList == x'.toList)
              · have HK := Lib.hid (show stepC ps (j + 1) = true by rw [HU2.out, he]; rfl)
                clear hMk HN HU hpre hb HU2
                rw [hcast.out]
                go_wp2
                have b0 : (wr.alloc (.cells #[.string x, .int .i64 y] 29)).cell? ⟨wr.heap.size, 0, none⟩ = some (.string x) := by go_simp
                have b1 : (wr.alloc (.cells #[.string x, .int .i64 y] 29)).cell? ⟨wr.heap.size, 1, none⟩ = some (.int .i64 y) := by go_simp
                replace p0 : (wr.alloc (.cells #[.string x, .int .i64 y] 29)).cell? ⟨g, j * 2, none⟩ = some (.string x') := (World.cell?_alloc_lt wr _ _ (by exact hg)).trans p0
                have hZ : wr.heap.size < (wr.alloc (.cells #[.string x, .int .i64 y] 29)).heap.size := by simp
                have hgZ : g < (wr.alloc (.cells #[.string x, .int .i64 y] 29)).heap.size := by simp; omega
                generalize wr.alloc (.cells #[.string x, .int .i64 y] 29) = WA at *
                generalize wr.heap.size = Z at *
                clear c0 c1
                have q0 : ∀ p : Grew WA, p.u.cell? ⟨Z, 0, none⟩ = some (.string x) := fun p => p.cell hZ b0
                have q1 : ∀ p : Grew WA, p.u.cell? ⟨Z, 1, none⟩ = some (.int .i64 y) := fun p => p.cell hZ b1
                have q2 : ∀ p : Grew WA, p.u.cell? ⟨g, j * 2, none⟩ = some (.string x') := fun p => p.cell hgZ p0
                refine wp_region_grew (by kernel_rfl) (by kernel_rfl) ?_
                repeat (go_big_quiet_step ((go_at_call 64; with_reducible exact grewOf (V.out _))))
                refine wpQuiet_nil ?_
                intro w3 hw'
                obtain ⟨p3, hw''⟩ := hw'
                have hb2 : Below WA.heap.size WA w3 := by rw [hw'']; exact p3.h
                clear hw'' p3 q0 q1 q2
                go_wp2
                go_roundw
                case rel => exact ⟨j + 1 + 1, by omega, by go_num, Lib.hid (fun i hi => by
                  by_cases hik : i < j + 1
                  · exact HP.out i hik
                  · have : i = j + 1 := by omega
                    rw [this]
                    exact HK.out), Lib.hid (bTrans HBA.out hb2)⟩
                case measure => simp [intOf]; omega
              · have HF := Lib.hid (HN.out (by rw [HU2.out, he]; rfl))
                clear hMk HN HU hpre hb HU2
                rw [hcast.out]
                go_wp2
                have b0 : (wr.alloc (.cells #[.string x, .int .i64 y] 29)).cell? ⟨wr.heap.size, 0, none⟩ = some (.string x) := by go_simp
                have b1 : (wr.alloc (.cells #[.string x, .int .i64 y] 29)).cell? ⟨wr.heap.size, 1, none⟩ = some (.int .i64 y) := by go_simp
                replace p0 : (wr.alloc (.cells #[.string x, .int .i64 y] 29)).cell? ⟨g, j * 2, none⟩ = some (.string x') := (World.cell?_alloc_lt wr _ _ (by exact hg)).trans p0
                have hZ : wr.heap.size < (wr.alloc (.cells #[.string x, .int .i64 y] 29)).heap.size := by simp
                have hgZ : g < (wr.alloc (.cells #[.string x, .int .i64 y] 29)).heap.size := by simp; omega
                generalize wr.alloc (.cells #[.string x, .int .i64 y] 29) = WA at *
                generalize wr.heap.size = Z at *
                clear c0 c1
                have q0 : ∀ p : Grew WA, p.u.cell? ⟨Z, 0, none⟩ = some (.string x) := fun p => p.cell hZ b0
                have q1 : ∀ p : Grew WA, p.u.cell? ⟨Z, 1, none⟩ = some (.int .i64 y) := fun p => p.cell hZ b1
                have q2 : ∀ p : Grew WA, p.u.cell? ⟨g, j * 2, none⟩ = some (.string x') := fun p => p.cell hgZ p0
                refine wp_region_grew (by kernel_rfl) (by kernel_rfl) ?_
                repeat (go_big_quiet_step ((go_at_call 64; with_reducible exact grewOf (V.out _))))
                refine wpQuiet_nil ?_
                intro w3 hw'
                obtain ⟨p3, hw''⟩ := hw'
                have hb2 : Below WA.heap.size WA w3 := by rw [hw'']; exact p3.h
                clear hw'' p3 q0 q1 q2
                go_wp2
                go_ret
                exact ⟨ret_bool HF.out.symm, bTrans HBA.out hb2⟩
        · have : k = n := by omega
          subst this
          have HF := Lib.hid (scnsB_mk HX.out (by rw [HL.out]; exact HP.out))
          go_wp2
          go_ret
          exact ⟨ret_bool HF.out.symm, HB.out⟩
    · have HF := Lib.hid (scnsB_off (ps := ps) (by rw [HL.out]; omega))
      go_enter Try.func29, Try.ntmps29
      go_wp2
      go_ret
      exact ⟨ret_bool HF.out.symm, Below.refl _ _⟩
  · have HF := Lib.hid (scnsB_off (ps := ps) (by rw [HL.out]; omega))
    go_enter Try.func29, Try.ntmps29
    go_wp2
    go_ret
    exact ⟨ret_bool HF.out.symm, Below.refl _ _⟩

end Go.Proofs.Ytibafngidpmgdab
