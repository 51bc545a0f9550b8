/- The steps of a loop: the model. -/
import Derived.Test.YtfbdeeobmjndlaaProg
import Derived.Test.YtfbdeeobmjndlaaLoopMath
import Derived.Test.YtfbdeeobmjndlaaInts
import Derived.Test.YtfbdeeobmjndlaaLoop
import Derived.Test.YtfbdeeobmjndlaaLoop2
import Derived.Deep.AppendLies
import Derived.Deep.DrawnRows
import Derived.Test.YtfbdeeobmjndlaaHold
import Derived.IntWalk
import Derived.WalkSpells
import Derived.OwnWalk
import Derived.Laws.AppendOwn
import Derived.Laws.OwnMore
import Derived.Deep.RegionWith
import Derived.Deep.DrawnRows
import Derived.Deep.RegionHeld3
import Derived.Tactics
import Derived.Tactics2
import Derived.WalkKit
import Derived.LoopTactic
import Derived.BigQuiet
import Derived.RegionTactic
import Derived.Deep.QuietTactic
import Derived.Outline
import Derived.Lib.Hide
import Derived.Below
import Derived.KernelRfl
namespace Go.Proofs.Ytfbdeeobmjndlaa
set_option linter.unusedSimpArgs false
set_option linter.unusedVariables false
open Go.RowKit

/-- One new cell: what an append reads. -/
theorem oneI_new (w : World) (x : Int) (t : TypeId) : ∀ j u, [Value.int .i64 x][j]? = some u → (w.alloc (.cells #[.int .i64 x] t)).cell? ((⟨w.heap.size, 0, none⟩ : Addr).add j) = some u := by
  intro j u hj
  match j, hj with
  | 0, hj =>
    simp at hj
    subst hj
    simp [Addr.add]
theorem stillOf {P : Program} {f : FuncId} {args : Array Value} {w : World} {v : Value} (h : Calls P f args w fun e w' => e = .returned v ∧ w = w') : Calls P f args w fun e w' => e = .returned v ∧ w' = w := h.mono fun _ _ hh => ⟨hh.1, hh.2.symm⟩
theorem bDrew1 {a w : World} (h : Below a.heap.size a w) : Below a.heap.size a w.drew := ⟨h.os, h.tape, h.output, h.size, h.block⟩

set_option maxHeartbeats 1000000 in
set_option maxRecDepth 100000 in
/-- spec.l05Steps. -/
theorem l05Steps_any (A : Option Addr) (n c : Nat) (zs : List Int) (w : World) (hv : RdI w A n zs) (hz : loopB zs = true) :
    Calls Try.prog 111 #[.slice A n c] w fun e w' => ∃ v, e = .returned v ∧ Ints w' w.heap.size v (stepsL zs) ∧ Below w.heap.size w w' := by
  have hl := loopB_len hz
  rw [hv.1] at hl
  obtain ⟨i0, hi, hz0, hz1, hz2⟩ := info_parts infoI64
  have HZ := Lib.hid hz
  have HLen := Lib.hid hv.1
  have HV := Lib.hid hv.2.2
  have HE := Lib.hid (show genL (fun k => stepI zs k) n = stepsL zs by unfold stepsL; rw [hv.1])
  have HLs := Lib.hid (stepsL_length zs)
  have HS := Lib.hid (genL_succ (fun k => stepI zs k))
  clear hv hz
  go_enter Try.func111, Try.ntmps111
  go_wp2
  go_loopw [4, 3] (fun i v wr => ∃ k : Nat, k ≤ n ∧ i = .int .i64 k ∧ Hid (wr.ownsRow w.heap.size 2 1 v k ((genL (fun k => stepI zs k) k).map (Value.int .i64))) ∧ Hid (Below w.heap.size w wr)) (fun i _ _ => n - (intOf i).toNat)
  case atStart => exact ⟨0, Nat.zero_le _, rfl, Lib.hid (World.ownsRow_lit w #[] 0 (Nat.le_refl _) (Nat.zero_le _) rfl), Lib.hid (bAlloc (Below.refl _ _) _)⟩
  case round =>
    obtain ⟨k, hk, rfl, HO, HB⟩ := hrel
    by_cases hlt : k < n
    · rcases HV.out with h0 | ⟨g, rfl, hg, h3⟩
      · omega
      have hmod : (k + 1) % n < n := Nat.mod_lt _ (by omega)
      have c0 := (HB.out.cell (p := ⟨g, k, none⟩) hg).trans (h3 k hlt)
      have c1 := (HB.out.cell (p := ⟨g, (k + 1) % n, none⟩) hg).trans (h3 ((k + 1) % n) hmod)
      have b0 := loopB_get HZ.out k
      have b1 := loopB_get HZ.out ((k + 1) % n)
      have e1 : stepI zs k = zs.getD ((k + 1) % n) 0 - zs.getD k 0 := by
        unfold stepI
        rw [show ((k : Int) + 1) = ((k + 1 : Nat) : Int) by omega, ringI_nat, ringI_lt zs k (by rw [HLen.out]; exact hlt), HLen.out]
      have HS1 := Lib.hid (HS.out k)
      have HE1 := Lib.hid e1
      clear e1 h3
      have hwk : IntKind.i64.wrap ((k : Int) + 1) = (k : Int) + 1 := IntWalk.i64_in _ (by omega)
      have hr : Int.tmod ((k : Int) + 1) n = (((k + 1) % n : Nat) : Int) := by rw [Int.tmod_eq_emod_of_nonneg (by omega), show ((k : Int) + 1) = ((k + 1 : Nat) : Int) by omega, Int.natCast_emod]
      have hr2 : ((k : Int) + 1) % n = (((k + 1) % n : Nat) : Int) := by rw [show ((k : Int) + 1) = ((k + 1 : Nat) : Int) by omega, Int.natCast_emod]
      have hn0 : ¬ (n : Int) = 0 := by omega
      have hn00 : ¬ n = 0 := by omega
      generalize (k + 1) % n = j at *
      generalize zs.getD j 0 = x at *
      generalize zs.getD k 0 = y at *
      have hwd : IntKind.i64.wrap (x - y) = x - y := IntWalk.i64_in _ (by omega)
      have hj0 : (0 : Int) ≤ (j : Int) := by omega
      have hj1 : (j : Int) < n := by omega
      have hbz := HB.out.size
      have ag : u3.ownBlock ≠ some g := fun e => by
        have := (World.ownsRow.lt HO.out g e).1
        omega
      have lg : g < wr.heap.size := by omega
      go_wp2_with fail
      go_region_held3 (fun w' => w'.cell? ⟨g, k, none⟩ = some (.int .i64 y) ∧ w'.cell? ⟨g, j, none⟩ = some (.int .i64 x))
        (first
          | go_keep
          | (go_split_ands
             refine ⟨?_, ?_⟩
             · (rw [hgrow.cell_far _ (by simp; omega) (Ne.symm ag)]; assumption)
             · (rw [hgrow.cell_far _ (by simp; omega) (Ne.symm ag)]; assumption)))
        ((refine step_append_lies _ (by rfl) _ _ _ (by rfl) w.heap.size 2 i0 _ 1 8 Try.underlying22 hi hz0 hz1 hz2 rfl (by omega) u3 k _ (by rfl) ((HO.out.alloc _).drew)
            ⟨wr.heap.size, 0, none⟩ 1 1 [.int .i64 (x - y)] (by rfl) (by rfl) (World.news_of_block (cs := #[.int .i64 (x - y)]) (t := 2) (fr := (0, 0)) (heap_alloc_new wr _)) (by simp [Value.oneCell'])
            (by omega) (by unfold maxLen; omega) (by omega) (by simp; omega) (wr.heap.size + 1) (by simp) ?_; intro gg cap w1 hown1 hgrow hat hlt2))
      have HO' := Lib.hid hown1
      have HB' := Lib.hid (Below.grown (Below.drew (bAlloc HB.out _)) hgrow (by simp; omega) (fun j hj => (World.ownsRow.lt HO.out j hj).1))
      clear hown1 hgrow hat hlt2
      go_wp2
      go_roundw
      case rel => exact ⟨k + 1, by omega, by go_num, Lib.hid (by rw [HS1.out, HE1.out, List.map_append]; exact HO'.out), HB'⟩
      case measure => simp [intOf]; omega
    · have : k = n := by omega
      subst this
      have h1 := HO.out
      rw [HE.out] at h1
      have H1 := Lib.hid h1
      clear h1
      go_wp2
      go_ret
      refine ⟨_, rfl, ?_, HB.out⟩
      unfold Ints
      rw [HLs.out, HLen.out]
      exact H1.out

/-- spec.StepsOfLoop. -/
theorem specSteps_bad (A : Option Addr) (n c : Nat) (zs : List Int) (w : World) (hv : RdI w A n zs) (hz : loopB zs = false) :
    Calls Try.prog 27 #[.slice A n c] w fun e w' => ∃ v, e = .returned (.tuple #[v, .int .i64 1]) ∧ Ints w' w.heap.size v [] ∧ Below w.heap.size w w' := by
  have HV := Lib.hid hv
  clear hv
  go_enter Try.func27, Try.ntmps27
  go_wp2_with fail
  refine (l05Ok_any A n c zs _ HV.out).mono ?_
  rintro e u ⟨rfl, rfl⟩
  rw [hz]
  go_wp2
  go_ret2
  exact ⟨_, rfl, World.ownsRow_nil _ _ _ _, Below.refl _ _⟩
theorem specSteps_ok (A : Option Addr) (n c : Nat) (zs : List Int) (w : World) (hv : RdI w A n zs) (hz : loopB zs = true) :
    Calls Try.prog 27 #[.slice A n c] w fun e w' => ∃ v, e = .returned (.tuple #[v, .int .i64 0]) ∧ Ints w' w.heap.size v (stepsL zs) ∧ Below w.heap.size w w' := by
  have HV := Lib.hid hv
  clear hv
  have S := Lib.hid (l05Steps_any A n c zs w HV.out hz)
  generalize stepsL zs = qs at *
  go_enter Try.func27, Try.ntmps27
  go_wp2_with fail
  refine (l05Ok_any A n c zs _ HV.out).mono ?_
  rintro e u ⟨rfl, rfl⟩
  rw [hz]
  go_wp2_with fail
  refine S.out.mono ?_
  rintro e u ⟨v, rfl, io, hb⟩
  go_wp2_with fail
  go_ret2
  exact ⟨v, rfl, io, hb⟩

end Go.Proofs.Ytfbdeeobmjndlaa
