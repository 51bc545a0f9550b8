/- A loop that begins at another place: the model. -/
import Derived.Test.YtfbdeeobmjndlaaProg
import Derived.Test.YtfbdeeobmjndlaaLoopMath
import Derived.Test.YtfbdeeobmjndlaaInts
import Derived.Test.YtfbdeeobmjndlaaLoop
import Derived.Test.YtfbdeeobmjndlaaLoop2
import Derived.Test.YtfbdeeobmjndlaaLoop3
import Derived.Test.YtfbdeeobmjndlaaIGrids
import Derived.Deep.AppendLies
import Derived.Deep.DrawnRows
import Derived.Test.YtfbdeeobmjndlaaHold
import Derived.IntWalk
import Derived.WalkSpells
import Derived.OwnWalk
import Derived.Laws.AppendOwn
import Derived.Laws.OwnMore
import Derived.Deep.RegionWith
import Derived.Deep.DrawnRows
import Derived.Deep.RegionHeld3
import Derived.Tactics
import Derived.Tactics2
import Derived.WalkKit
import Derived.LoopTactic
import Derived.BigQuiet
import Derived.RegionTactic
import Derived.Deep.QuietTactic
import Derived.Outline
import Derived.Lib.Hide
import Derived.Below
import Derived.KernelRfl
namespace Go.Proofs.Ytfbdeeobmjndlaa
set_option linter.unusedSimpArgs false
set_option linter.unusedVariables false
open Go.RowKit

set_option maxHeartbeats 1000000 in
set_option maxRecDepth 100000 in
/-- spec.l05Turned. -/
theorem l05Turned_any (A : Option Addr) (n c : Nat) (zs : List Int) (d : Nat) (w : World) (hv : RdI w A n zs) (h1 : 1 ≤ n) (hn : n ≤ 1000) (hd : d ≤ 1000) :
    Calls Try.prog 127 #[.slice A n c, .int .i64 d] w fun e w' => ∃ v, e = .returned v ∧ Ints w' w.heap.size v (turnL zs d) ∧ Below w.heap.size w w' := by
  obtain ⟨i0, hi, hz0, hz1, hz2⟩ := info_parts infoI64
  have HLen := Lib.hid hv.1
  have HV := Lib.hid hv.2.2
  have HE := Lib.hid (show genL (fun k => ringI zs ((d : Int) + k)) n = turnL zs d by unfold turnL; rw [hv.1])
  have HLs := Lib.hid (show (turnL zs d).length = zs.length from genL_length _ _)
  have HS := Lib.hid (genL_succ (fun k => ringI zs ((d : Int) + k)))
  clear hv
  go_enter Try.func127, Try.ntmps127
  go_wp2
  go_loopw [7, 6] (fun i v wr => ∃ k : Nat, k ≤ n ∧ i = .int .i64 k ∧ Hid (wr.ownsRow w.heap.size 2 1 v k ((genL (fun k => ringI zs ((d : Int) + k)) k).map (Value.int .i64))) ∧ Hid (Below w.heap.size w wr)) (fun i _ _ => n - (intOf i).toNat)
  case atStart => exact ⟨0, Nat.zero_le _, rfl, Lib.hid (World.ownsRow_lit w #[] 0 (Nat.le_refl _) (Nat.zero_le _) rfl), Lib.hid (bAlloc (Below.refl _ _) _)⟩
  case round =>
    obtain ⟨k, hk, rfl, HO, HB⟩ := hrel
    by_cases hlt : k < n
    · rcases HV.out with h0 | ⟨g, rfl, hg, h3⟩
      · omega
      have hmod : (k + d) % n < n := Nat.mod_lt _ (by omega)
      have c0 := (HB.out.cell (p := ⟨g, (k + d) % n, none⟩) hg).trans (h3 _ hmod)
      have HE1 := Lib.hid (show ringI zs ((d : Int) + k) = zs.getD ((k + d) % n) 0 by rw [show ((d : Int) + k) = ((k + d : Nat) : Int) by omega, ringI_nat, HLen.out])
      have HS1 := Lib.hid (HS.out k)
      have wk : IntKind.i64.wrap ((k : Int) + d) = (k : Int) + d := IntWalk.i64_in _ (by omega)
      have hr2 : ((k : Int) + d) % n = (((k + d) % n : Nat) : Int) := by rw [Int.natCast_emod, Int.natCast_add]
      have hr : Int.tmod ((k : Int) + d) n = (((k + d) % n : Nat) : Int) := by rw [Int.tmod_eq_emod_of_nonneg (by omega), hr2]
      have hn0 : ¬ (n : Int) = 0 := by omega
      have hn00 : ¬ n = 0 := by omega
      clear h3
      have hj0 : (0 : Int) ≤ (((k + d) % n : Nat) : Int) := by omega
      have hj1 : (((k + d) % n : Nat) : Int) < n := by omega
      generalize (k + d) % n = j at *
      generalize zs.getD j 0 = x at *
      have hbz := HB.out.size
      go_wp2_with (first | (at_builtin; refine wpList_append_own _ rfl _ _ 22 rfl w.heap.size 2 i0 (.int .i64 0) 1 8 Try.underlying22 hi hz0 hz1 hz2 rfl (by decide) _ _ _ rfl (HO.out.alloc _) ⟨wr.heap.size, 0, none⟩ 1 1 [.int .i64 x] rfl rfl (oneI_new _ _ _) (ints_oneCell .i64 [x]) (by unfold maxLen; omega) (by omega) (by simp; omega) ?_; intro v' w1 hown' hgrow hnil))
      have HO' := Lib.hid hown'
      have HB' := Lib.hid (Below.grown (bAlloc HB.out _) hgrow (by simp; omega) (fun j hj => (World.ownsRow.lt HO.out j hj).1))
      clear hown' hgrow hnil
      go_wp2
      go_roundw
      case rel => exact ⟨k + 1, by omega, by go_num, Lib.hid (by rw [HS1.out, HE1.out, List.map_append]; exact HO'.out), HB'⟩
      case measure => simp [intOf]; omega
    · have : k = n := by omega
      subst this
      have h1 := HO.out
      rw [HE.out] at h1
      have H1 := Lib.hid h1
      clear h1
      go_wp2
      go_ret
      refine ⟨_, rfl, ?_, HB.out⟩
      unfold Ints
      rw [HLs.out, HLen.out]
      exact H1.out

/-- spec.TurnLoop. -/
theorem specTurn_bad (A : Option Addr) (n c : Nat) (zs : List Int) (d : Int) (w : World) (hv : RdI w A n zs) (hz : loopB zs = false) :
    Calls Try.prog 42 #[.slice A n c, .int .i64 d] w fun e w' => ∃ v, e = .returned (.tuple #[v, .int .i64 1]) ∧ Ints w' w.heap.size v [] ∧ Below w.heap.size w w' := by
  have HV := Lib.hid hv
  clear hv
  go_enter Try.func42, Try.ntmps42
  go_wp2_with fail
  refine (l05Ok_any A n c zs _ HV.out).mono ?_
  rintro e u ⟨rfl, rfl⟩
  rw [hz]
  go_wp2
  go_ret2
  exact ⟨_, rfl, World.ownsRow_nil _ _ _ _, Below.refl _ _⟩
theorem specTurn_range (A : Option Addr) (n c : Nat) (zs : List Int) (d : Int) (w : World) (hv : RdI w A n zs) (hz : loopB zs = true) (hd : inB d 0 60 = false) :
    Calls Try.prog 42 #[.slice A n c, .int .i64 d] w fun e w' => ∃ v, e = .returned (.tuple #[v, .int .i64 2]) ∧ Ints w' w.heap.size v [] ∧ Below w.heap.size w w' := by
  have HV := Lib.hid hv
  clear hv
  go_enter Try.func42, Try.ntmps42
  go_wp2_with fail
  refine (l05Ok_any A n c zs _ HV.out).mono ?_
  rintro e u ⟨rfl, rfl⟩
  rw [hz]
  go_wp2_with fail
  refine (l00In_any _ _ _ _).mono ?_
  rintro e u ⟨rfl, rfl⟩
  rw [hd]
  go_wp2
  go_ret2
  exact ⟨_, rfl, World.ownsRow_nil _ _ _ _, Below.refl _ _⟩
theorem specTurn_ok (A : Option Addr) (n c : Nat) (zs : List Int) (d : Nat) (w : World) (hv : RdI w A n zs) (hz : loopB zs = true) (hd : d ≤ 60) :
    Calls Try.prog 42 #[.slice A n c, .int .i64 d] w fun e w' => ∃ v, e = .returned (.tuple #[v, .int .i64 0]) ∧ Ints w' w.heap.size v (turnL zs d) ∧ Below w.heap.size w w' := by
  have HV := Lib.hid hv
  have hl := loopB_len hz
  rw [hv.1] at hl
  clear hv
  have hB : inB (d : Int) 0 60 = true := inB_iff.2 ⟨by omega, by omega⟩
  have S := Lib.hid (l05Turned_any A n c zs d w HV.out (by omega) (by omega) (by omega))
  generalize turnL zs d = qs at *
  go_enter Try.func42, Try.ntmps42
  go_wp2_with fail
  refine (l05Ok_any A n c zs _ HV.out).mono ?_
  rintro e u ⟨rfl, rfl⟩
  rw [hz]
  go_wp2_with fail
  refine (l00In_any _ _ _ _).mono ?_
  rintro e u ⟨rfl, rfl⟩
  rw [hB]
  go_wp2_with fail
  refine S.out.mono ?_
  rintro e u ⟨v, rfl, io, hb⟩
  go_wp2_with fail
  go_ret2
  exact ⟨v, rfl, io, hb⟩

end Go.Proofs.Ytfbdeeobmjndlaa
