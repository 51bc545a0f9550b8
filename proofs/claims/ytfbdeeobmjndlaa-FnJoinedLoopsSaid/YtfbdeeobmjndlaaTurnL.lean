/- A loop that begins at another place: the program. -/
import Derived.Test.YtfbdeeobmjndlaaProg
import Derived.Test.YtfbdeeobmjndlaaLoopMath
import Derived.Test.YtfbdeeobmjndlaaInts
import Derived.Test.YtfbdeeobmjndlaaLoop
import Derived.Test.YtfbdeeobmjndlaaLoop2
import Derived.Test.YtfbdeeobmjndlaaLoop3
import Derived.Test.YtfbdeeobmjndlaaIGrids
import Derived.Deep.AppendLies
import Derived.Deep.DrawnRows
import Derived.Test.YtfbdeeobmjndlaaHold
import Derived.IntWalk
import Derived.WalkSpells
import Derived.OwnWalk
import Derived.Laws.AppendOwn
import Derived.Laws.OwnMore
import Derived.Deep.RegionWith
import Derived.Deep.DrawnRows
import Derived.Deep.RegionHeld3
import Derived.Tactics
import Derived.Tactics2
import Derived.WalkKit
import Derived.LoopTactic
import Derived.BigQuiet
import Derived.RegionTactic
import Derived.Deep.QuietTactic
import Derived.Outline
import Derived.Lib.Hide
import Derived.Below
import Derived.KernelRfl
namespace Go.Proofs.Ytfbdeeobmjndlaa
set_option linter.unusedSimpArgs false
set_option linter.unusedVariables false
open Go.RowKit

/-- impl.turned.at. -/
theorem turnedAt_any (A : Option Addr) (n c : Nat) (zs : List Int) (d k : Int) (w : World) (hv : RdI w A n zs) (h1 : 1 ≤ n) (d0 : 0 ≤ d) (d1 : d ≤ 1000) (k0 : 0 ≤ k) (k1 : k ≤ 1000000) :
    Calls Try.prog 129 #[.agg #[.slice A n c, .int .i64 d], .int .i64 k] w fun e w' => e = .returned (.int .i64 (ringI zs (d + k))) ∧ Below w.heap.size w w' := by
  have R := Lib.hid (fun u (hu : RdI u A n zs) => ringAt_any A n c zs (d + k) u hu h1 (by omega) (by omega))
  have hw : IntKind.i64.wrap (d + k) = d + k := IntWalk.i64_in _ (by omega)
  have HV := Lib.hid hv
  clear hv
  go_enter Try.func129, Try.ntmps129
  go_wp2_with fail
  refine (R.out _ (HV.out.below (bAlloc (Below.refl _ _) _))).mono ?_
  rintro e u ⟨rfl, m, rfl⟩
  go_wp2
  go_ret
  exact ⟨rfl, bDrewN (bAlloc (Below.refl _ _) _) m⟩

/-- impl.TurnLoop. -/
theorem implTurn_bad (A : Option Addr) (n c : Nat) (zs : List Int) (d : Int) (w : World) (hv : RdI w A n zs) (hz : loopB zs = false) :
    Calls Try.prog 43 #[.slice A n c, .int .i64 d] w fun e w' => ∃ v, e = .returned (.tuple #[v, .int .i64 1]) ∧ Ints w' w.heap.size v [] ∧ Below w.heap.size w w' := by
  have HV := Lib.hid hv
  clear hv
  go_enter Try.func43, Try.ntmps43
  go_wp2_with fail
  refine (validLoop_any A n c zs _ HV.out).mono ?_
  rintro e u ⟨rfl, rfl⟩
  rw [hz]
  go_wp2
  go_ret2
  exact ⟨_, rfl, World.ownsRow_nil _ _ _ _, Below.refl _ _⟩
theorem implTurn_range (A : Option Addr) (n c : Nat) (zs : List Int) (d : Int) (w : World) (hv : RdI w A n zs) (hz : loopB zs = true) (hd : inB d 0 60 = false) :
    Calls Try.prog 43 #[.slice A n c, .int .i64 d] w fun e w' => ∃ v, e = .returned (.tuple #[v, .int .i64 2]) ∧ Ints w' w.heap.size v [] ∧ Below w.heap.size w w' := by
  have HV := Lib.hid hv
  have hc : d < 0 ∨ (¬ d < 0 ∧ 60 < d) := by
    have := inB_not.1 hd
    omega
  clear hv hd
  rcases hc with h1 | ⟨h1, h2⟩
  all_goals
    go_enter Try.func43, Try.ntmps43
    go_wp2_with fail
    refine (validLoop_any A n c zs _ HV.out).mono ?_
    rintro e u ⟨rfl, rfl⟩
    rw [hz]
    go_wp2
    go_ret2
    exact ⟨_, rfl, World.ownsRow_nil _ _ _ _, Below.refl _ _⟩
set_option maxHeartbeats 1000000 in
theorem implTurn_ok (A : Option Addr) (n c : Nat) (zs : List Int) (d : Nat) (w : World) (hv : RdI w A n zs) (hz : loopB zs = true) (hd : d ≤ 60) :
    Calls Try.prog 43 #[.slice A n c, .int .i64 d] w fun e w' => ∃ v, e = .returned (.tuple #[v, .int .i64 0]) ∧ Ints w' w.heap.size v (turnL zs d) ∧ Below w.heap.size w w' := by
  have hmf : ∀ (fn : Fn) (first cap : Array Value) (w : World), (Instr.makeFunc fn first cap).run Try.prog w = .ok (.func fn first cap) w := fun _ _ _ _ => rfl
  have hl := loopB_len hz
  rw [hv.1] at hl
  have HE := Lib.hid (show genL (fun k => ringI zs ((d : Int) + k)) n = turnL zs d by unfold turnL; rw [hv.1])
  have L := Lib.hid (fun q (hb : Below w.heap.size w q) => listOf_turned (.agg #[.slice A n c, .int .i64 d]) n (fun k => ringI zs ((d : Int) + k)) q (by omega) (fun k hk u hbu => turnedAt_any A n c zs d k u ((hv.below hb).below hbu) (by omega) (by omega) (by omega) (by omega) (by omega)))
  rw [HE.out] at L
  have HV := Lib.hid hv
  have RL := Lib.hid (fun q : World => ringLen_any A n c q hv.2.1)
  clear hv HE
  generalize turnL zs d = qs at *
  go_enter Try.func43, Try.ntmps43
  go_wp2_with fail
  refine (validLoop_any A n c zs _ HV.out).mono ?_
  rintro e u ⟨rfl, rfl⟩
  rw [hz]
  go_wp2
  have HW := Lib.hid (show Below w.heap.size w (w.alloc (.cells #[.slice A n c, .int .i64 d] 115)) from bAlloc (Below.refl _ _) _)
  go_region_held3 (fun w' => w'.cell? ⟨w.heap.size, 0, none⟩ = some (.slice A n c) ∧ w'.cell? ⟨w.heap.size, 1, none⟩ = some (.int .i64 d)) (go_keep)
    (first
      | (go_at_call 114; refine (RL.out _).mono ?_; rintro e w2 ⟨rfl, rfl⟩)
      | (go_at_call 128; refine (L.out _ (Below.drew HW.out)).mono ?_; rintro e w2 ⟨v, rfl, io, hb2⟩; obtain ⟨hc3, hf3⟩ := bCells hb2; have e0 : w2.cell? ⟨w.heap.size, 0, none⟩ = some (.slice A n c) := (hc3 _ _ (by simp)).trans (by go_simp); have e1 : w2.cell? ⟨w.heap.size, 1, none⟩ = some (.int .i64 d) := (hc3 _ _ (by simp)).trans (by go_simp)))
  all_goals go_wp2
  all_goals
    go_ret2
    exact ⟨v, rfl, Ints.base io (by simp), bTrans (Below.drew HW.out) hb2⟩

end Go.Proofs.Ytfbdeeobmjndlaa
