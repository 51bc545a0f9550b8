/- FnExactWorstSlit: the call returns true for every input and leaves its arguments as they were. No condition besides the given row's own. -/
import Derived.Test.YtibafngidpmgdabRows
import Derived.Test.YtibafngidpmgdabLeaveOpen
import Derived.Test.YtibafngidpmgdabHead
import Derived.WalkKit
import Derived.ProofKit
import Derived.OpenShut
import Derived.ShutString
import Derived.ChangeOld
import Derived.Below
import Derived.Lib.SmallJoins
namespace Go.Proofs.Ytibafngidpmgdab.fnExactWorstSlit
open Go.ChangeShapes Go.WideShapes Go.ChangeAt Go.RowKit Go.Joins
open Go.ChangeMaps (open_string shut_string)
open Go.Conc
set_option linter.unusedSimpArgs false
set_option linter.unusedVariables false

theorem own : ownKnob Try.prog.godebug = none := by kernel_rfl
theorem laidOut : laidOutB Try.prog = true := by kernel_rfl

set_option maxRecDepth 100000 in
theorem lifted (os : Os) (started : os.Started) (H : Type) (enc : TypeId × Value → H) :
    ReturnsInLeavingWide {} Try.checked os 14 .any (Rows.fnExactWorstSlitSpec.pre6 enc Try.prog Try.f14 Rows.fnExactWorstSlitRow.domain false) (Rows.fnExactWorstSlitSpec.post enc Try.prog Try.f14 false true false false) := by
  refine leaving_runs (C := Try.checked) own started Try.func14
    (ChangeSpec.witness6 (enc := enc) (C := Try.checked) false ⟨#[], #[.agg #[.int .i64 0, .int .i64 0, .int .i64 0], .int .i64 0], []⟩ 8 (by kernel_rfl) (by kernel_rfl) (by kernel_rfl) (by kernel_rfl)) ?_
  intro W base args ds gs before hsh hval0 hW hcnd
  have hval : ∀ (j : Nat) t v, Try.f14.params[j]? = some t → args[j]? = some v → Value.okWide Try.prog W .any base t v := hval0
  have hW' := hW
  obtain ⟨p, q, hA0, hV, rfl, hfz, hnd⟩ := hW
  have hA : DataW.TrodAll enc Try.prog W 0 (fun _ => true) true Try.f14.params.toList args.toList ds p := hA0
  rw [Try.params14] at hA hval
  obtain ⟨v0, vs0, d0, ds0, p0, q0, hargs, rfl, rfl, h0, r0⟩ := trodAll_cons hA
  obtain ⟨v1, vs1, d1, ds1, p1, q1, rfl, rfl, rfl, h1, r1⟩ := trodAll_cons r0
  obtain ⟨rfl, rfl, rfl⟩ := trodAll_nil r1
  obtain rfl : args = #[v0, v1] := by cases args; simp_all
  obtain ⟨rfl, rfl⟩ := trodVars_none hV
  have k0 := h0
  have lt0 : ∀ x ∈ p0, x.block < W.heap.size := by obtain ⟨m, hm⟩ := k0; exact DataW.trod_lt m _ _ _ hm
  have k1 := h1
  have lt1 : ∀ x ∈ p1, x.block < W.heap.size := by obtain ⟨m, hm⟩ := k1; exact DataW.trod_lt m _ _ _ hm
  obtain ⟨c0a, c0b, c0c, y0a, y0b, y0c, m0, rfl, rfl, rfl, hy0a, hy0b, hy0c⟩ := open_agg3 Try.underlying51 (by kernel_rfl) (by kernel_rfl) (hval 0 51 v0 rfl rfl) h0
  obtain ⟨r0n, e0a, rfl, wr0⟩ := DataW.trod_int Try.underlying2 hy0a
  obtain ⟨r0h, e0b, rfl, wh0⟩ := DataW.trod_int Try.underlying2 hy0b
  obtain ⟨r0s, e0c, rfl, ws0⟩ := DataW.trod_int Try.underlying2 hy0c
  simp at e0a e0b e0c
  subst e0a e0b e0c
  obtain ⟨a1, rfl, rfl, rfl, w1⟩ := open_int Try.underlying2 (hval 1 2 v1 rfl rfl) h1
  clear hA0 hval0
  have hrun := solo_ends (P := Try.prog) (law_run (fun v W' => v = .bool true ∧ Below W.heap.size W W') r0n r0h r0s a1 W (noLoops_open hsh) fun w' hL => ⟨rfl, hL.2⟩) #[] (by intro op hop; simp at hop) (by intro op hop; simp at hop)
  obtain ⟨M, last, o, w', t', g1, g2, g3, g4⟩ := hrun
  refine ⟨M, last, o, w', t', g1, g2, g3, g4.mono fun v hh => ?_⟩
  obtain ⟨hv, bel⟩ := hh
  subst hv
  exact ⟨_, _, _, [], _, [], hW', trodAll_mk1 (shut_bool Try.underlying4 _), (trodAll_cons_mk (Below.trod laidOut (by kernel_rfl) (of_decide_eq_true (by kernel_rfl)) k0 bel lt0) (trodAll_cons_mk (Below.trod laidOut (by kernel_rfl) (of_decide_eq_true (by kernel_rfl)) k1 bel lt1) trodAll_mk0)), rfl, bel.frame _, fun h => by cases h⟩

/-- The row's closed cells are what the program forces; its head is read once (Head). -/
theorem facts : joinedFacts Try.pinned.checked.prog 14 Try.f14 Rows.fnExactWorstSlitSpec Rows.fnExactWorstSlitRow = true := by
  unfold joinedFacts
  rw [headMake, headLifted, headEnter]
  kernel_rfl

theorem over : Rows.fnExactWorstSlitRow.holds Try.pinned (OpenSpec.ofChange Rows.fnExactWorstSlitSpec) :=
  OpenClaim.holds_of_wide_leaving 14 Try.f14 rfl rfl rfl rfl rfl rfl rfl ⟨rfl, rfl, rfl, rfl, rfl⟩ rfl rfl rfl rfl rfl (by kernel_rfl) Try.func14 facts
    (of_decide_eq_true (by kernel_rfl)) (by unfold Func.isWrapper; first | (rw [if_pos (by decide +kernel)]; kernel_rfl) | (rw [if_neg (by decide +kernel)]; exact ⟨rfl, rfl⟩))
    (fun os started H enc _ => lifted os started H enc)

/-- The statement. -/
theorem proved : Rows.FnExactWorstSlitSaid := over
#print axioms proved
end Go.Proofs.Ytibafngidpmgdab.fnExactWorstSlit
