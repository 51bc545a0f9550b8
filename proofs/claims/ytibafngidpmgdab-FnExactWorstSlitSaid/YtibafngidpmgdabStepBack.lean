/- A checked frame that returns, or panics, to a checked caller. -/
import Derived.Test.YtibafngidpmgdabStepOk
namespace Go.Proofs.Ytibafngidpmgdab
variable [GlobSize]
set_option linter.unusedSectionVars false
open Go.Conc
set_option linter.unusedSimpArgs false
set_option linter.unusedVariables false
section
variable {cal : Oper → Bool} {P : Program} [EarlyOk P] {F : FuncId → Prop} {fr c : Frame} {cs : List Frame} {w : World}

theorem t_results (fn : Func) (tmps : Array Value) : T P (results fn tmps) := by
  unfold results
  refine T.bind (t_mapM (fun r => ?_) _) fun _ => t_pure _
  cases r with
  | tmp t => exact t_pure _
  | cell a t => exact T.bind (t_asAddr _) fun _ => t_loadVar _ _

theorem finish_any (h : FrameOk cal P F fr) (v : Value) : FrameOk cal P F (fr.finish v) ∧ (fr.finish v).mode = fr.mode := by
  rcases ht : fr.todo with _ | ⟨it, k⟩
  · have e : fr.finish v = fr := by simp only [Frame.finish, ht]
    rw [e]; exact ⟨h, rfl⟩
  have h0 : itemOk cal P it = true := h.todo it (by simp [ht])
  cases it with
  | inRegion ops l =>
    cases l with
    | nil =>
      have e : fr.finish v = fr := by simp only [Frame.finish, ht]
      rw [e]; exact ⟨h, rfl⟩
    | cons i rest => exact finish_ok h ht v
  | code c =>
    have e : fr.finish v = fr := by simp only [Frame.finish, ht]
    rw [e]; exact ⟨h, rfl⟩
  | inBlock id =>
    have e : fr.finish v = fr := by simp only [Frame.finish, ht]
    rw [e]; exact ⟨h, rfl⟩
  | inLoop b =>
    have e : fr.finish v = fr := by simp only [Frame.finish, ht]
    rw [e]; exact ⟨h, rfl⟩
  | _ => cases h0

theorem step_back (hC : CodeOk cal P F) (h : FrameOk cal P F fr) (hm : fr.mode ≠ .run) (hc : FrameOk cal P F c) (hw : NoLoops w) : StepFine cal P F [c] (fun x => x = []) fr w := by
  cases hmd : fr.mode with
  | run => exact absurd hmd hm
  | panicking chain =>
    cases hcat : fr.catches P with
    | true => exact .inl ⟨0, fun cs main τ d _ => ⟨_, _, _, by simp [stepG, unwind, G, hmd, h.defers, hcat]; exact ⟨rfl, rfl, rfl⟩⟩⟩
    | false =>
      exact .inr ⟨c.raise chain, [], w, #[], 0, raise_ok hc _, rfl, ⟨rfl, rfl, rfl, Grows.same rfl, hw, rfl, by simp⟩, fun cs main τ d _ => by
        simp [stepG, unwind, G, hmd, h.defers, hcat]⟩
  | returning =>
    obtain ⟨fn, code, hf, _⟩ := h.fn
    obtain ⟨⟨h1, h2, h3, h4, h5, h6, h7⟩, kk, hk, hl⟩ := tame_local (t_results (P := P) fn fr.tmps) w hw #[]
    have hq : ∀ e ∈ ((results fn fr.tmps).runT P w #[]).2, Quiet e := fun e he => (h7 e he).elim (fun x => by simp at x) id
    rcases hr : (results fn fr.tmps).runT P w #[] with ⟨r, es⟩
    rw [hr] at h1 h2 h3 h4 h5 h6 hk hl hq
    cases r with
    | ok v w' =>
      refine .inr ⟨c.finish v, [], w', seen P fr.fn es, kk, (finish_any hc v).1, rfl, ⟨h1, h2, h3, h4, h5, hk, still_seen _ hq⟩, fun cs main τ d hsm => ?_⟩
      simp [-Sem.runT_eq, stepG, unwind, doReturn, G, hmd, h.defers, h.kind, hf, hl τ d hsm, rre, GStep.after]
    | halt x w' =>
      refine .inl ⟨kk, fun cs main τ d hsm => ?_⟩
      cases x <;> exact ⟨_, _, _, by simp [-Sem.runT_eq, stepG, unwind, doReturn, G, hmd, h.defers, h.kind, hf, hl τ d hsm, rre, GStep.after]; exact ⟨rfl, rfl, rfl⟩⟩
end
end Go.Proofs.Ytibafngidpmgdab
