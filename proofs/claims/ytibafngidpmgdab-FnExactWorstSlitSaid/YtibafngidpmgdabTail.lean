/- The rest of a body in company, by a walk of the lone kit's that holds on every tape. -/
import Derived.Test.YtibafngidpmgdabEvWalk
namespace Go.Proofs.Ytibafngidpmgdab
variable [GlobSize]
set_option linter.unusedSectionVars false
open Go.Conc
set_option linter.unusedSimpArgs false
set_option linter.unusedVariables false

section
variable {P : Program} [EarlyOk P] {L : List FuncId} {w : World}

/-- ████ THE REST OF A BODY: a plain walk that holds on every tape. ████ -/
theorem ev_tail (hC : CodeOk (statCal L) P (· ∈ L)) {b : Frame} (hk : b.kind = .normal) {fn : Func} (hfn : P.funcs[b.fn]? = some fn) (hB : Bodied P b.fn) {a : Act} (hd : a.defers = []) {c : Code} (hc : codeOk (statCal L) P c = true)
    {R : Ending → World → Prop} {main : Bool} {cs : List Frame} (hwp : ∀ τ d, c.wp P (bodyPost P fn R) a (re w τ d)) (hR : ∀ e w' τ d, R e w' → R e (re w' τ d)) (hno : ∀ w', ¬ R .outgrown w') (hw : NoLoops w) :
    Ev P KeptD (StopZ (statCal L) P (· ∈ L) cs (CallPost P R)) main (G (b.at a [.code c]) cs) w := by
  have hz : Zone (statCal L) P (· ∈ L) (b.at a [.code c]) [] := ⟨⟨hB, hk, rfl, hd, fun i hi => by
    have : i = .code c := by simpa [Frame.at] using hi
    subst this
    exact hc⟩, by simp⟩
  refine ev_of_every (ks := []) hC (fun fr w τ d hp => ⟨hp.1, hp.2.elim fun e he => ⟨e, hR e w τ d he.1, leaving_re hp.1 τ d he.2⟩⟩) hz hw fun τ d => ?_
  obtain ⟨e, a', w', hq, harr⟩ := hwp τ d b [] [wall P]
  have key : ∃ e fr, R e w' ∧ Steps P (lone (b.at a [.code c]) [wall P] (re w τ d)) (lone fr [wall P] w') ∧ fr.leaving P w' e ∧ fr.mode ≠ .run := by
    cases e with
    | normal =>
      obtain ⟨hd', v, hr', hR'⟩ := hq
      exact ⟨.returned v, _, hR', Steps.trans harr (.one step_end), ⟨rfl, hd', hk, fn, hfn, hr'⟩, by simp⟩
    | ret =>
      obtain ⟨hd', v, hr', hR'⟩ := hq
      obtain ⟨todo, hs⟩ := harr
      exact ⟨.returned v, _, hR', hs, ⟨rfl, hd', hk, fn, hfn, hr'⟩, by simp⟩
    | panic chain =>
      obtain ⟨hd', hR'⟩ := hq
      obtain ⟨todo, hs⟩ := harr
      exact ⟨.panicked chain, _, hR', hs, ⟨rfl, hd', fn, hfn⟩, by simp⟩
    | exit id => exact hq.elim
    | goto l => exact hq.elim
    | outgrown => exact absurd hq (hno _)
  obtain ⟨e, fr, hr', hs, hlv, hmode⟩ := key
  have hl := lone_of_plain (Post := fun fr w => ∃ e, R e w ∧ fr.leaving P w e) (fun f hf => hf) hC (stepsIn_wide.2 hs) _ [] _ rfl hz (show NoLoops (re w τ d) from hw) fr w' rfl hmode ⟨e, hr', hlv⟩
  exact hl.keeps hC hz hw
end
end Go.Proofs.Ytibafngidpmgdab
