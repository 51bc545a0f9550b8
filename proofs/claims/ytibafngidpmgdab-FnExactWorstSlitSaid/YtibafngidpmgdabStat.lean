/- Functions that call by plain names alone: a plain contract, on every tape, walks in company too: no fence is needed. -/
import Derived.Test.YtibafngidpmgdabOfCalls
namespace Go.Proofs.Ytibafngidpmgdab
variable [GlobSize]
set_option linter.unusedSectionVars false
open Go.Conc
set_option linter.unusedSimpArgs false
set_option linter.unusedVariables false

/-- A call of one of these, by its plain name. -/
def statCal (L : List FuncId) (o : Oper) : Bool :=
  match o.op with
  | .call c => match c.callee with | .value (.func f) => L.contains f | _ => false
  | _ => false

section
variable {P : Program} [EarlyOk P] {F : FuncId → Prop} {L : List FuncId} {fr : Frame} {ks : List Frame} {w : World}

theorem about_stat (hF : ∀ f ∈ L, F f) (h : FrameOk (statCal L) P F fr) : ∀ f, fr.about P w = some f → F f := by
  intro f hf
  by_cases hm : fr.mode = .run
  · simp only [Frame.about, hm] at hf
    rcases ht : fr.todo with _ | ⟨it, k⟩
    · rw [ht] at hf; cases hf
    rw [ht] at hf
    have h0 : itemOk (statCal L) P it = true := h.todo it (by simp [ht])
    cases it with
    | inRegion ops l =>
      cases l with
      | nil => cases hf
      | cons i rest =>
        dsimp only at hf
        cases ho : ops[i]? with
        | none => rw [ho] at hf; cases hf
        | some o =>
          rw [ho] at hf
          dsimp only at hf
          have hok : okOp (statCal L) P o = true := by
            have : ops.all (okOp (statCal L) P) = true := h0
            rw [Array.all_eq_true_iff_forall_mem] at this
            exact this o (Array.mem_of_getElem? ho)
          obtain ⟨dst, op, type, pos, after, guard⟩ := o
          cases op with
          | call c =>
            obtain ⟨callee, args, ts⟩ := c
            cases callee with
            | builtin b => cases hf
            | invoke r m => cases hok
            | value g =>
              have hst : statCal L ⟨dst, .call ⟨.value g, args, ts⟩, type, pos, after, guard⟩ = true := by
                have h2 : (callOk ⟨dst, .call ⟨.value g, args, ts⟩, type, pos, after, guard⟩ && statCal L ⟨dst, .call ⟨.value g, args, ts⟩, type, pos, after, guard⟩) = true := hok
                exact (Bool.and_eq_true _ _ ▸ h2 : _ ∧ _).2
              cases g with
              | func g =>
                have e : f = g := by
                  have : (some g : Option FuncId) = some f := hf
                  cases this; rfl
                subst e
                exact hF f (by simpa [statCal] using hst)
              | _ => cases hst
          | _ => cases hf
    | code c => cases c <;> first | cases hf | cases h0
    | _ => first | cases hf | cases h0
  · rw [about_still h hm] at hf; cases hf

theorem lone_of_plain {Post : Frame → World → Prop} (hF : ∀ f ∈ L, F f) (hC : CodeOk (statCal L) P F) {I : Machine → Prop} {m m' : Machine} (h : StepsIn I P m m') :
    ∀ (fr : Frame) (ks : List Frame) (w : World), m = lone fr (ks ++ [wall P]) w → Zone (statCal L) P F fr ks → NoLoops w → ∀ (fr2 : Frame) (w2 : World), m' = lone fr2 [wall P] w2 → fr2.mode ≠ .run → Post fr2 w2 → Lone P F Post fr ks w := by
  induction h with
  | refl m =>
    intro fr ks w e hz hw fr2 w2 e2 hm hp
    obtain ⟨e1, e3, e4⟩ := lone_inj (e.symm.trans e2)
    subst e1; subst e4
    have hk : ks = [] := by simpa using e3
    exact .done ⟨hk, hm⟩ hp
  | @head m m1 m2 hI hs h' ih =>
    intro fr ks w e hz hw fr2 w2 e2 hm hp
    subst e
    by_cases hl : Leaves fr ks
    · exfalso
      obtain ⟨hk, hmode⟩ := hl
      subst hk
      rcases out_step hC hz.top hmode w with ⟨o, w', he⟩ | ⟨fr', w', hg, o, w3, he⟩
      · rw [List.nil_append, he] at hs; cases hs
      · rw [List.nil_append, hg] at hs
        cases hs
        cases h' with
        | refl => exact absurd (lone_inj e2).2.1 (by simp)
        | head _ hs' _ => rw [he] at hs'; cases hs'
    · have hab := about_stat (w := w) hF hz.top
      rcases zone_step hC hz hl hw hab with ⟨k, he⟩ | ⟨fr', ks', w', es, k, h1, h2, h3⟩
      · exfalso
        obtain ⟨o, w', es, he⟩ := he [wall P] true w.tape w.drawn fun _ _ => rfl
        rw [re_self] at he
        rw [step_of_ended he] at hs
        cases hs
      · have e4 : re w' w.tape (w.drawn + k) = w' := by rw [← h2.tape, ← h2.drawn, re_self]
        have ew := h3 [wall P] true w.tape w.drawn fun _ _ => rfl
        have e0 := h3 [] true w.tape w.drawn fun _ _ => rfl
        rw [re_self, e4] at ew e0
        rw [step_of_go ew] at hs
        cases hs
        exact .step hl hab e0 (ih fr' ks' w' rfl h1 h2.loops fr2 w2 e2 hm hp)

/-- ████ A PLAIN CONTRACT, ON EVERY TAPE: SO IT WALKS IN COMPANY, IF ITS CODE CALLS BY PLAIN NAMES ALONE. ████ -/
theorem ev_of_plain {f : FuncId} (hf : f ∈ L) (hC : CodeOk (statCal L) P (· ∈ L)) {args : Array Value} {w : World} {R : Ending → World → Prop} {main : Bool} {cs : List Frame}
    (hcall : ∀ τ d, Calls P f args (re w τ d) R) (hR : ∀ e w' τ d, R e w' → R e (re w' τ d)) (hno : ∀ w', ¬ R .outgrown w') (hw : NoLoops w) :
    Ev P KeptD (StopZ (statCal L) P (· ∈ L) cs (CallPost P R)) main (G (Frame.enter P f args .normal) cs) w := by
  have hen := enter_ok hC hf args
  have hz : Zone (statCal L) P (· ∈ L) (Frame.enter P f args .normal) [] := ⟨hen.1, by simp⟩
  refine ev_of_every (ks := []) hC (fun fr w τ d hp => ⟨hp.1, hp.2.elim fun e he => ⟨e, hR e w τ d he.1, leaving_re hp.1 τ d he.2⟩⟩) hz hw fun τ d => ?_
  obtain ⟨e, w', fr, hr, hcomes, hfn, hlv⟩ := ((callsIn_wide (n := 0)).2 (hcall τ d)).2 [wall P] (room_wide _)
  have hst : StepsIn (Machine.fenced P Fence.wide) P (lone (Frame.enter P f args .normal) [wall P] (re w τ d)) (lone fr [wall P] w') ∧ fr.mode ≠ .run := by
    cases e with
    | returned v => exact ⟨hcomes, by rw [hlv.1]; simp⟩
    | panicked ch => exact ⟨hcomes, by rw [hlv.1]; simp⟩
    | outgrown => exact absurd hr (hno _)
  have hl := lone_of_plain (Post := fun fr w => ∃ e, R e w ∧ fr.leaving P w e) (fun f hf => hf) hC hst.1 _ [] _ rfl hz (show NoLoops (re w τ d) from hw) fr w' rfl hst.2 ⟨e, hr, hlv⟩
  exact hl.keeps hC hz hw
end
end Go.Proofs.Ytibafngidpmgdab
