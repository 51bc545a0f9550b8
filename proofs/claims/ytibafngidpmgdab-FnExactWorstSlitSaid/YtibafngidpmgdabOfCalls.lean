/- From a fenced contract on every tape to the lone run of the zone, and so to the walk in company. -/
import Derived.Test.YtibafngidpmgdabEv
import Derived.CallsIn
import Derived.KernelRfl
namespace Go.Proofs.Ytibafngidpmgdab
variable [GlobSize]
set_option linter.unusedSectionVars false
open Go.Conc
set_option linter.unusedSimpArgs false
set_option linter.unusedVariables false

section
variable {cal : Oper → Bool} {P : Program} [EarlyOk P] {Fe : Fence} {fr : Frame} {ks : List Frame} {w : World}

/-- A caller at which every run ends as soon as it is come back to. -/
def wall (P : Program) : Frame := { fn := P.funcs.size, tmps := #[], todo := [.call { target := .nil, args := #[] } false "fmt's door: none" #[]], defers := [], mode := .run, kind := .normal }

theorem no_row : (Extern.next "fmt's door: none").isNone = true := by kernel_rfl
theorem wall_finish (v : Value) (w : World) : ∃ o w', step P (lone ((wall P).finish v) [] w) = .ended o w' := by
  have hn : Extern.next "fmt's door: none" = none := Option.isNone_iff_eq_none.1 no_row
  exact ⟨_, _, step_lone_ended (by simp [stepG, stepG.exec, wall, Frame.finish, hn, GStep.bare]; exact ⟨rfl, rfl⟩)⟩
theorem wall_raise (ch : List PanicEntry) (w : World) : ∃ o w', step P (lone ((wall P).raise ch) [] w) = .ended o w' := by
  have hc : ("fmt's door: none".startsWith "fmt's door") = true := by kernel_rfl
  exact ⟨_, _, step_lone_ended (by simp [stepG, unwind, wall, Frame.raise, Frame.catches, hc, GStep.bare]; exact ⟨rfl, rfl⟩)⟩

theorem lone_inj {fr fr' : Frame} {cs cs' : List Frame} {w w' : World} (h : lone fr cs w = lone fr' cs' w') : fr = fr' ∧ cs = cs' ∧ w = w' := by
  simp only [lone, Machine.mk.injEq] at h
  obtain ⟨h1, h2, _⟩ := h
  have h3 := congrArg (fun a : Array Goroutine => a[0]?) h2
  simp only [List.getElem?_toArray, List.getElem?_cons_zero, Option.some.injEq, Goroutine.mk.injEq] at h3
  exact ⟨h3.1, h3.2.1, h1⟩

theorem step_of_go {fr fr' : Frame} {cs cs' : List Frame} {w w' : World} {es : Array Event} (h : stepG P true (G fr cs) w = .go (G fr' cs') w' es) : step P (lone fr cs w) = .next (lone fr' cs' w') :=
  step_lone_go (by have e : stepG P true { frame := fr, callers := cs, status := .running, dying := none } w = _ := h; rw [e]; rfl)
theorem step_of_ended {fr : Frame} {cs : List Frame} {w w' : World} {o : Outcome} {es : Array Event} (h : stepG P true (G fr cs) w = .ended o w' es) : step P (lone fr cs w) = .ended o w' :=
  step_lone_ended (by have e : stepG P true { frame := fr, callers := cs, status := .running, dying := none } w = _ := h; rw [e]; rfl)

theorem out_step {F : FuncId → Prop} (hC : CodeOk cal P F) (h : FrameOk cal P F fr) (hm : fr.mode ≠ .run) (w : World) :
    (∃ o w', step P (lone fr [wall P] w) = .ended o w') ∨ ∃ fr' w', step P (lone fr [wall P] w) = .next (lone fr' [] w') ∧ ∃ o w2, step P (lone fr' [] w') = .ended o w2 := by
  cases hmd : fr.mode with
  | run => exact absurd hmd hm
  | panicking chain =>
    cases hcat : fr.catches P with
    | true => exact .inl ⟨_, _, step_of_ended (es := #[]) (by simp [stepG, unwind, G, hmd, h.defers, hcat]; exact ⟨rfl, rfl⟩)⟩
    | false => exact .inr ⟨_, w, step_of_go (es := #[]) (fr' := (wall P).raise chain) (cs' := []) (by simp [stepG, unwind, G, hmd, h.defers, hcat]), wall_raise chain w⟩
  | returning =>
    obtain ⟨fn, code, hf, _⟩ := h.fn
    rcases hr : (results fn fr.tmps).runT P w #[] with ⟨r, es⟩
    cases r with
    | ok v w' => exact .inr ⟨_, w', step_of_go (es := seen P fr.fn es) (fr' := (wall P).finish v) (cs' := []) (by simp [-Sem.runT_eq, stepG, unwind, doReturn, G, hmd, h.defers, h.kind, hf, hr, GStep.after]), wall_finish v w'⟩
    | halt x w' => cases x <;> exact .inl ⟨_, _, step_of_ended (es := seen P fr.fn es) (by simp [-Sem.runT_eq, stepG, unwind, doReturn, G, hmd, h.defers, h.kind, hf, hr, GStep.after]; exact ⟨rfl, rfl⟩)⟩

theorem lone_of_steps {Post : Frame → World → Prop} (hC : CodeOk cal P Fe.fn) {m m' : Machine} (h : StepsIn (Machine.fenced P Fe) P m m') :
    ∀ (fr : Frame) (ks : List Frame) (w : World), m = lone fr (ks ++ [wall P]) w → Zone cal P Fe.fn fr ks → NoLoops w → ∀ (fr2 : Frame) (w2 : World), m' = lone fr2 [wall P] w2 → fr2.mode ≠ .run → Post fr2 w2 → Lone P Fe.fn Post fr ks w := by
  induction h with
  | refl m =>
    intro fr ks w e hz hw fr2 w2 e2 hm hp
    obtain ⟨e1, e3, e4⟩ := lone_inj (e.symm.trans e2)
    subst e1; subst e4
    have hk : ks = [] := by simpa using e3
    exact .done ⟨hk, hm⟩ hp
  | @head m m1 m2 hI hs h' ih =>
    intro fr ks w e hz hw fr2 w2 e2 hm hp
    subst e
    by_cases hl : Leaves fr ks
    · exfalso
      obtain ⟨hk, hmode⟩ := hl
      subst hk
      rcases out_step hC hz.top hmode w with ⟨o, w', he⟩ | ⟨fr', w', hg, o, w3, he⟩
      · rw [List.nil_append, he] at hs; cases hs
      · rw [List.nil_append, hg] at hs
        cases hs
        cases h' with
        | refl => exact absurd (lone_inj e2).2.1 (by simp)
        | head _ hs' _ => rw [he] at hs'; cases hs'
    · have hab : ∀ f, fr.about P w = some f → Fe.fn f := fun f hf => by
        have := hI { frame := fr, callers := ks ++ [wall P], status := .running, dying := none } (by simp [lone])
        exact this.2.2.1 f hf
      rcases zone_step hC hz hl hw hab with ⟨k, he⟩ | ⟨fr', ks', w', es, k, h1, h2, h3⟩
      · exfalso
        obtain ⟨o, w', es, he⟩ := he [wall P] true w.tape w.drawn fun _ _ => rfl
        rw [re_self] at he
        rw [step_of_ended he] at hs
        cases hs
      · have e4 : re w' w.tape (w.drawn + k) = w' := by rw [← h2.tape, ← h2.drawn, re_self]
        have ew := h3 [wall P] true w.tape w.drawn fun _ _ => rfl
        have e0 := h3 [] true w.tape w.drawn fun _ _ => rfl
        rw [re_self, e4] at ew e0
        rw [step_of_go ew] at hs
        cases hs
        exact .step hl hab e0 (ih fr' ks' w' rfl h1 h2.loops fr2 w2 e2 hm hp)

/-- The world stays without loops along a lone run. -/
theorem Lone.keeps {F : FuncId → Prop} {Post : Frame → World → Prop} (hC : CodeOk cal P F) (h : Lone P F Post fr ks w) : Zone cal P F fr ks → NoLoops w → Lone P F (fun fr w => NoLoops w ∧ Post fr w) fr ks w := by
  induction h with
  | done hl hp => exact fun _ hw => .done hl ⟨hw, hp⟩
  | @step fr fr1 ks ks1 w w1 es hn hab hs hrest ih =>
    intro hz hw
    obtain ⟨fr', ks', w', es', k, h1, h2, h3, _, h4⟩ := Lone.takes hC hz hw (.step hn hab hs hrest) hn
    have e := h4 [] true w.tape w.drawn fun _ _ => rfl
    rw [re_self, hs] at e
    obtain ⟨e1, e2, e3⟩ := go_inj (P := P) e
    have e4 : re w' w.tape (w.drawn + k) = w' := by rw [← h2.tape, ← h2.drawn, re_self]
    rw [e4] at e3
    subst e1; subst e2; subst e3
    exact .step hn hab hs (ih h1 h2.loops)

theorem leaving_re {fr : Frame} {e : Ending} {w : World} (hw : NoLoops w) (τ : Tape) (d : Nat) (h : fr.leaving P w e) : fr.leaving P (re w τ d) e := by
  cases e with
  | outgrown => exact trivial
  | panicked chain => exact h
  | returned v =>
    obtain ⟨h1, h2, h3, fn, h4, h5⟩ := h
    refine ⟨h1, h2, h3, fn, h4, ?_⟩
    obtain ⟨_, k, hk, hl⟩ := tame_local (t_results (P := P) fn fr.tmps) w hw #[]
    have e1 : ((results fn fr.tmps).runT P w #[]).1 = .ok v w := (Sem.runT_fst P _ w _).trans h5
    rw [e1] at hk hl
    have k0 : k = 0 := by
      have : w.drawn = w.drawn + k := hk
      omega
    subst k0
    have := congrArg Prod.fst (hl τ d fun j hj => absurd hj (Nat.not_lt_zero _))
    rw [Sem.runT_fst] at this
    exact this

/-- Where a call of f stands when its frame leaves. -/
def CallPost (P : Program) (R : Ending → World → Prop) (fr : Frame) (w : World) : Prop := NoLoops w ∧ ∃ e, R e w ∧ fr.leaving P w e

/-- ████ A CONTRACT, FENCED, ON EVERY TAPE: SO IT WALKS IN COMPANY. ████ -/
theorem ev_of_calls (hC : CodeOk cal P Fe.fn) (hd : Fe.depth = none) {n : Nat} {f : FuncId} {args : Array Value} {w : World} {R : Ending → World → Prop} {main : Bool} {cs : List Frame}
    (hcall : ∀ τ d, CallsIn Fe n P f args (re w τ d) R) (hR : ∀ e w' τ d, R e w' → R e (re w' τ d)) (hno : ∀ w', ¬ R .outgrown w') (hw : NoLoops w) :
    Ev P KeptD (StopZ cal P Fe.fn cs (CallPost P R)) main (G (Frame.enter P f args .normal) cs) w := by
  have hf : Fe.fn f := (hcall w.tape w.drawn).1
  have hen := enter_ok hC hf args
  have hz : Zone cal P Fe.fn (Frame.enter P f args .normal) [] := ⟨hen.1, by simp⟩
  refine ev_of_every (ks := []) hC (fun fr w τ d hp => ⟨hp.1, hp.2.elim fun e he => ⟨e, hR e w τ d he.1, leaving_re hp.1 τ d he.2⟩⟩) hz hw fun τ d => ?_
  obtain ⟨e, w', fr, hr, hcomes, hfn, hlv⟩ := (hcall τ d).2 [wall P] fun x hx => by rw [hd] at hx; cases hx
  have hst : StepsIn (Machine.fenced P Fe) P (lone (Frame.enter P f args .normal) [wall P] (re w τ d)) (lone fr [wall P] w') ∧ fr.mode ≠ .run := by
    cases e with
    | returned v => exact ⟨hcomes, by rw [hlv.1]; simp⟩
    | panicked ch => exact ⟨hcomes, by rw [hlv.1]; simp⟩
    | outgrown => exact absurd hr (hno _)
  have hl := lone_of_steps (Post := fun fr w => ∃ e, R e w ∧ fr.leaving P w e) hC hst.1 _ [] _ rfl hz (show NoLoops (re w τ d) from hw) fr w' rfl hst.2 ⟨e, hr, hlv⟩
  exact hl.keeps hC hz hw
end
end Go.Proofs.Ytibafngidpmgdab
